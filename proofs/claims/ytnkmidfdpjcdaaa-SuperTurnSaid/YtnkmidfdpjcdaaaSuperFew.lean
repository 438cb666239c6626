/-
  The law's few and Own, the document's Check: contracts.
-/
import Derived.Test.YtnkmidfdpjcdaaaSuperLawRead
import Derived.Laws.BitsAllLaws
namespace Go.Proofs.Ytnkmidfdpjcdaaa
open Go.RowKit

/-- a super as the document has it -/
def Sup.refCells (s : Sup) : Array Value := #[.int .i64 s.ep, .int .i64 s.j, .int .i64 s.b, .int .i64 s.h, .int .i64 s.nx]
theorem maskN (k : Int) (n : Nat) (hn : n < 4294967296) : ∃ p : Nat, bits .and .i64 k (n : Int) = (p : Int) ∧ p ≤ n := by
  have h : (BitVec.ofInt 64 k &&& BitVec.ofInt 64 n).toNat ≤ n := by
    rw [BitVec.toNat_and]
    refine Nat.le_trans Nat.and_le_right ?_
    rw [BitVec.toNat_ofInt]
    omega
  refine ⟨(BitVec.ofInt 64 k &&& BitVec.ofInt 64 n).toNat, ?_, h⟩
  show IntKind.i64.wrap ((BitVec.ofInt 64 k &&& BitVec.ofInt 64 n).toNat : Int) = _
  generalize (BitVec.ofInt 64 k &&& BitVec.ofInt 64 n).toNat = y at *
  simp only [IntKind.wrap, IntKind.bits, IntKind.signed]
  simp
  omega
theorem refSupSize : (Try.prog.info? 47).map (·.size) = some 5 := by kernel_rfl
set_option maxHeartbeats 1000000 in
theorem supFew_any (x0 x1 x2 x3 x4 : Int) : ∃ s : Sup, s.fits ∧ ∀ w : World,
    Calls Try.prog 22 #[.agg #[.int .i64 x0, .int .i64 x1, .int .i64 x2, .int .i64 x3, .int .i64 x4]] w fun e w' => e = .returned (.agg s.refCells) ∧ Below w.heap.size w w' := by
  obtain ⟨a0, h0, b0⟩ := maskN x0 4294967295 (by decide)
  obtain ⟨a1, h1, b1⟩ := maskN x1 65535 (by decide)
  obtain ⟨a2, h2, b2⟩ := maskN x2 65535 (by decide)
  obtain ⟨a3, h3, b3⟩ := maskN x3 65535 (by decide)
  obtain ⟨a4, h4, b4⟩ := maskN x4 4294967295 (by decide)
  have h0 : bits .and .i64 x0 4294967295 = (a0 : Int) := h0
  have h1 : bits .and .i64 x1 65535 = (a1 : Int) := h1
  have h2 : bits .and .i64 x2 65535 = (a2 : Int) := h2
  have h3 : bits .and .i64 x3 65535 = (a3 : Int) := h3
  have h4 : bits .and .i64 x4 4294967295 = (a4 : Int) := h4
  refine ⟨⟨a0, a1, a2, a3, a4⟩, ⟨by show a0 < _; omega, by show a1 < _; omega, by show a2 < _; omega, by show a3 < _; omega, by show a4 < _; omega⟩, fun w => ?_⟩
  dsimp only [Sup.refCells]
  clear b0 b1 b2 b3 b4
  go_enter Try.func22, Try.ntmps22
  go_wp2_with fail
  have hs1 : (w.alloc (.cells #[.int .i64 x0, .int .i64 x1, .int .i64 x2, .int .i64 x3, .int .i64 x4] 47)).heap.size = w.heap.size + 1 := by simp
  have hq := heap_alloc_new (w.alloc (.cells #[.int .i64 x0, .int .i64 x1, .int .i64 x2, .int .i64 x3, .int .i64 x4] 47)) (.cells #[.int .i64 (a0 : Int), .int .i64 (a1 : Int), .int .i64 (a2 : Int), .int .i64 (a3 : Int), .int .i64 (a4 : Int)] 47)
  rw [hs1] at hq
  refine bodyPost_ret (results_cell_row rfl _ _ (w.heap.size + 1) _ _ _ _ rfl hq Try.underlying47 rfl refSupSize) rfl ?_
  exact ⟨rfl, ((Below.refl _ _).alloc (Nat.le_refl _) _).alloc (by simp) _⟩
set_option maxHeartbeats 1000000 in
theorem own_any (s : Sup) (hs : s.fits) (w : World) : Calls Try.prog 23 #[.agg s.refCells] w fun e w' => e = .returned (.agg s.cells) ∧ Below w.heap.size w w' := by
  obtain ⟨a0, a1, a2, a3, a4⟩ := s
  have u0 := wrap_u32 a0 hs.ep
  have u4 := wrap_u32 a4 hs.nx
  clear hs
  dsimp only [Sup.refCells, Sup.cells] at *
  go_enter Try.func23, Try.ntmps23
  go_wp2_with fail
  have hs1 : (w.alloc (.cells #[.int .i64 (a0 : Int), .int .i64 (a1 : Int), .int .i64 (a2 : Int), .int .i64 (a3 : Int), .int .i64 (a4 : Int)] 47)).heap.size = w.heap.size + 1 := by simp
  have hq := heap_alloc_new (w.alloc (.cells #[.int .i64 (a0 : Int), .int .i64 (a1 : Int), .int .i64 (a2 : Int), .int .i64 (a3 : Int), .int .i64 (a4 : Int)] 47)) (.cells #[.int .u32 (a0 : Int), .int .i64 (a1 : Int), .int .i64 (a2 : Int), .int .i64 (a3 : Int), .int .u32 (a4 : Int)] 51)
  rw [hs1] at hq
  refine bodyPost_ret (results_cell_row rfl _ _ (w.heap.size + 1) _ _ _ _ rfl hq Try.underlying51 rfl supSize) rfl ?_
  exact ⟨rfl, ((Below.refl _ _).alloc (Nat.le_refl _) _).alloc (by simp) _⟩
end Go.Proofs.Ytnkmidfdpjcdaaa
