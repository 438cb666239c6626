/-
  A journal in memory: its struct; New, Cost, Left, and the stamp of a frame: contracts.
-/
import Derived.Test.YtakngnigpncmkaaDiskSureMath
import Derived.Test.YtakngnigpncmkaaStampTornMath
import Derived.Test.YtakngnigpncmkaaCut
namespace Go.Proofs.Ytakngnigpncmkaa
open Go.RowKit

/-- a journal: where it lies, its disk, its first sector, how many, its epoch, how many frames there are -/
structure RingAt (r p f n ep u : Nat) (w : World) : Prop where
  c0 : w.cell? ⟨r, 0, none⟩ = some (.pointer (some ⟨p, 0, none⟩))
  c1 : w.cell? ⟨r, 1, none⟩ = some (.int .i64 f)
  c2 : w.cell? ⟨r, 2, none⟩ = some (.int .i64 n)
  c3 : w.cell? ⟨r, 3, none⟩ = some (.int .u32 ep)
  c4 : w.cell? ⟨r, 4, none⟩ = some (.int .i64 u)
  free : w.frozen? ⟨r, 4, none⟩ = false
theorem RingAt.lt {r p f n ep u : Nat} {w : World} (h : RingAt r p f n ep u w) : r < w.heap.size := cell_lt h.c0
theorem RingAt.keep {r p f n ep u : Nat} {S : Nat → Prop} {w w' : World} (h : RingAt r p f n ep u w) (g : Grew S w w') (hS : ¬ S r) : RingAt r p f n ep u w' :=
  ⟨by rw [g.cell (p := ⟨r, 0, none⟩) h.lt hS]; exact h.c0, by rw [g.cell (p := ⟨r, 1, none⟩) h.lt hS]; exact h.c1, by rw [g.cell (p := ⟨r, 2, none⟩) h.lt hS]; exact h.c2,
    by rw [g.cell (p := ⟨r, 3, none⟩) h.lt hS]; exact h.c3, by rw [g.cell (p := ⟨r, 4, none⟩) h.lt hS]; exact h.c4, by rw [g.frozen (p := ⟨r, 4, none⟩) h.lt hS]; exact h.free⟩
theorem RingAt.below {r p f n ep u : Nat} {w w' : World} (h : RingAt r p f n ep u w) (g : Below w.heap.size w w') : RingAt r p f n ep u w' := h.keep (Grew.of_below (S := fun _ => False) g) fun e => e
theorem RingAt.used {r p f n ep u : Nat} {w : World} (h : RingAt r p f n ep u w) (v : Nat) : RingAt r p f n ep v (w.setCell ⟨r, 4, none⟩ (.int .i64 v)) :=
  ⟨by rw [set_off (by decide)]; exact h.c0, by rw [set_off (by decide)]; exact h.c1, by rw [set_off (by decide)]; exact h.c2, by rw [set_off (by decide)]; exact h.c3, set_same h.c4, by rw [set_free]; exact h.free⟩
theorem ring_new (w : World) (p f n ep : Nat) (t : TypeId) : RingAt w.heap.size p f n ep 0 (w.alloc (.cells #[.pointer (some ⟨p, 0, none⟩), .int .i64 f, .int .i64 n, .int .u32 ep, .int .i64 0] t)) := by
  constructor <;> simp
theorem ringNew_any (p f : Nat) (n : Int) (ep : Nat) (w : World) :
    Calls Try.prog 43 #[.pointer (some ⟨p, 0, none⟩), .int .i64 f, .int .i64 n, .int .u32 ep] w fun e w' =>
      e = .returned (.pointer (some ⟨w.heap.size, 0, none⟩)) ∧ RingAt w.heap.size p f n.toNat ep 0 w' ∧ Below w.heap.size w w' := by
  by_cases h : n < 0
  · have hm : n.toNat = 0 := by omega
    go_enter Try.func43, Try.ntmps43
    go_wp2
    go_ret
    refine ⟨rfl, ?_, (Below.refl _ _).alloc (Nat.le_refl _) _⟩
    rw [hm]
    exact ring_new w p f 0 ep _
  · obtain ⟨k, rfl⟩ : ∃ k : Nat, n = k := ⟨n.toNat, by omega⟩
    go_enter Try.func43, Try.ntmps43
    go_wp2
    go_ret
    refine ⟨rfl, ?_, (Below.refl _ _).alloc (Nat.le_refl _) _⟩
    exact ring_new w p f k ep _
/-- how many frames a record takes -/
def costOf (size : Nat) : Nat := (max size 1 - 1) / 46 + 1
theorem cost_any (n : Nat) (w : World) (hn : n < 1000000) :
    Calls Try.prog 46 #[.int .i64 n] w fun e w' => e = .returned (.int .i64 (costOf n : Nat)) ∧ w = w' := by
  by_cases h : n < 1
  · obtain rfl : n = 0 := by omega
    go_enter Try.func46, Try.ntmps46
    go_wp2
    go_ret
    exact ⟨rfl, rfl⟩
  · obtain ⟨k, rfl⟩ : ∃ k : Nat, n = k + 1 := ⟨n - 1, by omega⟩
    have h1 : ¬ ((k + 1 : Nat) : Int) < 1 := by omega
    have h2 : ((k + 1 : Nat) : Int) - 1 = k := by omega
    have h3 : ((costOf (k + 1) : Nat) : Int) = (k : Int).tdiv 46 + 1 := by
      unfold costOf
      rw [Nat.max_eq_left (by omega)]
      show ((k / 46 + 1 : Nat) : Int) = _
      rw [Int.tdiv_eq_ediv_of_nonneg (by omega)]
      omega
    rw [h3]
    clear h3
    go_enter Try.func46, Try.ntmps46
    go_wp2
    go_ret
    exact ⟨rfl, rfl⟩
theorem left_any' (r p f n ep u : Nat) (w : World) (h : RingAt r p f n ep u w) (hn : n < 1000000) (hu : u < 1000000) :
    Calls Try.prog 47 #[.pointer (some ⟨r, 0, none⟩)] w fun e w' => e = .returned (.int .i64 ((n : Int) - (u : Int))) ∧ Below w.heap.size w w' := by
  have c2 := h.c2
  have c4 := h.c4
  have e2 : IntKind.i64.wrap ((n : Int) - (u : Int)) = (n : Int) - (u : Int) := IntWalk.i64_in _ (by omega)
  clear h
  go_enter Try.func47, Try.ntmps47
  go_wp2_with fail
  go_region_held3 (fun wx => wx.cell? ⟨r, 2, none⟩ = some (.int .i64 n) ∧ wx.cell? ⟨r, 4, none⟩ = some (.int .i64 u)) (exact ⟨c2, c4⟩) (fail)
  go_wp2_with fail
  go_ret
  exact ⟨by rw [← e2]; rfl, (Below.refl _ _).drew⟩
theorem ringStamp_any (r p f n ep u k : Nat) (w : World) (h : RingAt r p f n ep u w) (hk : k < 1000000) :
    Calls Try.prog 93 #[.pointer (some ⟨r, 0, none⟩), .int .i64 k] w fun e w' => e = .returned (.agg #[.int .u32 ep, .int .u32 ((k + 1 : Nat) : Int)]) ∧ Below w.heap.size w w' := by
  have c3 : (w.alloc (.cells #[.int .u32 0, .int .u32 0] 124)).cell? ⟨r, 3, none⟩ = some (.int .u32 ep) := by rw [World.cell?_alloc_past (hn := h.lt)]; exact h.c3
  clear h
  have e1 : IntKind.u32.wrap ((k : Int) + 1) = ((k + 1 : Nat) : Int) := by rw [show (k : Int) + 1 = ((k + 1 : Nat) : Int) by omega]; exact wrap_u32 _ (by omega)
  go_enter Try.func93, Try.ntmps93
  go_wp2_with fail
  refine bodyPost_ret (results_cell_row rfl _ _ w.heap.size _ _ _ _ rfl (heap_alloc_new w _) Try.underlying124 rfl size_stamp) rfl ?_
  exact ⟨rfl, (Below.refl _ _).alloc (Nat.le_refl _) _⟩
end Go.Proofs.Ytakngnigpncmkaa
