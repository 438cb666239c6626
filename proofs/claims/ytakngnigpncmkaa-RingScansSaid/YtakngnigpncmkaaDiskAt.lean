/-
  A disk in memory: its struct, its two rows; the small calls.
-/
import Derived.Test.YtakngnigpncmkaaPackGuard
import Derived.Test.YtakngnigpncmkaaGuardGrew
namespace Go.Proofs.Ytakngnigpncmkaa
open Go.RowKit

/-- a row of bytes -/
structure RowAt (b len : Nat) (f : Nat → UInt8) (w : World) : Prop where
  lt : b < w.heap.size
  cell : ∀ j, j < len → w.cell? ⟨b, j, none⟩ = some (.int .u8 ((f j).toNat : Int))
  free : ∀ j, j < len → w.frozen? ⟨b, j, none⟩ = false
theorem RowAt.kept {b len : Nat} {f : Nat → UInt8} {S : Nat → Prop} {w w' : World} (h : RowAt b len f w) (g : Grew S w w') (hS : ¬ S b) : RowAt b len f w' :=
  ⟨Nat.lt_of_lt_of_le h.lt g.size, fun j hj => by rw [g.cell (p := ⟨b, j, none⟩) h.lt hS]; exact h.cell j hj, fun j hj => by rw [g.frozen (p := ⟨b, j, none⟩) h.lt hS]; exact h.free j hj⟩
/-- what a disk is: where it lies, how many sectors, what is sure, what is there, its power -/
structure DiskM where
  d : Nat
  bs : Nat
  bt : Nat
  n : Nat
  cs : Nat
  ct : Nat
  S : Nat → UInt8
  T : Nat → UInt8
  armed : Bool
  left : Int
  dead : Bool
structure DiskAt (m : DiskM) (w : World) : Prop where
  lt : m.d < w.heap.size
  n1 : m.d ≠ m.bs
  n2 : m.d ≠ m.bt
  n3 : m.bs ≠ m.bt
  size : m.n ≤ 4096
  c0 : w.cell? ⟨m.d, 0, none⟩ = some (.slice (some ⟨m.bs, 0, none⟩) m.n m.cs)
  c1 : w.cell? ⟨m.d, 1, none⟩ = some (.slice (some ⟨m.bt, 0, none⟩) m.n m.ct)
  c2 : w.cell? ⟨m.d, 2, none⟩ = some (.bool m.armed)
  c3 : w.cell? ⟨m.d, 3, none⟩ = some (.int .i64 m.left)
  c4 : w.cell? ⟨m.d, 4, none⟩ = some (.bool m.dead)
  free : ∀ j, w.frozen? ⟨m.d, j, none⟩ = false
  sure : RowAt m.bs (64 * m.n) m.S w
  there : RowAt m.bt (64 * m.n) m.T w
/-- the blocks of a disk -/
def DiskM.own (m : DiskM) : Nat → Prop := fun k => k = m.d ∨ k = m.bs ∨ k = m.bt
theorem DiskAt.kept {m : DiskM} {S : Nat → Prop} {w w' : World} (h : DiskAt m w) (g : Grew S w w') (h1 : ¬ S m.d) (h2 : ¬ S m.bs) (h3 : ¬ S m.bt) : DiskAt m w' := by
  have c : ∀ j v, w.cell? ⟨m.d, j, none⟩ = some v → w'.cell? ⟨m.d, j, none⟩ = some v := fun j v hc => by rw [g.cell (p := ⟨m.d, j, none⟩) h.lt h1]; exact hc
  exact ⟨Nat.lt_of_lt_of_le h.lt g.size, h.n1, h.n2, h.n3, h.size, c _ _ h.c0, c _ _ h.c1, c _ _ h.c2, c _ _ h.c3, c _ _ h.c4, fun j => by rw [g.frozen (p := ⟨m.d, j, none⟩) h.lt h1]; exact h.free j, h.sure.kept g h2, h.there.kept g h3⟩

theorem len_any (m : DiskM) (w : World) (h : DiskAt m w) :
    Calls Try.prog 19 #[.pointer (some ⟨m.d, 0, none⟩)] w fun e w' => e = .returned (.int .i64 m.n) ∧ w = w' := by
  have c1 := h.c1
  clear h
  go_enter Try.func19, Try.ntmps19
  go_wp2
  go_ret
  exact ⟨rfl, rfl⟩
theorem dead_any (m : DiskM) (w : World) (h : DiskAt m w) :
    Calls Try.prog 24 #[.pointer (some ⟨m.d, 0, none⟩)] w fun e w' => e = .returned (.bool m.dead) ∧ w = w' := by
  have c4 := h.c4
  clear h
  go_enter Try.func24, Try.ntmps24
  go_wp2
  go_ret
  exact ⟨rfl, rfl⟩
theorem power_ok (m : DiskM) (w : World) (h : DiskAt m w) (hd : m.dead = false) :
    Calls Try.prog 85 #[.pointer (some ⟨m.d, 0, none⟩)] w fun e w' => e = .returned (.tuple #[]) ∧ w = w' := by
  have c4 := h.c4
  rw [hd] at c4
  clear h hd
  go_enter Try.func85, Try.ntmps85
  go_wp2_with fail
  go_end0
  exact ⟨rfl, rfl⟩
theorem power_cut (m : DiskM) (w : World) (h : DiskAt m w) (hd : m.dead = true) :
    Calls Try.prog 85 #[.pointer (some ⟨m.d, 0, none⟩)] w fun e w' => e = failed 12 ∧ w = w' := by
  have c4 := h.c4
  rw [hd] at c4
  clear h hd
  go_enter Try.func85, Try.ntmps85
  go_wp2_with fail
  refine (fail_any 12 _).mono ?_
  rintro e w' ⟨rfl, rfl⟩
  exact ⟨rfl, rfl, rfl⟩
theorem sector_ok (m : DiskM) (at' : Int) (w : World) (h : DiskAt m w) (h0 : 0 ≤ at') (h1 : at' < m.n) :
    Calls Try.prog 75 #[.pointer (some ⟨m.d, 0, none⟩), .int .i64 at'] w fun e w' => e = .returned (.tuple #[]) ∧ w = w' := by
  have H := Lib.hid (len_any m w h)
  have h2 : ¬ at' < 0 := by omega
  clear h h0
  go_enter Try.func75, Try.ntmps75
  go_wp2_with fail
  refine H.out.mono ?_
  rintro e w' ⟨rfl, rfl⟩
  go_wp2_with fail
  go_end0
  exact ⟨rfl, rfl⟩
theorem sector_not (m : DiskM) (at' : Int) (w : World) (h : DiskAt m w) (hn : at' < 0 ∨ m.n ≤ at') :
    Calls Try.prog 75 #[.pointer (some ⟨m.d, 0, none⟩), .int .i64 at'] w fun e w' => e = failed 6 ∧ w = w' := by
  have H := Lib.hid (len_any m w h)
  clear h
  by_cases h0 : at' < 0
  · clear hn
    go_enter Try.func75, Try.ntmps75
    go_wp2_with fail
    refine (fail_any 6 _).mono ?_
    rintro e w' ⟨rfl, rfl⟩
    exact ⟨rfl, rfl, rfl⟩
  · have h1 : (m.n : Int) ≤ at' := by omega
    clear hn
    go_enter Try.func75, Try.ntmps75
    go_wp2_with fail
    refine H.out.mono ?_
    rintro e w' ⟨rfl, rfl⟩
    go_wp2_with fail
    refine (fail_any 6 _).mono ?_
    rintro e w' ⟨rfl, rfl⟩
    exact ⟨rfl, rfl, rfl⟩
end Go.Proofs.Ytakngnigpncmkaa
