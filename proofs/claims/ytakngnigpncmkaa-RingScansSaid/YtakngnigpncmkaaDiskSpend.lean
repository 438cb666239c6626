/-
  A disk's power: Arm, and what each call spends.
-/
import Derived.Test.YtakngnigpncmkaaDiskAt
namespace Go.Proofs.Ytakngnigpncmkaa
open Go.RowKit

/-- a cell of the struct is another one -/
theorem row_set {b len d j : Nat} {f : Nat → UInt8} {w : World} (v : Value) (h : RowAt b len f w) (hne : d ≠ b) : RowAt b len f (w.setCell ⟨d, j, none⟩ v) :=
  h.kept (S := fun k => k = d) ((Grew.refl w).setCell ⟨d, j, none⟩ v fun _ => rfl) (fun e => hne e.symm)
theorem set_same {w : World} {d j : Nat} {v v' : Value} (h : w.cell? ⟨d, j, none⟩ = some v) : (w.setCell ⟨d, j, none⟩ v').cell? ⟨d, j, none⟩ = some v' := World.cell?_setCell_same _ _ _ h
theorem set_off {w : World} {d j k : Nat} {v' : Value} (hne : j ≠ k) : (w.setCell ⟨d, j, none⟩ v').cell? ⟨d, k, none⟩ = w.cell? ⟨d, k, none⟩ := by
  exact World.cell?_setCell_other _ _ _ _ (fun e => hne (by cases e; rfl))
theorem set_free {w : World} {d j k : Nat} {v' : Value} : (w.setCell ⟨d, j, none⟩ v').frozen? ⟨d, k, none⟩ = w.frozen? ⟨d, k, none⟩ := by
  simp
theorem DiskAt.armed2 {m : DiskM} {w : World} (h : DiskAt m w) (a : Bool) : DiskAt { m with armed := a } (w.setCell ⟨m.d, 2, none⟩ (.bool a)) :=
  ⟨by simpa [World.setCell] using h.lt, h.n1, h.n2, h.n3, h.size, by rw [set_off (by decide)]; exact h.c0, by rw [set_off (by decide)]; exact h.c1, set_same h.c2, by rw [set_off (by decide)]; exact h.c3, by rw [set_off (by decide)]; exact h.c4, fun j => by rw [set_free]; exact h.free j, row_set _ h.sure h.n1, row_set _ h.there h.n2⟩
theorem DiskAt.left3 {m : DiskM} {w : World} (h : DiskAt m w) (a : Int) : DiskAt { m with left := a } (w.setCell ⟨m.d, 3, none⟩ (.int .i64 a)) :=
  ⟨by simpa [World.setCell] using h.lt, h.n1, h.n2, h.n3, h.size, by rw [set_off (by decide)]; exact h.c0, by rw [set_off (by decide)]; exact h.c1, by rw [set_off (by decide)]; exact h.c2, set_same h.c3, by rw [set_off (by decide)]; exact h.c4, fun j => by rw [set_free]; exact h.free j, row_set _ h.sure h.n1, row_set _ h.there h.n2⟩
theorem DiskAt.dead4 {m : DiskM} {w : World} (h : DiskAt m w) (a : Bool) : DiskAt { m with dead := a } (w.setCell ⟨m.d, 4, none⟩ (.bool a)) :=
  ⟨by simpa [World.setCell] using h.lt, h.n1, h.n2, h.n3, h.size, by rw [set_off (by decide)]; exact h.c0, by rw [set_off (by decide)]; exact h.c1, by rw [set_off (by decide)]; exact h.c2, by rw [set_off (by decide)]; exact h.c3, set_same h.c4, fun j => by rw [set_free]; exact h.free j, row_set _ h.sure h.n1, row_set _ h.there h.n2⟩
theorem arm_any (m : DiskM) (n : Int) (w : World) (h : DiskAt m w) :
    Calls Try.prog 58 #[.pointer (some ⟨m.d, 0, none⟩), .int .i64 n] w fun e w' => e = .returned (.tuple #[]) ∧ (w.setCell ⟨m.d, 2, none⟩ (.bool true)).setCell ⟨m.d, 3, none⟩ (.int .i64 (max n 0)) = w' := by
  have c2 := h.c2
  have c3 := h.c3
  have f2 := h.free 2
  have f3 := h.free 3
  clear h
  go_enter Try.func58, Try.ntmps58
  by_cases hn : n < 0
  · go_wp2
    go_end0
    exact ⟨rfl, by rw [Int.max_eq_right (by omega)]⟩
  · go_wp2
    go_end0
    exact ⟨rfl, by rw [Int.max_eq_left (by omega)]⟩
theorem spend_free (m : DiskM) (w : World) (h : DiskAt m w) (ha : m.armed = false) :
    Calls Try.prog 91 #[.pointer (some ⟨m.d, 0, none⟩)] w fun e w' => e = .returned (.tuple #[]) ∧ w = w' := by
  have c2 := h.c2
  rw [ha] at c2
  clear h ha
  go_enter Try.func91, Try.ntmps91
  go_wp2_with fail
  refine bodyPost_ret (results_none rfl _ _ _) rfl ?_
  exact ⟨rfl, rfl⟩
theorem spend_one (m : DiskM) (w : World) (h : DiskAt m w) (ha : m.armed = true) (h0 : 0 < m.left) (h1 : m.left ≤ 2 ^ 62) :
    Calls Try.prog 91 #[.pointer (some ⟨m.d, 0, none⟩)] w fun e w' => e = .returned (.tuple #[]) ∧ w.setCell ⟨m.d, 3, none⟩ (.int .i64 (m.left - 1)) = w' := by
  have c2 := h.c2
  have c3 := h.c3
  have f3 := h.free 3
  have hl : ¬ m.left = 0 := by omega
  rw [ha] at c2
  have hw : wrap64 (m.left - 1) = m.left - 1 := by
    unfold wrap64
    omega
  clear h ha h0
  go_enter Try.func91, Try.ntmps91
  go_wp2_with fail
  go_end0
  exact ⟨rfl, rfl⟩
theorem spend_cut (m : DiskM) (w : World) (h : DiskAt m w) (ha : m.armed = true) (h0 : m.left = 0) :
    Calls Try.prog 91 #[.pointer (some ⟨m.d, 0, none⟩)] w fun e w' => e = failed 12 ∧ w.setCell ⟨m.d, 4, none⟩ (.bool true) = w' := by
  have c2 := h.c2
  have c3 := h.c3
  have c4 := h.c4
  have f4 := h.free 4
  rw [ha] at c2
  rw [h0] at c3
  clear h ha h0
  go_enter Try.func91, Try.ntmps91
  go_wp2_with fail
  refine (fail_any 12 _).mono ?_
  rintro e w' ⟨rfl, rfl⟩
  exact ⟨rfl, rfl, rfl⟩
end Go.Proofs.Ytakngnigpncmkaa
