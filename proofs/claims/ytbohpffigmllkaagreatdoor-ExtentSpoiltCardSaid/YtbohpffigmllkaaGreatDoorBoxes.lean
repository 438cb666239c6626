/-
  Boxes, one behind the other.
-/
import Derived.Test.YtbohpffigmllkaaGreatDoorGuardGrew
namespace Go.Proofs.YtbohpffigmllkaaGreatDoor
open Go.RowKit

theorem boxNew {w : World} {t : TypeId} {v : Value} {b : Nat} (h : w.heap.size = b) : (w.alloc (.cells #[v] t)).cell? ⟨b, 0, none⟩ = some v := by subst h; simp
theorem boxFree {w : World} {t : TypeId} {v : Value} {b : Nat} (h : w.heap.size = b) : (w.alloc (.cells #[v] t)).frozen? ⟨b, 0, none⟩ = false := by subst h; simp
theorem boxOld {w : World} {o : Obj} {b : Nat} {v : Value} (h : w.cell? ⟨b, 0, none⟩ = some v) (hb : b < w.heap.size) : (w.alloc o).cell? ⟨b, 0, none⟩ = some v := by
  rw [World.cell?_alloc_past (hn := hb), h]
theorem boxOldFree {w : World} {o : Obj} {b : Nat} (h : w.frozen? ⟨b, 0, none⟩ = false) (hb : b < w.heap.size) : (w.alloc o).frozen? ⟨b, 0, none⟩ = false := by
  rw [World.frozen?_alloc_old (h := by simp; omega), h]
theorem box3 {w W : World} {v0 v1 v2 : Value} {t0 t1 t2 : TypeId} (h : ((w.alloc (.cells #[v0] t0)).alloc (.cells #[v1] t1)).alloc (.cells #[v2] t2) = W) :
    W.heap.size = w.heap.size + 3 ∧ (W.cell? ⟨w.heap.size, 0, none⟩ = some v0 ∧ W.cell? ⟨w.heap.size + 1, 0, none⟩ = some v1 ∧ W.cell? ⟨w.heap.size + 2, 0, none⟩ = some v2) ∧
      (W.frozen? ⟨w.heap.size, 0, none⟩ = false ∧ W.frozen? ⟨w.heap.size + 1, 0, none⟩ = false ∧ W.frozen? ⟨w.heap.size + 2, 0, none⟩ = false) := by
  subst h
  have s1 : (w.alloc (.cells #[v0] t0)).heap.size = w.heap.size + 1 := by simp
  have s2 : ((w.alloc (.cells #[v0] t0)).alloc (.cells #[v1] t1)).heap.size = w.heap.size + 2 := by simp
  exact ⟨by simp, ⟨boxOld (boxOld (boxNew rfl) (by omega)) (by omega), boxOld (boxNew s1) (by omega), boxNew s2⟩, boxOldFree (boxOldFree (boxFree rfl) (by omega)) (by omega), boxOldFree (boxFree s1) (by omega), boxFree s2⟩
theorem box4 {w W : World} {v0 v1 v2 v3 : Value} {t0 t1 t2 t3 : TypeId} (h : (((w.alloc (.cells #[v0] t0)).alloc (.cells #[v1] t1)).alloc (.cells #[v2] t2)).alloc (.cells #[v3] t3) = W) :
    W.heap.size = w.heap.size + 4 ∧ (W.cell? ⟨w.heap.size, 0, none⟩ = some v0 ∧ W.cell? ⟨w.heap.size + 1, 0, none⟩ = some v1 ∧ W.cell? ⟨w.heap.size + 2, 0, none⟩ = some v2 ∧ W.cell? ⟨w.heap.size + 3, 0, none⟩ = some v3) ∧
      (W.frozen? ⟨w.heap.size, 0, none⟩ = false ∧ W.frozen? ⟨w.heap.size + 1, 0, none⟩ = false ∧ W.frozen? ⟨w.heap.size + 2, 0, none⟩ = false ∧ W.frozen? ⟨w.heap.size + 3, 0, none⟩ = false) := by
  obtain ⟨s, ⟨a, b, c⟩, d, e, f⟩ := box3 (w := w) (v0 := v0) (v1 := v1) (v2 := v2) (t0 := t0) (t1 := t1) (t2 := t2) rfl
  subst h
  exact ⟨by simp, ⟨boxOld a (by omega), boxOld b (by omega), boxOld c (by omega), boxNew s⟩, boxOldFree d (by omega), boxOldFree e (by omega), boxOldFree f (by omega), boxFree s⟩
theorem boxBelow3 {w : World} (o0 o1 o2 : Obj) : Below w.heap.size w (((w.alloc o0).alloc o1).alloc o2) :=
  ((((Below.refl _ _).alloc (Nat.le_refl _) _).alloc (by simp) _).alloc (by simp; omega) _)
theorem boxBelow4 {w : World} (o0 o1 o2 o3 : Obj) : Below w.heap.size w ((((w.alloc o0).alloc o1).alloc o2).alloc o3) :=
  (boxBelow3 o0 o1 o2).alloc (by simp; omega) _
end Go.Proofs.YtbohpffigmllkaaGreatDoor
