/-
  Blocks of the call's own whose cells are known one by one, and worlds that differ in one old block alone.
-/
import Derived.Test.YtheccbnejamhlaaDoorShaWalks
import Derived.Deep.MidRow
namespace Go.Proofs.YtheccbnejamhlaaDoor
open Go.RowKit

/-- the first n cells of block b -/
def Cells (b n : Nat) (f : Nat → Value) (w : World) : Prop := b < w.heap.size ∧ ∀ j, j < n → w.cell? ⟨b, j, none⟩ = some (f j) ∧ w.frozen? ⟨b, j, none⟩ = false
theorem Cells.congr {b n : Nat} {f g : Nat → Value} {w : World} (h : Cells b n f w) (e : ∀ j, j < n → f j = g j) : Cells b n g w :=
  ⟨h.1, fun j hj => by rw [← e j hj]; exact h.2 j hj⟩
theorem Cells.alloc {b n : Nat} {f : Nat → Value} {w : World} (h : Cells b n f w) (o : Obj) : Cells b n f (w.alloc o) := by
  refine ⟨by have := h.1; simp; omega, fun j hj => ?_⟩
  rw [World.cell?_alloc_past (hn := h.1), World.frozen?_alloc_old (h := by have := h.1; simp; omega)]
  exact h.2 j hj
theorem Cells.drew {b n : Nat} {f : Nat → Value} {w : World} (h : Cells b n f w) : Cells b n f w.drew := h
theorem Cells.set {b n : Nat} {f g : Nat → Value} {w : World} (h : Cells b n f w) (k : Nat) (v : Value) (hk : k < n) (hv : g k = v) (hg : ∀ j, j < n → j ≠ k → g j = f j) : Cells b n g (w.setCell ⟨b, k, none⟩ v) := by
  refine ⟨by have := h.1; simpa using this, fun j hj => ?_⟩
  rw [World.frozen?_setCell]
  refine ⟨?_, (h.2 j hj).2⟩
  by_cases e : j = k
  · subst e
    rw [World.cell?_setCell_same (h := (h.2 j hj).1), hv]
  · rw [World.cell?_setCell_other (h := by intro q; injection q with q1 q2 q3; exact e q2.symm), hg j hj e]
    exact (h.2 j hj).1
theorem Cells.far {b n : Nat} {f : Nat → Value} {w : World} (h : Cells b n f w) {c k : Nat} (v : Value) (hc : b ≠ c) : Cells b n f (w.setCell ⟨c, k, none⟩ v) := by
  refine ⟨by have := h.1; simpa using this, fun j hj => ?_⟩
  rw [World.frozen?_setCell, World.cell?_setCell_other (h := by intro q; injection q with q1 q2 q3; exact hc q1.symm)]
  exact h.2 j hj
theorem Cells.new (w : World) (n : Nat) (f : Nat → Value) (t : TypeId) (C : Array Value) (hC : ∀ j, j < n → C[j]? = some (f j)) : Cells w.heap.size n f (w.alloc (.cells C t)) := by
  refine ⟨by simp, fun j hj => ?_⟩
  rw [World.cell?_alloc_new, hC j hj]
  refine ⟨rfl, ?_⟩
  rw [World.frozen?_alloc_mark]
  simp
theorem Cells.there {b n : Nat} {f : Nat → Value} {w : World} (h : Cells b n f w) (o m : Nat) (hm : o + m ≤ n) : w.there b o m := fun j hj =>
  ⟨by rw [(h.2 (o + j) (by omega)).1]; rfl, (h.2 (o + j) (by omega)).2⟩
theorem Cells.range {b n : Nat} {f : Nat → Value} {w : World} (h : Cells b n f w) (o : Nat) (l : List Value) (hl : ∀ j v, l[j]? = some v → o + j < n ∧ f (o + j) = v) : w.rangeAt b o l := fun j v hv => by
  obtain ⟨h1, h2⟩ := hl j v hv
  rw [(h.2 _ h1).1, h2]
theorem Cells.farRow {b n : Nat} {f : Nat → Value} {w : World} (h : Cells b n f w) {c o : Nat} (l : List Value) (hc : b ≠ c) : Cells b n f (w.setCells c o l) := by
  induction l generalizing w o with
  | nil => exact h
  | cons v l ih => exact ih (h.far v hc)
theorem Cells.row {b n : Nat} {f : Nat → Value} {w : World} (h : Cells b n f w) (l : List Value) (g : Nat → Value) (hl : l.length = n) (hg : ∀ j, j < n → l[j]? = some (g j)) : Cells b n g (w.setCells b 0 l) := by
  refine ⟨?_, fun j hj => ?_⟩
  · have : ∀ (l : List Value) (o : Nat) (w : World), (w.setCells b o l).heap.size = w.heap.size := by
      intro l
      induction l with
      | nil => intro o w; rfl
      | cons v l ih => intro o w; exact (ih _ _).trans (by simp)
    rw [this]
    exact h.1
  · have ht := h.there 0 l.length (by omega)
    have r := World.rangeAt_setCells_same w b 0 l ht j (g j) (hg j hj)
    rw [Nat.zero_add] at r
    rw [World.frozen?_setCells]
    exact ⟨r, (h.2 j hj).2⟩

/-- below the old heap's end nothing has changed but block b -/
structure Only (b : Nat) (w w' : World) : Prop where
  os : w'.os = w.os
  tape : w'.tape = w.tape
  output : w'.output = w.output
  size : w.heap.size ≤ w'.heap.size
  block : ∀ k, k < w.heap.size → k ≠ b → w'.heap[k]? = w.heap[k]?
theorem Only.refl (b : Nat) (w : World) : Only b w w := ⟨rfl, rfl, rfl, Nat.le_refl _, fun _ _ _ => rfl⟩
theorem Only.trans {b : Nat} {u v w : World} (h : Only b u v) (k : Only b v w) : Only b u w :=
  ⟨k.os.trans h.os, k.tape.trans h.tape, k.output.trans h.output, Nat.le_trans h.size k.size, fun i hi hb => (k.block i (Nat.lt_of_lt_of_le hi h.size) hb).trans (h.block i hi hb)⟩
theorem Only.of_below {b : Nat} {w w' : World} (h : Below w.heap.size w w') : Only b w w' := ⟨h.os, h.tape, h.output, h.size, fun k hk _ => h.block k hk⟩
theorem Only.below {b B : Nat} {w w' : World} (h : Only b w w') (hb : B ≤ b) (hB : B ≤ w.heap.size) : Below B w w' :=
  ⟨h.os, h.tape, h.output, h.size, fun k hk => h.block k (by omega) (by omega)⟩
theorem Only.drew {b : Nat} {u w : World} (h : Only b u w) : Only b u w.drew := ⟨h.os, h.tape, h.output, h.size, h.block⟩
theorem Only.alloc {b : Nat} {u w : World} (h : Only b u w) (o : Obj) : Only b u (w.alloc o) :=
  h.trans (.of_below ((Below.refl _ _).alloc (Nat.le_refl _) _))
theorem Only.set {b : Nat} {u w : World} (h : Only b u w) {c k : Nat} (v : Value) (hc : c = b ∨ u.heap.size ≤ c) : Only b u (w.setCell ⟨c, k, none⟩ v) :=
  ⟨h.os, h.tape, h.output, by have := h.size; simpa using this, fun i hi hb => (Below.heap_setCell _ _ _ _ (by show i ≠ c; omega)).trans (h.block i hi hb)⟩
theorem Only.row {b : Nat} {u w : World} (h : Only b u w) {c o : Nat} (l : List Value) (hc : c = b ∨ u.heap.size ≤ c) : Only b u (w.setCells c o l) := by
  induction l generalizing w o with
  | nil => exact h
  | cons v l ih => exact ih (h.set v hc)
theorem Only.cells {b c n : Nat} {f : Nat → Value} {w w' : World} (k : Only b w w') (h : Cells c n f w) (hc : c ≠ b) : Cells c n f w' := by
  refine ⟨Nat.lt_of_lt_of_le h.1 k.size, fun j hj => ?_⟩
  have hb := k.block c h.1 hc
  rw [World.cell?_of_block (w := w) (a := ⟨c, j, none⟩) hb, World.frozen?_of_block (w := w) (a := ⟨c, j, none⟩) hb]
  exact h.2 j hj
theorem Cells.below {b n : Nat} {f : Nat → Value} {w w' : World} (h : Cells b n f w) (k : Below w.heap.size w w') : Cells b n f w' := by
  refine ⟨Nat.lt_of_lt_of_le h.1 k.size, fun j hj => ?_⟩
  rw [k.cell (p := ⟨b, j, none⟩) h.1, k.frozen (p := ⟨b, j, none⟩) h.1]
  exact h.2 j hj
end Go.Proofs.YtheccbnejamhlaaDoor
