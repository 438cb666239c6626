/-
  For the laws of super: boxes that stay, max and min, the document's sector of a super, a blank disk.
-/
import Derived.Test.YtnkmidfdpjcdaaaSuperAwake
import Derived.Deep.DeepCutAuto
import Derived.Deep.RegionHeld3
namespace Go.Proofs.Ytnkmidfdpjcdaaa
open Go.RowKit

theorem run_max2 (P : Program) (w : World) (ts : Array TypeId) (t : TypeId) (x y z : Int) (h : z = max x y) : (Builtin.max_ ts t #[.int .i64 x, .int .i64 y]).run P w = .ok (.int .i64 z) w := by
  subst h
  by_cases hc : x < y
  · rw [Int.max_eq_right (by omega)]
    simp [Builtin.max_, Builtin.max2, hc]
  · rw [Int.max_eq_left (by omega)]
    simp [Builtin.max_, Builtin.max2, hc]
theorem run_min2 (P : Program) (w : World) (ts : Array TypeId) (t : TypeId) (x y z : Int) (h : z = min x y) : (Builtin.min_ ts t #[.int .i64 x, .int .i64 y]).run P w = .ok (.int .i64 z) w := by
  subst h
  by_cases hc : y < x
  · rw [Int.min_eq_right (by omega)]
    simp [Builtin.min_, Builtin.min2, hc]
  · rw [Int.min_eq_left (by omega)]
    simp [Builtin.min_, Builtin.min2, hc]
/-- a block holds these cells -/
def Holds (b : Nat) (o : Obj) (w : World) : Prop := w.heap[b]? = some o
theorem Holds.lt {b : Nat} {o : Obj} {w : World} (h : Holds b o w) : b < w.heap.size := by
  rcases Nat.lt_or_ge b w.heap.size with h1 | h1
  · exact h1
  · unfold Holds at h
    rw [Array.getElem?_eq_none h1] at h; cases h
theorem Holds.new (w : World) (o : Obj) : Holds w.heap.size o (w.alloc o) := heap_alloc_new w o
theorem Holds.below {b : Nat} {o : Obj} {w w' : World} (h : Holds b o w) (hb : Below w.heap.size w w') : Holds b o w' := (hb.block b h.lt).trans h
theorem Holds.alloc {b : Nat} {o : Obj} {w : World} (h : Holds b o w) (o' : Obj) : Holds b o (w.alloc o') := (Below.heap_alloc _ _ _ h.lt).trans h
theorem Holds.drew {b : Nat} {o : Obj} {w : World} (h : Holds b o w) : Holds b o w.drew := h
theorem Holds.grew {b : Nat} {o : Obj} {w w' : World} {S : Nat → Prop} (h : Holds b o w) (g : Grew S w w') (hS : ¬ S b) : Holds b o w' := (g.block b h.lt hS).trans h
theorem Holds.set {b : Nat} {o : Obj} {w : World} (h : Holds b o w) (p : Addr) (v : Value) (hne : b ≠ p.block) : Holds b o (w.setCell p v) := (Below.heap_setCell _ _ _ _ hne).trans h
theorem Holds.set5 {b g : Nat} {o : Obj} {w : World} (h : Holds b o w) (hne : b ≠ g) (v0 v1 v2 v3 v4 : Value) : Holds b o (((((w.setCell ⟨g, 0, none⟩ v0).setCell ⟨g, 1, none⟩ v1).setCell ⟨g, 2, none⟩ v2).setCell ⟨g, 3, none⟩ v3).setCell ⟨g, 4, none⟩ v4) :=
  ((((h.set _ _ hne).set _ _ hne).set _ _ hne).set _ _ hne).set _ _ hne
theorem Holds.five {g : Nat} {t : TypeId} {a b c d e : Value} {w : World} (h : Holds g (.cells #[a, b, c, d, e] t) w) (v0 v1 v2 v3 v4 : Value) : Holds g (.cells #[v0, v1, v2, v3, v4] t) (((((w.setCell ⟨g, 0, none⟩ v0).setCell ⟨g, 1, none⟩ v1).setCell ⟨g, 2, none⟩ v2).setCell ⟨g, 3, none⟩ v3).setCell ⟨g, 4, none⟩ v4) := five_set h v0 v1 v2 v3 v4
theorem Holds.ref {s : Sup} {x : Nat} {w : World} (h : Holds x (.cells s.refCells 47) w) : (w.cell? ⟨x, 0, none⟩ = some (.int .i64 s.ep) ∧ w.cell? ⟨x, 1, none⟩ = some (.int .i64 s.j) ∧ w.cell? ⟨x, 2, none⟩ = some (.int .i64 s.b) ∧ w.cell? ⟨x, 3, none⟩ = some (.int .i64 s.h) ∧ w.cell? ⟨x, 4, none⟩ = some (.int .i64 s.nx)) := fiveAt h
theorem Holds.sup {s : Sup} {x : Nat} {w : World} (h : Holds x (.cells s.cells 51) w) : (w.cell? ⟨x, 0, none⟩ = some (.int .u32 s.ep) ∧ w.cell? ⟨x, 1, none⟩ = some (.int .i64 s.j) ∧ w.cell? ⟨x, 2, none⟩ = some (.int .i64 s.b) ∧ w.cell? ⟨x, 3, none⟩ = some (.int .i64 s.h) ∧ w.cell? ⟨x, 4, none⟩ = some (.int .u32 s.nx)) := fiveAt h
theorem below_set5 {B : Nat} {W w : World} (h : Below B W w) (g : Nat) (hg : B ≤ g) (v0 v1 v2 v3 v4 : Value) : Below B W (((((w.setCell ⟨g, 0, none⟩ v0).setCell ⟨g, 1, none⟩ v1).setCell ⟨g, 2, none⟩ v2).setCell ⟨g, 3, none⟩ v3).setCell ⟨g, 4, none⟩ v4) :=
  ((((h.setCell hg _).setCell hg _).setCell hg _).setCell hg _).setCell hg _
/-- what Write leaves on a blank disk -/
theorem blank_wrote (d bs bt n : Nat) (s : Sup) (hs : s.fits) :
    (s.check n = 0 → lastOf (supW s (newDisk d bs bt n)) = s ∧ lastE (supW s (newDisk d bs bt n)) = none ∧ s.ep % 2 < n ∧ sectOf (supW s (newDisk d bs bt n)) (s.ep % 2) = s.frame) ∧
    (¬ s.check n = 0 → lastOf (supW s (newDisk d bs bt n)) = Sup.none ∧ lastE (supW s (newDisk d bs bt n)) = some 1 ∧ (supW s (newDisk d bs bt n)).looseTo n = []) := by
  constructor
  · intro hc
    have h0 := oneSup d bs bt n s hs hc
    have h2 := check_room s n hc
    have e : supW s (newDisk d bs bt n) = (newDisk d bs bt n).wrote (s.ep % 2) (txtf s.frame) := by
      unfold supW
      exact if_pos hc
    rw [e]
    exact ⟨h0.last, h0.err, by omega, sectOf_wrote _ _ _ s.frame_size⟩
  · intro hc
    have e : supW s (newDisk d bs bt n) = newDisk d bs bt n := by
      unfold supW
      exact if_neg hc
    rw [e]
    have hl : lastOf (newDisk d bs bt n) = Sup.none := last_none _ fun k _ => blank_ref (sectOf_blank d bs bt n k) _ _
    refine ⟨hl, ?_, loose_none _ n fun i _ => new_same d bs bt n i⟩
    unfold lastE
    rw [hl]
    rfl
theorem check_5000 (s : Sup) : ¬ s.check 5000 = 0 := by
  unfold Sup.check
  split
  · decide
  · rw [if_pos (by decide)]
    decide
theorem own_nil {w : World} {B n : Nat} {v : Value} (h : w.ownsRow B 3 1 v n (intsOf [])) : ∃ a c, v = .slice a 0 c := by
  have hn : n = 0 := by have := h.1; simp [intsOf] at this; exact this.symm
  subst hn
  obtain ⟨_, a, c, rfl⟩ := rowOwn h
  exact ⟨a, c, rfl⟩
end Go.Proofs.Ytnkmidfdpjcdaaa
