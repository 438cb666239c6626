/-
  SuperTurn: its three boxes while it runs.
-/
import Derived.Test.YtnkmidfdpjcdaaaSuperKit
import Derived.Test.YtnkmidfdpjcdaaaSuperCut
import Derived.Test.YtnkmidfdpjcdaaaHeldTill
import Derived.Deep.Cut
namespace Go.Proofs.Ytnkmidfdpjcdaaa
open Go.RowKit

abbrev sets5 (w : World) (g : Nat) (v0 v1 v2 v3 v4 : Value) : World := ((((w.setCell ⟨g, 0, none⟩ v0).setCell ⟨g, 1, none⟩ v1).setCell ⟨g, 2, none⟩ v2).setCell ⟨g, 3, none⟩ v3).setCell ⟨g, 4, none⟩ v4
abbrev refBox (a0 a1 a2 a3 a4 : Int) : Obj := .cells #[.int .i64 a0, .int .i64 a1, .int .i64 a2, .int .i64 a3, .int .i64 a4] 47
/-- three boxes, and all that was there -/
structure Tri (w : World) (b0 b1 b2 : Nat) (X Y Z : Obj) (wx : World) : Prop where
  x : Holds b0 X wx
  y : Holds b1 Y wx
  z : Holds b2 Z wx
  below : Below w.heap.size w wx
  lo : w.heap.size ≤ b0
  h1 : b0 < b1
  h2 : b1 < b2
theorem Tri.step {w : World} {b0 b1 b2 : Nat} {X Y Z : Obj} {wx wy : World} (h : Tri w b0 b1 b2 X Y Z wx) (k : Below wx.heap.size wx wy) : Tri w b0 b1 b2 X Y Z wy :=
  ⟨h.x.below k, h.y.below k, h.z.below k, h.below.trans (k.mono h.below.size), h.lo, h.h1, h.h2⟩
theorem Tri.drew {w : World} {b0 b1 b2 : Nat} {X Y Z : Obj} {wx : World} (h : Tri w b0 b1 b2 X Y Z wx) : Tri w b0 b1 b2 X Y Z wx.drew := ⟨h.x.drew, h.y.drew, h.z.drew, h.below.drew, h.lo, h.h1, h.h2⟩
theorem Tri.grew {w : World} {b0 b1 b2 : Nat} {X Y Z : Obj} {S : Nat → Prop} {wx wy : World} (h : Tri w b0 b1 b2 X Y Z wx) (g : Grew S wx wy) (hS : ∀ k, S k → b2 < k) : Tri w b0 b1 b2 X Y Z wy := by
  have h1 := h.h1
  have h2 := h.h2
  have h0 := h.lo
  exact ⟨h.x.grew g fun e => by have := hS _ e; omega, h.y.grew g fun e => by have := hS _ e; omega, h.z.grew g fun e => by have := hS _ e; omega, g.below h.below h.below.size fun k e => by have := hS k e; omega, h0, h1, h2⟩
theorem Tri.alloc {w : World} {b0 b1 b2 : Nat} {X Y Z : Obj} {wx : World} (h : Tri w b0 b1 b2 X Y Z wx) (o : Obj) : Tri w b0 b1 b2 X Y Z (wx.alloc o) := h.step ((Below.refl _ _).alloc (Nat.le_refl _) _)
theorem Tri.setx {w : World} {b0 b1 b2 : Nat} {a0 a1 a2 a3 a4 : Int} {Y Z : Obj} {wx : World} (h : Tri w b0 b1 b2 (refBox a0 a1 a2 a3 a4) Y Z wx) (c0 c1 c2 c3 c4 : Int) :
    Tri w b0 b1 b2 (refBox c0 c1 c2 c3 c4) Y Z (sets5 wx b0 (.int .i64 c0) (.int .i64 c1) (.int .i64 c2) (.int .i64 c3) (.int .i64 c4)) := by
  have h1 := h.h1
  have h2 := h.h2
  exact ⟨h.x.five _ _ _ _ _, h.y.set5 (by omega) _ _ _ _ _, h.z.set5 (by omega) _ _ _ _ _, below_set5 h.below _ h.lo _ _ _ _ _, h.lo, h1, h2⟩
theorem Tri.sety {w : World} {b0 b1 b2 : Nat} {a0 a1 a2 a3 a4 : Int} {X Z : Obj} {wx : World} (h : Tri w b0 b1 b2 X (refBox a0 a1 a2 a3 a4) Z wx) (c0 c1 c2 c3 c4 : Int) :
    Tri w b0 b1 b2 X (refBox c0 c1 c2 c3 c4) Z (sets5 wx b1 (.int .i64 c0) (.int .i64 c1) (.int .i64 c2) (.int .i64 c3) (.int .i64 c4)) := by
  have h0 := h.lo
  have h1 := h.h1
  have h2 := h.h2
  exact ⟨h.x.set5 (by omega) _ _ _ _ _, h.y.five _ _ _ _ _, h.z.set5 (by omega) _ _ _ _ _, below_set5 h.below _ (by omega) _ _ _ _ _, h.lo, h1, h2⟩
theorem Tri.setz {w : World} {b0 b1 b2 : Nat} {a0 a1 a2 a3 a4 : Int} {X Y : Obj} {wx : World} (h : Tri w b0 b1 b2 X Y (refBox a0 a1 a2 a3 a4) wx) (c0 c1 c2 c3 c4 : Int) :
    Tri w b0 b1 b2 X Y (refBox c0 c1 c2 c3 c4) (sets5 wx b2 (.int .i64 c0) (.int .i64 c1) (.int .i64 c2) (.int .i64 c3) (.int .i64 c4)) := by
  have h0 := h.lo
  have h1 := h.h1
  have h2 := h.h2
  exact ⟨h.x.set5 (by omega) _ _ _ _ _, h.y.set5 (by omega) _ _ _ _ _, h.z.five _ _ _ _ _, below_set5 h.below _ (by omega) _ _ _ _ _, h.lo, h1, h2⟩
theorem Tri.set3 {w : World} {b0 b1 b2 : Nat} {a0 a1 a2 a3 a4 c0 c1 c2 c3 c4 d0 d1 d2 d3 d4 : Int} {wx : World} (h : Tri w b0 b1 b2 (refBox a0 a1 a2 a3 a4) (refBox c0 c1 c2 c3 c4) (refBox d0 d1 d2 d3 d4) wx) (x0 x1 x2 x3 x4 y0 y1 y2 y3 y4 z0 z1 z2 z3 z4 : Int) :
    Tri w b0 b1 b2 (refBox x0 x1 x2 x3 x4) (refBox y0 y1 y2 y3 y4) (refBox z0 z1 z2 z3 z4) (sets5 (sets5 (sets5 wx b0 (.int .i64 x0) (.int .i64 x1) (.int .i64 x2) (.int .i64 x3) (.int .i64 x4)) b1 (.int .i64 y0) (.int .i64 y1) (.int .i64 y2) (.int .i64 y3) (.int .i64 y4)) b2 (.int .i64 z0) (.int .i64 z1) (.int .i64 z2) (.int .i64 z3) (.int .i64 z4)) :=
  ((h.setx x0 x1 x2 x3 x4).sety y0 y1 y2 y3 y4).setz z0 z1 z2 z3 z4
theorem set0_five {b : Nat} {a0 a1 a2 a3 a4 : Int} {wx : World} (h : Holds b (refBox a0 a1 a2 a3 a4) wx) (c : Int) : Holds b (refBox c a1 a2 a3 a4) (wx.setCell ⟨b, 0, none⟩ (.int .i64 c)) := by
  unfold Holds at *
  simp [World.setCell, Array.getElem?_modify, h]
theorem Tri.set0x {w : World} {b0 b1 b2 : Nat} {a0 a1 a2 a3 a4 : Int} {Y Z : Obj} {wx : World} (h : Tri w b0 b1 b2 (refBox a0 a1 a2 a3 a4) Y Z wx) (c : Int) : Tri w b0 b1 b2 (refBox c a1 a2 a3 a4) Y Z (wx.setCell ⟨b0, 0, none⟩ (.int .i64 c)) := by
  have h1 := h.h1
  have h2 := h.h2
  exact ⟨set0_five h.x c, h.y.set _ _ (by show b1 ≠ b0; omega), h.z.set _ _ (by show b2 ≠ b0; omega), h.below.setCell h.lo _, h.lo, h1, h2⟩
theorem Tri.set0y {w : World} {b0 b1 b2 : Nat} {a0 a1 a2 a3 a4 : Int} {X Z : Obj} {wx : World} (h : Tri w b0 b1 b2 X (refBox a0 a1 a2 a3 a4) Z wx) (c : Int) : Tri w b0 b1 b2 X (refBox c a1 a2 a3 a4) Z (wx.setCell ⟨b1, 0, none⟩ (.int .i64 c)) := by
  have h0 := h.lo
  have h1 := h.h1
  have h2 := h.h2
  exact ⟨h.x.set _ _ (by show b0 ≠ b1; omega), set0_five h.y c, h.z.set _ _ (by show b2 ≠ b1; omega), h.below.setCell (by show w.heap.size ≤ b1; omega) _, h.lo, h1, h2⟩
theorem Tri.set0z {w : World} {b0 b1 b2 : Nat} {a0 a1 a2 a3 a4 : Int} {X Y : Obj} {wx : World} (h : Tri w b0 b1 b2 X Y (refBox a0 a1 a2 a3 a4) wx) (c : Int) : Tri w b0 b1 b2 X Y (refBox c a1 a2 a3 a4) (wx.setCell ⟨b2, 0, none⟩ (.int .i64 c)) := by
  have h0 := h.lo
  have h1 := h.h1
  have h2 := h.h2
  exact ⟨h.x.set _ _ (by show b0 ≠ b2; omega), h.y.set _ _ (by show b1 ≠ b2; omega), set0_five h.z c, h.below.setCell (by show w.heap.size ≤ b2; omega) _, h.lo, h1, h2⟩
theorem triNew (w : World) (X Y Z : Obj) : Tri w w.heap.size (w.heap.size + 1) (w.heap.size + 1 + 1) X Y Z (((w.alloc X).alloc Y).alloc Z) := by
  have hy := Holds.new (w.alloc X) Y
  have hz := Holds.new ((w.alloc X).alloc Y) Z
  rw [World.size_alloc] at hy
  rw [World.size_alloc, World.size_alloc] at hz
  exact ⟨((Holds.new w X).alloc _).alloc _, hy.alloc _, hz, boxBelow3 _ _ _, Nat.le_refl _, by omega, by omega⟩
theorem Tri.cells {w : World} {b0 b1 b2 : Nat} {a0 a1 a2 a3 a4 c0 c1 c2 c3 c4 d0 d1 d2 d3 d4 : Int} {wx : World} (h : Tri w b0 b1 b2 (refBox a0 a1 a2 a3 a4) (refBox c0 c1 c2 c3 c4) (refBox d0 d1 d2 d3 d4) wx) :
    (wx.cell? ⟨b0, 0, none⟩ = some (.int .i64 a0) ∧ wx.cell? ⟨b0, 1, none⟩ = some (.int .i64 a1) ∧ wx.cell? ⟨b0, 2, none⟩ = some (.int .i64 a2) ∧ wx.cell? ⟨b0, 3, none⟩ = some (.int .i64 a3) ∧ wx.cell? ⟨b0, 4, none⟩ = some (.int .i64 a4)) ∧ (wx.cell? ⟨b1, 0, none⟩ = some (.int .i64 c0) ∧ wx.cell? ⟨b1, 1, none⟩ = some (.int .i64 c1) ∧ wx.cell? ⟨b1, 2, none⟩ = some (.int .i64 c2) ∧ wx.cell? ⟨b1, 3, none⟩ = some (.int .i64 c3) ∧ wx.cell? ⟨b1, 4, none⟩ = some (.int .i64 c4)) ∧ (wx.cell? ⟨b2, 0, none⟩ = some (.int .i64 d0) ∧ wx.cell? ⟨b2, 1, none⟩ = some (.int .i64 d1) ∧ wx.cell? ⟨b2, 2, none⟩ = some (.int .i64 d2) ∧ wx.cell? ⟨b2, 3, none⟩ = some (.int .i64 d3) ∧ wx.cell? ⟨b2, 4, none⟩ = some (.int .i64 d4)) :=
  ⟨fiveAt h.x, fiveAt h.y, fiveAt h.z⟩
theorem keep15 {w : World} {b0 b1 b2 g : Nat} {a0 a1 a2 a3 a4 c0 c1 c2 c3 c4 : Int} {Z : Obj} {mc : DiskM} {v0 v1 v2 v3 v4 : Value} {t : TypeId} {wx : World}
    (h : Tri w b0 b1 b2 (refBox a0 a1 a2 a3 a4) (refBox c0 c1 c2 c3 c4) Z wx ∧ DiskAt mc wx ∧ Holds g (.cells #[v0, v1, v2, v3, v4] t) wx) :
    (wx.cell? ⟨g, 0, none⟩ = some v0 ∧ wx.cell? ⟨g, 1, none⟩ = some v1 ∧ wx.cell? ⟨g, 2, none⟩ = some v2 ∧ wx.cell? ⟨g, 3, none⟩ = some v3 ∧ wx.cell? ⟨g, 4, none⟩ = some v4) ∧ (wx.cell? ⟨b0, 0, none⟩ = some (.int .i64 a0) ∧ wx.cell? ⟨b0, 1, none⟩ = some (.int .i64 a1) ∧ wx.cell? ⟨b0, 2, none⟩ = some (.int .i64 a2) ∧ wx.cell? ⟨b0, 3, none⟩ = some (.int .i64 a3) ∧ wx.cell? ⟨b0, 4, none⟩ = some (.int .i64 a4)) ∧ (wx.cell? ⟨b1, 0, none⟩ = some (.int .i64 c0) ∧ wx.cell? ⟨b1, 1, none⟩ = some (.int .i64 c1) ∧ wx.cell? ⟨b1, 2, none⟩ = some (.int .i64 c2) ∧ wx.cell? ⟨b1, 3, none⟩ = some (.int .i64 c3) ∧ wx.cell? ⟨b1, 4, none⟩ = some (.int .i64 c4)) :=
  ⟨fiveAt h.2.2, fiveAt h.1.x, fiveAt h.1.y⟩
theorem keep10 {w : World} {b0 b1 b2 g : Nat} {c0 c1 c2 c3 c4 : Int} {X Z : Obj} {v0 v1 v2 v3 v4 : Value} {t : TypeId} {wx : World}
    (h : Tri w b0 b1 b2 X (refBox c0 c1 c2 c3 c4) Z wx ∧ Holds g (.cells #[v0, v1, v2, v3, v4] t) wx) : (wx.cell? ⟨g, 0, none⟩ = some v0 ∧ wx.cell? ⟨g, 1, none⟩ = some v1 ∧ wx.cell? ⟨g, 2, none⟩ = some v2 ∧ wx.cell? ⟨g, 3, none⟩ = some v3 ∧ wx.cell? ⟨g, 4, none⟩ = some v4) ∧ (wx.cell? ⟨b1, 0, none⟩ = some (.int .i64 c0) ∧ wx.cell? ⟨b1, 1, none⟩ = some (.int .i64 c1) ∧ wx.cell? ⟨b1, 2, none⟩ = some (.int .i64 c2) ∧ wx.cell? ⟨b1, 3, none⟩ = some (.int .i64 c3) ∧ wx.cell? ⟨b1, 4, none⟩ = some (.int .i64 c4)) :=
  ⟨fiveAt h.2, fiveAt h.1.y⟩
end Go.Proofs.Ytnkmidfdpjcdaaa
