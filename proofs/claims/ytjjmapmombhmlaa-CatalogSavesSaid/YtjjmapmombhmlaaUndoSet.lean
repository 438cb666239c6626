/-
  Set, of a number, and how it is undone: contracts; what the law asks at its head.
-/
import Derived.Test.YtjjmapmombhmlaaUndoTry
namespace Go.Proofs.Ytjjmapmombhmlaa
open Go.RowKit

/-- a block of one cell -/
def Box (b : Nat) (t : TypeId) (x : Value) (w : World) : Prop := w.heap[b]? = some (.cells #[x] t (0, 0))
theorem Box.cell {b : Nat} {t : TypeId} {x : Value} {w : World} (h : Box b t x w) : w.cell? ⟨b, 0, none⟩ = some x := by unfold Box at h; simp [World.cell?, h]
theorem Box.free {b : Nat} {t : TypeId} {x : Value} {w : World} (h : Box b t x w) : w.frozen? ⟨b, 0, none⟩ = false := by unfold Box at h; simp [World.frozen?, h]
theorem Box.lt {b : Nat} {t : TypeId} {x : Value} {w : World} (h : Box b t x w) : b < w.heap.size := cell_lt h.cell
theorem Box.keep {b : Nat} {t : TypeId} {x : Value} {S : Nat → Prop} {w w' : World} (h : Box b t x w) (k : Grew S w w') (hS : ¬ S b) : Box b t x w' := (k.block b h.lt hS).trans h
theorem Box.other {b : Nat} {t : TypeId} {x : Value} {w : World} (h : Box b t x w) (ht : t ≠ 1) : other b w := ⟨_, _, _, h, ht⟩
theorem Box.new (w : World) (t : TypeId) (x : Value) : Box w.heap.size t x (w.alloc (.cells #[x] t)) := heap_alloc_new w _
theorem Box.set {b : Nat} {t : TypeId} {x : Value} {w : World} (h : Box b t x w) (y : Value) : Box b t y (w.setCell ⟨b, 0, none⟩ y) := by
  unfold Box at h ⊢
  simp [World.setCell, Array.getElem?_modify, h]
theorem Box.keepSet {b : Nat} {t : TypeId} {x : Value} {w : World} (h : Box b t x w) (a o : Nat) (y : Value) (hn : b ≠ a) : Box b t x (w.setCell ⟨a, o, none⟩ y) := by
  unfold Box at h ⊢
  rw [Below.heap_setCell _ _ _ _ hn]
  exact h
theorem Box.keepAlloc {b : Nat} {t : TypeId} {x : Value} {w : World} (h : Box b t x w) (o : Obj) : Box b t x (w.alloc o) := (Below.heap_alloc _ _ _ h.lt).trans h
/-- how a Set is undone -/
theorem setBack_any (wb ab a o : Nat) (x y : Int) (w : World) (h1 : w.cell? ⟨wb, 0, none⟩ = some (.int .i64 x)) (h2 : w.cell? ⟨ab, 0, none⟩ = some (.pointer (some ⟨a, o, none⟩))) (h3 : w.cell? ⟨a, o, none⟩ = some (.int .i64 y)) (h4 : w.frozen? ⟨a, o, none⟩ = false) :
    Calls Try.prog 98 #[.pointer (some ⟨wb, 0, none⟩), .pointer (some ⟨ab, 0, none⟩)] w fun e w' => e = .returned (.tuple #[]) ∧ w' = w.setCell ⟨a, o, none⟩ (.int .i64 x) := by
  go_enter Try.func98, Try.ntmps98
  go_wp2_with fail
  go_end0
  exact ⟨rfl, rfl⟩
/-- a cell that is set: not the log's own -/
structure Cell (g a o : Nat) (x : Int) (w : World) : Prop where
  c : w.cell? ⟨a, o, none⟩ = some (.int .i64 x)
  f : w.frozen? ⟨a, o, none⟩ = false
  k : other a w
  n : a ≠ g ∨ 2 ≤ o
theorem LogAt.keepStore {B g dp a o : Nat} {v : Value} {fs : List Step} {x : Int} {w : World} (h : LogAt B g dp v fs w) (hc : Cell g a o x w) (y : Value) : LogAt B g dp v fs (w.setCell ⟨a, o, none⟩ y) := by
  by_cases hn : a = g
  · subst hn
    have ho : 2 ≤ o := hc.n.elim (fun e => absurd rfl e) id
    refine ⟨?_, ?_, by rw [World.frozen?_setCell]; exact h.f0, by rw [World.frozen?_setCell]; exact h.f1, ?_, h.kind.set _ _⟩
    · rw [World.cell?_setCell_other _ _ _ _ (by intro e; cases e; omega)]; exact h.c0
    · rw [World.cell?_setCell_other _ _ _ _ (by intro e; cases e; omega)]; exact h.c1
    · rcases h.row.2 with ⟨rfl, h0⟩ | ⟨b, cap, cur, rfl, a1, a2, a3, a4, a5, a6⟩
      · exact ⟨h.row.1, Or.inl ⟨rfl, h0⟩⟩
      · exact ⟨h.row.1, Or.inr ⟨b, cap, cur, rfl, a1, by rw [Below.heap_setCell _ _ _ _ (fun e => h.kind.ne h.row (congrArg some e))]; exact a2, a3, a4, a5, a6⟩⟩
  · exact h.keepSet a o y hc.k hn
theorem Cell.set {g a o : Nat} {x : Int} {w : World} (h : Cell g a o x w) (y : Int) : Cell g a o y (w.setCell ⟨a, o, none⟩ (.int .i64 y)) :=
  ⟨World.cell?_setCell_same _ _ _ h.c, by rw [World.frozen?_setCell]; exact h.f, h.k.set _ _, h.n⟩
theorem Cell.lt {g a o : Nat} {x : Int} {w : World} (h : Cell g a o x w) : a < w.heap.size := cell_lt h.c
theorem Cell.keep {g a o : Nat} {x : Int} {S : Nat → Prop} {w w' : World} (h : Cell g a o x w) (k : Grew S w w') (hS : ¬ S a) : Cell g a o x w' :=
  ⟨by rw [k.cell (p := ⟨a, o, none⟩) h.lt hS]; exact h.c, by rw [k.frozen (p := ⟨a, o, none⟩) h.lt hS]; exact h.f, h.k.block (k.block a h.lt hS), h.n⟩
theorem Cell.keepSet {g a o : Nat} {x : Int} {w : World} (h : Cell g a o x w) (b p : Nat) (y : Value) (hn : b ≠ a ∨ p ≠ o) : Cell g a o x (w.setCell ⟨b, p, none⟩ y) :=
  ⟨by rw [World.cell?_setCell_other _ _ _ _ (by simp; omega)]; exact h.c, by rw [World.frozen?_setCell]; exact h.f, h.k.set _ _, h.n⟩
/-- what a Set leaves, within a Try -/
structure SetTo (B g dp : Nat) (fs : List Step) (a o : Nat) (x y : Int) (v : Value) (w : World) (wb ab : Nat) (w' : World) : Prop where
  log : ∃ v', LogAt B g (dp + 1) v' (fs ++ [(98, #[.pointer (some ⟨wb, 0, none⟩), .pointer (some ⟨ab, 0, none⟩)])]) w'
  was : Box wb 3 (.int .i64 x) w'
  at' : Box ab 75 (.pointer (some ⟨a, o, none⟩)) w'
  new1 : w.heap.size ≤ wb
  new2 : w.heap.size ≤ ab
  cell : Cell g a o y w'
  grew : Grew (fun k => k = g ∨ k = a ∨ v.ownBlock = some k) w w'
set_option maxRecDepth 10000 in
set_option maxHeartbeats 1000000 in
theorem set_some (B g dp a o : Nat) (x y : Int) (v : Value) (fs : List Step) (w : World) (h : LogAt B g (dp + 1) v fs w) (hl : fs.length < 100000) (hB : B ≤ w.heap.size) (hc : Cell g a o x w) :
    Calls Try.prog 53 #[.pointer (some ⟨g, 0, none⟩), .pointer (some ⟨a, o, none⟩), .int .i64 y] w fun e w' => e = .returned (.tuple #[]) ∧ ∃ wb ab, SetTo B g dp fs a o x y v w wb ab w' := by
  have hmf : ∀ (fn : Fn) (first cap : Array Value) (w : World), (Instr.makeFunc fn first cap).run Try.prog w = .ok (.func fn first cap) w := fun _ _ _ _ => rfl
  have hal := hc.lt
  obtain ⟨W, hW⟩ : ∃ W, (w.alloc (.cells #[.pointer (some ⟨a, o, none⟩)] 75)).alloc (.cells #[.int .i64 x] 3) = W := ⟨_, rfl⟩
  have hs1 : (w.alloc (.cells #[.pointer (some ⟨a, o, none⟩)] 75)).heap.size = w.heap.size + 1 := by simp
  have bA : Box w.heap.size 75 (.pointer (some ⟨a, o, none⟩)) W := by
    rw [← hW]
    exact (Box.new w _ _).keepAlloc _
  have bW : Box (w.heap.size + 1) 3 (.int .i64 x) W := by
    rw [← hW]
    have := Box.new (w.alloc (.cells #[.pointer (some ⟨a, o, none⟩)] 75)) 3 (.int .i64 x)
    rw [hs1] at this
    exact this
  have gW : Grew (fun _ => False) w W := by
    rw [← hW]
    exact ((Grew.refl w).alloc _).alloc _
  have hLW : LogAt B g (dp + 1) v fs W := h.keep gW (fun e => e) (fun _ _ e => e)
  have hcW : Cell g a o x W := hc.keep gW fun e => e
  have HB := Lib.hid (back_some B g dp v fs (98, #[.pointer (some ⟨w.heap.size + 1, 0, none⟩), .pointer (some ⟨w.heap.size, 0, none⟩)]) W hLW hl (Nat.le_trans hB gW.size))
  have HL := Lib.hid hLW
  have HC := Lib.hid hcW
  have HA := Lib.hid bA
  have HWb := Lib.hid bW
  have HG := Lib.hid gW
  have HGl := Lib.hid h.lt
  have c1 := hc.c
  have c1' : (w.alloc (.cells #[.pointer (some ⟨a, o, none⟩)] 75)).cell? ⟨a, o, none⟩ = some (.int .i64 x) := by rw [World.cell?_alloc_past (hn := hal)]; exact c1
  clear gW bA bW hLW hcW h hc
  subst hW
  unfold stepV at HB
  go_enter Try.func53, Try.ntmps53
  go_wp2_with fail
  refine HB.out.mono ?_
  rintro e w1 ⟨rfl, v', hl1, hg1, hk1, hk2⟩
  have hgl := HGl.out
  have ha1 := HA.out.keep hg1 (by
    rintro (e | e)
    · omega
    · exact (HA.out.other (by decide)).ne HL.out.row e)
  have hw1 := HWb.out.keep hg1 (by
    rintro (e | e)
    · omega
    · exact (HWb.out.other (by decide)).ne HL.out.row e)
  have hcx : Cell g a o x w1 := by
    by_cases hag : a = g
    · subst hag
      have ho : 2 ≤ o := HC.out.n.elim (fun e => absurd rfl e) id
      exact ⟨by rw [hk1 o (by omega)]; exact HC.out.c, by rw [hk2 o]; exact HC.out.f, hl1.kind, HC.out.n⟩
    · exact HC.out.keep hg1 (by
        rintro (e | e)
        · exact hag e
        · exact HC.out.k.ne HL.out.row e)
  have c2 := ha1.cell
  have c3 := hcx.c
  have f3 := hcx.f
  have gF : Grew (fun k => k = g ∨ k = a ∨ v.ownBlock = some k) w w1 := (HG.out.mono (T := fun k => k = g ∨ k = a ∨ v.ownBlock = some k) (fun _ _ e => False.elim e)).step hg1 (fun _ _ e => by
    rcases e with e | e
    · exact Or.inl e
    · exact Or.inr (Or.inr e))
  have HFin : Hid (SetTo B g dp fs a o x y v w (w.heap.size + 1) w.heap.size (w1.setCell ⟨a, o, none⟩ (.int .i64 y))) := Lib.hid
    ⟨⟨v', hl1.keepStore hcx _⟩, hw1.keepSet _ _ _ (by omega), ha1.keepSet _ _ _ (by omega), by omega, Nat.le_refl _, hcx.set y, gF.setCell _ _ fun _ => Or.inr (Or.inl rfl)⟩
  clear ha1 hw1 hcx hl1 hg1 hk1 hk2 gF
  go_wp2_with fail
  go_end0
  exact ⟨rfl, _, _, HFin.out⟩
/-- the law's head: two Sets, undone; one that stays -/
structure Head (g x w1 a1 w2 a2 : Nat) (k : Nat) (w : World) : Prop where
  b1 : Box w1 3 (.int .i64 1) w
  b2 : Box w2 3 (.int .i64 2) w
  p1 : Box a1 75 (.pointer (some ⟨x, 0, none⟩)) w
  p2 : Box a2 75 (.pointer (some ⟨x, 0, none⟩)) w
  c : Cell g x 0 ((k : Int) + 1) w
  n : w1 ≠ x ∧ w2 ≠ x ∧ a1 ≠ x ∧ a2 ≠ x ∧ w1 ≠ g ∧ w2 ≠ g ∧ a1 ≠ g ∧ a2 ≠ g ∧ x ≠ g
theorem Head.set1 {g x w1 a1 w2 a2 k : Nat} {w : World} (h : Head g x w1 a1 w2 a2 k w) (o : Nat) (y : Value) : Head g x w1 a1 w2 a2 k (w.setCell ⟨g, o, none⟩ y) := by
  obtain ⟨n1, n2, n3, n4, n5, n6, n7, n8, n9⟩ := h.n
  exact ⟨h.b1.keepSet _ _ _ n5, h.b2.keepSet _ _ _ n6, h.p1.keepSet _ _ _ n7, h.p2.keepSet _ _ _ n8, h.c.keepSet _ _ _ (Or.inl fun e => n9 e.symm), h.n⟩
theorem Head.back {g x w1 a1 w2 a2 k : Nat} {w : World} (h : Head g x w1 a1 w2 a2 k w) (j : Nat) (y : Int) (hy : y = (j : Int) + 1) : Head g x w1 a1 w2 a2 j (w.setCell ⟨x, 0, none⟩ (.int .i64 y)) := by
  subst hy
  obtain ⟨n1, n2, n3, n4, n5, n6, n7, n8, n9⟩ := h.n
  exact ⟨h.b1.keepSet _ _ _ n1, h.b2.keepSet _ _ _ n2, h.p1.keepSet _ _ _ n3, h.p2.keepSet _ _ _ n4, h.c.set _, h.n⟩
theorem Head.grew {g x w1 a1 w2 a2 k : Nat} {S : Nat → Prop} {w w' : World} (h : Head g x w1 a1 w2 a2 k w) (hg : Grew S w w') (hS : ¬ S w1 ∧ ¬ S w2 ∧ ¬ S a1 ∧ ¬ S a2 ∧ ¬ S x) : Head g x w1 a1 w2 a2 k w' :=
  ⟨h.b1.keep hg hS.1, h.b2.keep hg hS.2.1, h.p1.keep hg hS.2.2.1, h.p2.keep hg hS.2.2.2.1, h.c.keep hg hS.2.2.2.2, h.n⟩
/-- the two steps -/
def headSteps (w1 a1 w2 a2 : Nat) : List Step := [(98, #[.pointer (some ⟨w1, 0, none⟩), .pointer (some ⟨a1, 0, none⟩)]), (98, #[.pointer (some ⟨w2, 0, none⟩), .pointer (some ⟨a2, 0, none⟩)])]
set_option maxHeartbeats 1000000 in
theorem head1_any (B g x : Nat) (v : Value) (w : World) (h : LogAt B g 1 v [] w) (hB : B = w.heap.size) (hc : Cell g x 0 1 w) (hn : x ≠ g) (hv : v.ownBlock = none) :
    Calls Try.prog 52 #[.pointer (some ⟨g, 0, none⟩), .pointer (some ⟨x, 0, none⟩)] w fun e w' => e = Ends (some 7) ∧ ∃ w1 a1 w2 a2 v', LogAt B g 1 v' (headSteps w1 a1 w2 a2) w' ∧ Head g x w1 a1 w2 a2 2 w' ∧ Grew (fun k => k = g ∨ k = x) w w' := by
  have HS1 := Lib.hid (set_some B g 0 x 0 1 2 v [] w h (by decide) (by omega) hc)
  have HN := Lib.hid (And.intro h.lt hc.lt)
  clear h hc
  go_enter Try.func52, Try.ntmps52
  go_wp2_with fail
  refine HS1.out.mono ?_
  rintro e w1 ⟨rfl, wb1, ab1, ⟨v1, l1⟩, b1, p1, n1, n2, c1, g1⟩
  rw [hv] at g1
  have HS2 := Lib.hid (set_some B g 0 x 0 2 3 v1 _ w1 l1 (by simp) (by have := g1.size; omega) c1)
  have hv1 := l1.row
  clear HS1
  go_wp2_with fail
  refine HS2.out.mono ?_
  rintro e w2 ⟨rfl, wb2, ab2, ⟨v2, l2⟩, b2, p2, n3, n4, c2, g2⟩
  have hlt := HN.out
  have hl1 := b1.lt
  have hl2 := p1.lt
  have nb1 : ¬ (wb1 = g ∨ wb1 = x ∨ v1.ownBlock = some wb1) := fun e => by
    rcases e with e | e | e
    · omega
    · omega
    · exact (b1.other (by decide)).ne hv1 e
  have np1 : ¬ (ab1 = g ∨ ab1 = x ∨ v1.ownBlock = some ab1) := fun e => by
    rcases e with e | e | e
    · omega
    · omega
    · exact (p1.other (by decide)).ne hv1 e
  have HFin : Hid (LogAt B g 1 v2 (headSteps wb1 ab1 wb2 ab2) w2 ∧ Head g x wb1 ab1 wb2 ab2 2 w2 ∧ Grew (fun k => k = g ∨ k = x) w w2) := Lib.hid (by
    refine ⟨l2, ⟨b1.keep g2 nb1, b2, p1.keep g2 np1, p2, c2, by omega⟩, (g1.mono fun k _ e => ?_).step g2 fun k hk e => ?_⟩
    · rcases e with e | e | e
      · exact Or.inl e
      · exact Or.inr e
      · cases e
    · rcases e with e | e | e
      · exact Or.inl e
      · exact Or.inr e
      · exfalso
        have := (hv1.lt k e).1
        omega)
  clear HS2 l1 l2 b1 b2 p1 p2 c1 c2 g1 g2 hv1 nb1 np1
  have HF := Lib.hid (fail_any 7 w2)
  go_wp2_with fail
  refine HF.out.mono ?_
  rintro e w3 ⟨rfl, rfl⟩
  unfold failed
  go_wp2_with fail
  exact ⟨rfl, rfl, wb1, ab1, wb2, ab2, v2, HFin.out⟩
end Go.Proofs.Ytjjmapmombhmlaa
