/-
  A heap within a Try: who is gone, set and undone: contracts.
-/
import Derived.Test.YtjjmapmombhmlaaHeapTry
namespace Go.Proofs.Ytjjmapmombhmlaa
open Go.RowKit Go.Maps Go.ChangeMaps Go.WideShapes

theorem HeapI.gone {b : HB} {s : HS} {w : World} (ok : b.ok) (h : HeapI b s w) (G : List Nat) (u : Value) (hu : w.ownsRow b.B 3 1 u G.length (intsG G)) (hn : G = [] → u = .slice none 0 0) : HeapI b { s with G := G } (w.setCell ⟨b.hb, 5, none⟩ u) := by
  have k : Grew (fun q => q = b.blk 0) w (w.setCell ⟨b.hb, 5, none⟩ u) := (Grew.refl (S := fun q => q = b.blk 0) w).setCell _ _ fun _ => rfl
  have c := h.but ok (j := 0) (by decide) k
  obtain ⟨v, e5, _⟩ := h.c5
  have o : ∀ j, j ≠ 5 → (w.setCell ⟨b.hb, 5, none⟩ u).cell? ⟨b.hb, j, none⟩ = w.cell? ⟨b.hb, j, none⟩ := fun j hj => World.cell?_setCell_other _ _ _ _ (by intro e; cases e; exact hj rfl)
  refine ⟨(o 0 (by decide)).trans h.c0, (o 1 (by decide)).trans h.c1, (o 2 (by decide)).trans h.c2, (o 3 (by decide)).trans h.c3, (o 4 (by decide)).trans h.c4, ⟨_, World.cell?_setCell_same _ _ _ e5, ownInt_keep hu k fun q hq e => ?_⟩, (o 6 (by decide)).trans h.c6, fun x => by rw [World.frozen?_setCell]; exact h.fr x, c.gr (by decide) (by decide), c.rf (by decide), c.yg (by decide), c.dk (by decide), c.sz, h.kd.set _ _, fun e => (World.cell?_setCell_same _ _ _ e5).trans (congrArg some (hn e))⟩
  have a1 := (hu.lt q hq).1
  have a2 := ok.lt 0 (by decide)
  have e' : q = b.blk 0 := e
  omega
def stepG (x y : Nat) : Step := (126, #[.pointer (some ⟨x, 0, none⟩), .pointer (some ⟨y, 0, none⟩)])
structure GBox (b : HB) (x y : Nat) (v : Value) (w : World) : Prop where
  bx : w.heap[x]? = some (.cells #[v] 40)
  by' : w.heap[y]? = some (.cells #[.pointer (some ⟨b.hb, 5, none⟩)] 128)
set_option maxRecDepth 100000 in
theorem gStep_any (b : HB) (s : HS) (a : Option Addr) (n c : Nat) (x y : Nat) (w : World) (d1 : w.cell? ⟨x, 0, none⟩ = some (.slice a n c)) (d2 : w.cell? ⟨y, 0, none⟩ = some (.pointer (some ⟨b.hb, 5, none⟩))) (h : HeapI b s w) : Calls Try.prog 126 #[.pointer (some ⟨x, 0, none⟩), .pointer (some ⟨y, 0, none⟩)] w fun e w' => e = .returned (.tuple #[]) ∧ w.setCell ⟨b.hb, 5, none⟩ (.slice a n c) = w' := by
  obtain ⟨v, c5, _⟩ := h.c5
  have f5 := h.fr 5
  clear h
  go_enter Try.func126, Try.ntmps126
  go_wp2_with fail
  go_end0
  exact ⟨rfl, rfl⟩
set_option maxRecDepth 100000 in
theorem goodG (b : HB) (ok : b.ok) (s s0 : HS) (a : Option Addr) (n c x y : Nat) (w : World) (hB : GBox b x y (.slice a n c) w) (hS : ¬ b.S0 x ∧ ¬ b.S0 y) (ho : w.ownsRow b.B 3 1 (.slice a n c) s0.G.length (intsG s0.G)) (hn : s0.G = [] → (Value.slice a n c) = .slice none 0 0) (h0 : { s with G := s0.G } = s0) : Good b.B b.g b.S0 (HeapI b) (stepG x y) s s0 w := by
  refine ⟨fun _ => rfl, fun k => k = x ∨ k = y ∨ (Value.slice a n c).ownBlock = some k, ?_, ?_⟩
  · rintro k (rfl | rfl | hk)
    · exact ⟨hS.1, _, _, _, hB.bx, by decide, by decide⟩
    · exact ⟨hS.2, _, _, _, hB.by', by decide, by decide⟩
    · obtain ⟨cc, fz, e⟩ := Lib.ownsRow_kind ho k hk
      refine ⟨?_, cc, _, fz, e, by decide, by decide⟩
      rintro ⟨i, hi, rfl⟩
      have a1 := (ho.lt _ hk).1
      have a2 := ok.lt i hi
      omega
  · intro wx hx hI
    have p1 := hx x (Or.inl rfl)
    have p2 := hx y (Or.inr (Or.inl rfl))
    rw [hB.bx] at p1
    rw [hB.by'] at p2
    have hox : wx.ownsRow b.B 3 1 (.slice a n c) s0.G.length (intsG s0.G) := by
      rcases ho.2 with ⟨e, h0⟩ | ⟨r, cap, cur, e, a1, a2, a3, a4, a5, a6⟩
      · exact ⟨ho.1, Or.inl ⟨e, h0⟩⟩
      · exact ⟨ho.1, Or.inr ⟨r, cap, cur, e, a1, (hx r (Or.inr (Or.inr (by rw [e]; rfl)))).trans a2, a3, a4, a5, a6⟩⟩
    refine (gStep_any b s a n c x y wx (by simp [World.cell?, p1]) (by simp [World.cell?, p2]) hI).mono ?_
    rintro e w' ⟨rfl, rfl⟩
    have g : Grew (fun q => q = b.hb) wx (wx.setCell ⟨b.hb, 5, none⟩ (.slice a n c)) := (Grew.refl wx).setCell _ _ fun _ => rfl
    refine ⟨rfl, ?_, g.mono fun q _ e => Or.inl ⟨0, by decide, e⟩, fun B' dp v fs hl => hl.keep g (fun e => ok.nd 1 0 (by decide) (by decide) (by decide) e) fun q hq e => ?_⟩
    · rw [← h0]
      exact hI.gone ok s0.G _ hox hn
    · subst e
      exact hI.kd.ne hl.row hq
end Go.Proofs.Ytjjmapmombhmlaa
