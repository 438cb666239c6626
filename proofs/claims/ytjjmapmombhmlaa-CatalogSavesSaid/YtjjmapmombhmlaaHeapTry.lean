/-
  An outermost Try of a heap: contract.
-/
import Derived.Test.YtjjmapmombhmlaaHeapLast
namespace Go.Proofs.Ytjjmapmombhmlaa
open Go.RowKit Go.Maps Go.ChangeMaps Go.WideShapes

/-- those that are gone are late, each once -/
structure GoneOk (b : HB) (s : HS) : Prop where
  all : ∀ x ∈ s.G, ∃ i, i < b.n ∧ x = b.f + i ∧ s.S i = 2
  nd : s.G.Nodup
  len : s.G.length < 100000
theorem GoneOk.nil {b : HB} {s : HS} (h : s.G = []) : GoneOk b s := ⟨by rw [h]; simp, by rw [h]; exact List.nodup_nil, by rw [h]; decide⟩
/-- behind an outermost Try -/
def HS.fin (b : HB) (s : HS) : HS := { goneS b s s.G.length with G := [] }
theorem HS.fin_nil (b : HB) (s : HS) (h : s.G = []) : s.fin b = s := by
  unfold HS.fin
  rw [h]
  show ({ goneS b s 0 with G := [] } : HS) = s
  rw [goneS_zero]
  cases s
  cases h
  rfl
theorem deep0_any (B g dp : Nat) (v : Value) (fs : List Step) (w : World) (h : LogAt B g dp v fs w) : Calls Try.prog 13 #[.pointer (some ⟨g, 0, none⟩)] w fun e w' => e = .returned (.int .i64 dp) ∧ w = w' := by
  have c0 := h.c0
  clear h
  go_enter Try.func13, Try.ntmps13
  go_wp2_with fail
  go_ret
  exact ⟨rfl, rfl⟩
set_option maxHeartbeats 1000000 in
theorem try_gen0 {σ : Type} {g : Nat} {S0 : Nat → Prop} {I : σ → World → Prop} (L : Logged g S0 I) (B dp : Nat) (v : Value) (fs : List Step) (run : FuncId) (cap : Array Value) (s0 : σ) (w : World) (hL : LogAt B g dp v fs w) (hd : dp < 100000) (hI : I s0 w) (R : Option Int → List Step → σ → World → Prop)
    (hcall : ∀ wy : World, (callFunc run cap).run Try.prog wy = .ok (.enter run cap) wy)
    (hrun : LogAt B g (dp + 1) v fs (tryWorld g dp w) → I s0 (tryWorld g dp w) → Calls Try.prog run cap (tryWorld g dp w) fun e w' => ∃ o fs' v' s1, e = Ends o ∧ LogAt B g (dp + 1) v' (fs ++ fs') w' ∧ (∀ k, o = some k → ¬ k = 0) ∧ I s1 w' ∧ Path B g S0 I fs' s0 s1 w' ∧ (fs ++ fs').length < 100000 ∧ Grew (Mut B S0 (tryWorld g dp w)) (tryWorld g dp w) w' ∧ R o fs' s1 w') :
    Calls Try.prog 51 #[.pointer (some ⟨g, 0, none⟩), .func (.func run) #[] cap] w fun e w' => ∃ o fs' s1 w1, e = .returned (.int .i64 (o.getD 0)) ∧ R o fs' s1 w1 ∧ Grew (fun k => Mut B S0 w1 k ∨ k = w.heap.size) w1 w' ∧ Grew (Mut B S0 w) w w' ∧ (dp = 0 → w'.cell? ⟨g, 1, none⟩ = some (.slice none 0 0)) ∧ w.heap.size < w1.heap.size ∧ w1.heap[w.heap.size]? = some errBox ∧
      ((o = none ∧ I s1 w' ∧ (∃ v', LogAt B g dp v' (if dp = 0 then [] else fs ++ fs') w') ∧ Path B g S0 I fs' s0 s1 w') ∨ (∃ k, o = some k ∧ ¬ k = 0 ∧ I s0 w' ∧ ∃ v', LogAt B g dp v' (if dp = 0 then [] else fs) w')) := by
  have hgl := hL.lt
  have hne : w.heap.size ≠ g := by omega
  have hL1 : LogAt B g (dp + 1) v fs (tryWorld g dp w) := (hL.deep (dp + 1)).keepAlloc _
  have hI1 : I s0 (tryWorld g dp w) := L.keep _ _ _ (L.set _ _ 0 (.int .i64 ((dp + 1 : Nat) : Int)) (by decide) hI) (grow_not S0 _ errBox)
  have hs1 := tryWorld_size g dp w
  have hb1 := tryWorld_box g dp w
  have hnm : ¬ Mut B S0 (tryWorld g dp w) w.heap.size := by
    rintro (m | m)
    · have := L.lt _ _ _ hI m
      omega
    · exact notFunc_err hb1 m
  have gW : Grew (Mut B S0 w) w (tryWorld g dp w) := (tryWorld_grew g dp w).mono fun x _ e => by subst e; exact Or.inl L.own
  have hend : ∀ wx, Grew (fun k => k = g) wx (endTry g dp wx) := fun wx => by
    unfold endTry
    by_cases h0 : dp = 0
    · rw [if_pos h0]
      exact ((Grew.refl (S := fun k => k = g) wx).setCell _ _ fun _ => rfl).setCell _ _ fun _ => rfl
    · rw [if_neg h0]
      exact (Grew.refl (S := fun k => k = g) wx).setCell _ _ fun _ => rfl
  have hendI : ∀ s wx, I s wx → I s (endTry g dp wx) := fun s wx h => by
    unfold endTry
    by_cases h0 : dp = 0
    · rw [if_pos h0]
      exact L.set _ _ 1 _ (by decide) (L.set _ _ 0 _ (by decide) h)
    · rw [if_neg h0]
      exact L.set _ _ 0 _ (by decide) h
  have hns : ∀ s wx, I s wx → wx = wx → ¬ S0 w.heap.size := fun _ _ _ _ m => by
    have := L.lt _ _ _ hI m
    omega
  refine (try_any B g dp v fs run cap w hL hd
    (fun o fs' w' => ∃ s1, I s1 w' ∧ Path B g S0 I fs' s0 s1 w' ∧ (fs ++ fs').length < 100000 ∧ Grew (Mut B S0 (tryWorld g dp w)) (tryWorld g dp w) w' ∧ R o fs' s1 w')
    (fun k w' => ∃ fs' s1 w1, R (some k) fs' s1 w1 ∧ I s0 w' ∧ Grew (fun k => Mut B S0 w1 k ∨ k = w.heap.size) w1 w' ∧ Grew (Mut B S0 w) w w1 ∧ Grew (Mut B S0 w) w w' ∧ w.heap.size < w1.heap.size ∧ w1.heap[w.heap.size]? = some errBox) hcall ?_ ?_).mono ?_
  · refine (hrun hL1 hI1).mono ?_
    rintro e w' ⟨o, fs', v', s1, rfl, hl, hk, hi, hp, hlen, hgr, hR⟩
    refine ⟨o, fs', v', rfl, ?_, hl, hk, s1, hi, hp, hlen, hgr, hR⟩
    rw [hgr.block _ (by omega) hnm]
    exact hb1
  · rintro k fs' v' w' hbx hl ⟨s1, hi, hp, hlen, hgr, hR⟩
    have gd := done_alone w.heap.size (some k) w'
    have gdm : Grew (fun k => ¬ S0 k ∧ Touch w' k) w' (done w.heap.size (some k) w') := gd.mono fun x _ e => by subst e; exact ⟨hns _ _ hi rfl, _, _, _, hbx, Or.inr rfl⟩
    have hid := L.keep _ _ _ hi gdm
    have gw' : Grew (Mut B S0 w) w w' := gW.thenMut hgr
    have gwd : Grew (Mut B S0 w) w (done w.heap.size (some k) w') := gw'.err rfl (Nat.le_refl _)
    have hpd : Path B g S0 I fs' s0 s1 (done w.heap.size (some k) w') := hp.later (Kept.done hbx _)
    refine (undo_gen L B (dp + 1) fs.length fs fs' s0 s1 v' _ hl hid rfl hlen hpd).mono ?_
    rintro e w2 ⟨rfl, hv2, hi2, hg2⟩
    have hlt : w.heap.size < w'.heap.size := Nat.lt_of_lt_of_le (by rw [hs1]; omega) hgr.size
    have hgx : Grew (fun q => Mut B S0 w' q ∨ q = w.heap.size) w' w2 := (gd.mono fun x _ e => Or.inr e).step hg2 fun x hx m => by
      by_cases hxe : x = w.heap.size
      · exact Or.inr hxe
      · rcases m with m | ⟨hB, c, fz, e⟩
        · exact Or.inl (Or.inl m)
        · rw [gd.block x hx hxe] at e
          exact Or.inl (Or.inr ⟨hB, c, fz, e⟩)
    exact ⟨rfl, hv2, fs', s1, w', hR, hi2, hgx, gw', gwd.thenMut hg2, hlt, hbx⟩
  · rintro e w' ⟨o, rfl, w3, rfl, h⟩
    rcases h with ⟨rfl, fs', w1, ⟨s1, hi, hp, hlen, hgr, hR⟩, hbx, rfl, v', hl⟩ | ⟨k, rfl, hk, ⟨fs', s1, w1, hR, hi, hgx, gw1, gw3, hlt, hbx⟩, v', hl⟩
    · have gd := done_alone w.heap.size none w1
      have gdm : Grew (fun k => ¬ S0 k ∧ Touch w1 k) w1 (done w.heap.size none w1) := gd.mono fun x _ e => by subst e; exact ⟨hns _ _ hi rfl, _, _, _, hbx, Or.inr rfl⟩
      have hid := L.keep _ _ _ hi gdm
      have gw' : Grew (Mut B S0 w) w w1 := gW.thenMut hgr
      have gwd : Grew (Mut B S0 w) w (done w.heap.size none w1) := gw'.err rfl (Nat.le_refl _)
      have hlt : w.heap.size < w1.heap.size := Nat.lt_of_lt_of_le (by rw [hs1]; omega) hgr.size
      have hge := hend (done w.heap.size none w1)
      obtain ⟨v2, hl2⟩ := hl.endTry (dp := dp)
      refine ⟨none, fs', s1, w1, rfl, hR, ?_, gwd.step hge fun x _ e => by subst e; exact Or.inl L.own, fun e0 => by subst e0; exact (hl.end0 B).c1, hlt, hbx, Or.inl ⟨rfl, hendI _ _ hid, ⟨v2, hl2⟩, ?_⟩⟩
      · exact (gd.mono fun x _ e => Or.inr e).step hge fun x _ e => by subst e; exact Or.inl (Or.inl L.own)
      · exact (hp.later (Kept.done hbx _)).later (Kept.of (B := B) (hge.mono fun x _ e => by rw [e]; exact Or.inl L.own))
    · have hge := hend w3
      obtain ⟨v2, hl2⟩ := hl.endTry (dp := dp)
      exact ⟨some k, fs', s1, w1, rfl, hR, hgx.step hge fun x _ e => by subst e; exact Or.inl (Or.inl L.own), gw3.step hge fun x _ e => by subst e; exact Or.inl L.own, fun e0 => by subst e0; exact (hl.end0 B).c1, hlt, hbx, Or.inr ⟨k, rfl, hk, hendI _ _ hi, v2, hl2⟩⟩
/-- what an outermost Try of a heap leaves -/
structure Tried (b : HB) (s : HS) (w : World) (o : Option Int) (s1 : HS) (w1 w' : World) : Prop where
  st : HeapI b (if o = none then s1.fin b else s) w'
  log : LogAt b.B b.g 0 (.slice none 0 0) [] w'
  tail : Grew (fun k => Mut b.B b.S0 w1 k ∨ k = w.heap.size) w1 w'
  grew : Grew (Mut b.B b.S0 w) w w'
set_option maxRecDepth 100000 in
set_option maxHeartbeats 1000000 in
theorem hTry_any (b : HB) (ok : b.ok) (s : HS) (hs0 : s.G = []) (v : Value) (w : World) (h : HeapI b s w) (hl : LogAt b.B b.g 0 v [] w) (run : FuncId) (cap : Array Value) (R : Option Int → HS → World → Prop)
    (hcall : ∀ wy : World, (callFunc run cap).run Try.prog wy = .ok (.enter run cap) wy)
    (hrun : LogAt b.B b.g 1 v [] (tryWorld b.g 0 w) → HeapI b s (tryWorld b.g 0 w) → Calls Try.prog run cap (tryWorld b.g 0 w) fun e w' => ∃ o fs' v' s1, e = Ends o ∧ LogAt b.B b.g 1 v' fs' w' ∧ (∀ k, o = some k → ¬ k = 0) ∧ HeapI b s1 w' ∧ Path b.B b.g b.S0 (HeapI b) fs' s s1 w' ∧ fs'.length < 100000 ∧ Grew (Mut b.B b.S0 (tryWorld b.g 0 w)) (tryWorld b.g 0 w) w' ∧ (o = none → GoneOk b s1) ∧ R o s1 w') :
    Calls Try.prog 23 #[.pointer (some ⟨b.hb, 0, none⟩), .func (.func run) #[] cap] w fun e w' => ∃ o s1 w1, e = .returned (.int .i64 (o.getD 0)) ∧ R o s1 w1 ∧ Tried b s w o s1 w1 w' := by
  have HT := Lib.hid (try_gen0 (heapLogged ok) b.B 0 v [] run cap s w hl (by decide) h (fun o _ s1 w1 => (o = none → GoneOk b s1) ∧ R o s1 w1) hcall (fun a1 a2 => (hrun a1 a2).mono (by
    rintro e w' ⟨o, fs', v', s1, he, l1, hk, i1, p1, n1, g1, r1⟩
    exact ⟨o, fs', v', s1, he, l1, hk, i1, p1, n1, g1, r1⟩)))
  have c1 := h.c1
  have HS0 := Lib.hid hs0
  clear h hl hrun hs0
  go_enter Try.func23, Try.ntmps23
  go_wp2_with fail
  refine HT.out.mono ?_
  rintro e w2 ⟨o, fs', s1, w1, rfl, ⟨hgo, hR⟩, g12, g02, hz, _, _, hend⟩
  have hmid : HeapI b (if o = none then s1 else s) w2 ∧ (∃ v', LogAt b.B b.g 0 v' [] w2) ∧ GoneOk b (if o = none then s1 else s) ∧ (if o = none then s1 else s).fin b = if o = none then s1.fin b else s := by
    rcases hend with ⟨rfl, i2, hv, _⟩ | ⟨k, rfl, _, i2, hv⟩
    · exact ⟨i2, hv, hgo rfl, rfl⟩
    · exact ⟨i2, hv, GoneOk.nil HS0.out, s.fin_nil b HS0.out⟩
  obtain ⟨i2, ⟨v2, l2⟩, go2, e2⟩ := hmid
  obtain rfl : v2 = .slice none 0 0 := Option.some.inj (l2.c1.symm.trans (hz trivial))
  have HF := Lib.hid (freeGone_any b ok _ go2.all go2.nd go2.len w2 i2)
  have HD := Lib.hid (deep0_any b.B b.g 0 _ [] w2 l2)
  have c1 := i2.c1
  have HEnd : Hid (∀ w3, HeapI b { goneS b (if o = none then s1 else s) (if o = none then s1 else s).G.length with G := [] } w3 → Grew (fun q => q = b.hb ∨ q = b.q) w2 w3 → Tried b s w o s1 w1 w3) := Lib.hid fun w3 h3 g3 => by
    have g3' : ∀ x, (x = b.hb ∨ x = b.q) → b.S0 x := fun x e => by
      rcases e with e | e
      · exact ⟨0, by decide, e⟩
      · exact ⟨3, by decide, e⟩
    refine ⟨e2 ▸ h3, l2.keep g3 ?_ fun q hq e => ?_, g12.step g3 fun x _ e => Or.inl (Or.inl (g3' x e)), g02.step g3 fun x _ e => Or.inl (g3' x e)⟩
    · rintro (e | e)
      · exact ok.nd 1 0 (by decide) (by decide) (by decide) e
      · exact ok.nd 1 3 (by decide) (by decide) (by decide) e
    · have a1 := (l2.row.lt q hq).1
      obtain ⟨j, hj, rfl⟩ := g3' q e
      have := ok.lt j hj
      omega
  clear i2 l2 go2 e2 g12 g02 hend hgo HT HS0
  go_wp2_with fail
  refine HD.out.mono ?_
  rintro e w3 ⟨rfl, rfl⟩
  clear HD
  go_wp2_with fail
  refine HF.out.mono ?_
  rintro e w3 ⟨rfl, h3, g3⟩
  have HX := Lib.hid (HEnd.out w3 h3 g3)
  have HR := Lib.hid hR
  clear h3 g3 HEnd HF hR
  go_wp2_with fail
  go_ret
  exact ⟨o, s1, w1, rfl, HR.out, HX.out⟩
end Go.Proofs.Ytjjmapmombhmlaa
