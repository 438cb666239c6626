/-
  A log that guards a part of a state: what isn't guarded is an index, and stays as it is when steps go back.
-/
import Derived.Test.YtemnkffaapljpaaHeapFn
namespace Go.Proofs.Ytemnkffaapljpaa
open Go.RowKit Go.Maps Go.ChangeMaps Go.WideShapes
section
variable {σ ι : Type} {B g : Nat} {S0 : Nat → Prop} {I : ι → σ → World → Prop}
/-- what was done at this depth: outside of a Try no step is remembered -/
structure Ran {σ ι : Type} (B g d : Nat) (S0 : Nat → Prop) (I : ι → σ → World → Prop) (fs : List Step) (n : Nat) (j' : ι) (s s' : σ) (w w' : World) : Prop where
  log : ∃ v' fs', LogAt B g d v' (fs ++ fs') w' ∧ fs'.length ≤ n ∧ (0 < d → ∀ j, Path B g S0 (I j) fs' s s' w') ∧ (d = 0 → fs' = [])
  st : I j' s' w'
  grew : Grew (Mut B S0 w) w w'
theorem Ran.one {B dp : Nat} {fs : List Step} {j' : ι} {s s' : σ} {w w' : World} {v' : Value} {st : Step} (h : LogAt B g (dp + 1) v' (fs ++ [st]) w') (hI : I j' s' w') (hG : ∀ j, Good B g S0 (I j) st s' s w') (hg : Grew (Mut B S0 w) w w') : Ran B g (dp + 1) S0 I fs 1 j' s s' w w' :=
  ⟨⟨v', [st], h, Nat.le_refl _, fun _ j => (Path.nil s w').snoc (hG j), fun e => absurd e (Nat.succ_ne_zero _)⟩, hI, hg⟩
theorem Ran.none {B d : Nat} {fs : List Step} {j : ι} {s : σ} {w : World} {v : Value} (h : LogAt B g d v fs w) (hI : I j s w) : Ran B g d S0 I fs 0 j s s w w :=
  ⟨⟨v, [], by rw [List.append_nil]; exact h, Nat.le_refl _, fun _ _ => Path.nil s w, fun _ => rfl⟩, hI, Grew.refl w⟩
theorem Ran.out {B : Nat} {j : ι} {s s' : σ} {w w' : World} {v : Value} (h : LogAt B g 0 v [] w') (hI : I j s' w') (hg : Grew (Mut B S0 w) w w') : Ran B g 0 S0 I [] 0 j s s' w w' :=
  ⟨⟨v, [], h, Nat.le_refl _, fun e => absurd e (Nat.lt_irrefl 0), fun _ => rfl⟩, hI, hg⟩
/-- one behind the other; the second's steps stand behind the first's -/
theorem Ran.chain {B d n m : Nat} {fs fs1 : List Step} {j2 : ι} {s s1 s2 : σ} {w w1 w2 : World} (n1 : fs1.length ≤ n) (p1 : 0 < d → ∀ j, Path B g S0 (I j) fs1 s s1 w1) (z1 : d = 0 → fs1 = []) (g1 : Grew (Mut B S0 w) w w1) (k : Ran B g d S0 I (fs ++ fs1) m j2 s1 s2 w1 w2) : Ran B g d S0 I fs (n + m) j2 s s2 w w2 := by
  obtain ⟨⟨v2, fs2, l2, n2, p2, z2⟩, i2, g2⟩ := k
  exact ⟨⟨v2, fs1 ++ fs2, by rw [← List.append_assoc]; exact l2, by rw [List.length_append]; omega, fun h j => ((p1 h j).later (Kept.of g2)).append (p2 h j), fun h => by rw [z1 h, z2 h]; rfl⟩, i2, g1.thenMut g2⟩
theorem Ran.mono {B d n m : Nat} {fs : List Step} {j : ι} {s s1 : σ} {w w1 : World} (h : Ran B g d S0 I fs n j s s1 w w1) (hm : n ≤ m) : Ran B g d S0 I fs m j s s1 w w1 := by
  obtain ⟨⟨v1, fs1, l1, n1, p1⟩, i1, g1⟩ := h
  exact ⟨⟨v1, fs1, l1, Nat.le_trans n1 hm, p1⟩, i1, g1⟩
set_option maxHeartbeats 1000000 in
theorem try_genA (L : ∀ j, Logged g S0 (I j)) (B dp : Nat) (v : Value) (fs : List Step) (run : FuncId) (cap : Array Value) (j0 : ι) (s0 : σ) (w : World) (hL : LogAt B g dp v fs w) (hd : dp < 100000) (hI : I j0 s0 w) (R : Option Int → List Step → ι → σ → World → Prop)
    (hcall : ∀ wy : World, (callFunc run cap).run Try.prog wy = .ok (.enter run cap) wy)
    (hrun : LogAt B g (dp + 1) v fs (tryWorld g dp w) → I j0 s0 (tryWorld g dp w) → Calls Try.prog run cap (tryWorld g dp w) fun e w' => ∃ o fs' v' j1 s1, e = Ends o ∧ LogAt B g (dp + 1) v' (fs ++ fs') w' ∧ (∀ k, o = some k → ¬ k = 0) ∧ I j1 s1 w' ∧ (∀ j, Path B g S0 (I j) fs' s0 s1 w') ∧ (fs ++ fs').length < 100000 ∧ Grew (Mut B S0 (tryWorld g dp w)) (tryWorld g dp w) w' ∧ R o fs' j1 s1 w') :
    Calls Try.prog 19 #[.pointer (some ⟨g, 0, none⟩), .func (.func run) #[] cap] w fun e w' => ∃ o fs' j1 s1 w1, e = .returned (.int .i64 (o.getD 0)) ∧ R o fs' j1 s1 w1 ∧ Grew (fun k => Mut B S0 w1 k ∨ k = w.heap.size) w1 w' ∧ Grew (Mut B S0 w) w w' ∧ w.heap.size < w1.heap.size ∧ w1.heap[w.heap.size]? = some errBox ∧
      ((o = none ∧ I j1 s1 w' ∧ (∃ v', LogAt B g dp v' (if dp = 0 then [] else fs ++ fs') w') ∧ ∀ j, Path B g S0 (I j) fs' s0 s1 w') ∨ (∃ k, o = some k ∧ ¬ k = 0 ∧ I j1 s0 w' ∧ ∃ v', LogAt B g dp v' (if dp = 0 then [] else fs) w')) := by
  have hgl := hL.lt
  have hne : w.heap.size ≠ g := by omega
  have hL1 : LogAt B g (dp + 1) v fs (tryWorld g dp w) := (hL.deep (dp + 1)).keepAlloc _
  have hI1 : I j0 s0 (tryWorld g dp w) := (L j0).keep _ _ _ ((L j0).set _ _ 0 (.int .i64 ((dp + 1 : Nat) : Int)) (by decide) hI) (grow_not S0 _ errBox)
  have hs1 := tryWorld_size g dp w
  have hb1 := tryWorld_box g dp w
  have hnm : ¬ Mut B S0 (tryWorld g dp w) w.heap.size := by
    rintro (m | m)
    · have := (L j0).lt _ _ _ hI m
      omega
    · exact notFunc_err hb1 m
  have gW : Grew (Mut B S0 w) w (tryWorld g dp w) := (tryWorld_grew g dp w).mono fun x _ e => by subst e; exact Or.inl (L j0).own
  have hend : ∀ wx, Grew (fun k => k = g) wx (endTry g dp wx) := fun wx => by
    unfold endTry
    by_cases h0 : dp = 0
    · rw [if_pos h0]
      exact ((Grew.refl (S := fun k => k = g) wx).setCell _ _ fun _ => rfl).setCell _ _ fun _ => rfl
    · rw [if_neg h0]
      exact (Grew.refl (S := fun k => k = g) wx).setCell _ _ fun _ => rfl
  have hendI : ∀ j s wx, I j s wx → I j s (endTry g dp wx) := fun j s wx h => by
    unfold endTry
    by_cases h0 : dp = 0
    · rw [if_pos h0]
      exact (L j).set _ _ 1 _ (by decide) ((L j).set _ _ 0 _ (by decide) h)
    · rw [if_neg h0]
      exact (L j).set _ _ 0 _ (by decide) h
  have hns : ¬ S0 w.heap.size := fun m => by
    have := (L j0).lt _ _ _ hI m
    omega
  refine (try_any B g dp v fs run cap w hL hd
    (fun o fs' w' => ∃ j1 s1, I j1 s1 w' ∧ (∀ j, Path B g S0 (I j) fs' s0 s1 w') ∧ (fs ++ fs').length < 100000 ∧ Grew (Mut B S0 (tryWorld g dp w)) (tryWorld g dp w) w' ∧ R o fs' j1 s1 w')
    (fun k w' => ∃ fs' j1 s1 w1, R (some k) fs' j1 s1 w1 ∧ I j1 s0 w' ∧ Grew (fun k => Mut B S0 w1 k ∨ k = w.heap.size) w1 w' ∧ Grew (Mut B S0 w) w w1 ∧ Grew (Mut B S0 w) w w' ∧ w.heap.size < w1.heap.size ∧ w1.heap[w.heap.size]? = some errBox) hcall ?_ ?_).mono ?_
  · refine (hrun hL1 hI1).mono ?_
    rintro e w' ⟨o, fs', v', j1, s1, rfl, hl, hk, hi, hp, hlen, hgr, hR⟩
    refine ⟨o, fs', v', rfl, ?_, hl, hk, j1, s1, hi, hp, hlen, hgr, hR⟩
    rw [hgr.block _ (by omega) hnm]
    exact hb1
  · rintro k fs' v' w' hbx hl ⟨j1, s1, hi, hp, hlen, hgr, hR⟩
    have gd := done_alone w.heap.size (some k) w'
    have gdm : Grew (fun k => ¬ S0 k ∧ Touch w' k) w' (done w.heap.size (some k) w') := gd.mono fun x _ e => by subst e; exact ⟨hns, _, _, _, hbx, Or.inr rfl⟩
    have hid := (L j1).keep _ _ _ hi gdm
    have gw' : Grew (Mut B S0 w) w w' := gW.thenMut hgr
    have gwd : Grew (Mut B S0 w) w (done w.heap.size (some k) w') := gw'.err rfl (Nat.le_refl _)
    have hpd : Path B g S0 (I j1) fs' s0 s1 (done w.heap.size (some k) w') := (hp j1).later (Kept.done hbx _)
    refine (undo_gen (L j1) B (dp + 1) fs.length fs fs' s0 s1 v' _ hl hid rfl hlen hpd).mono ?_
    rintro e w2 ⟨rfl, hv2, hi2, hg2⟩
    have hlt : w.heap.size < w'.heap.size := Nat.lt_of_lt_of_le (by rw [hs1]; omega) hgr.size
    have hgx : Grew (fun q => Mut B S0 w' q ∨ q = w.heap.size) w' w2 := (gd.mono fun x _ e => Or.inr e).step hg2 fun x hx m => by
      by_cases hxe : x = w.heap.size
      · exact Or.inr hxe
      · rcases m with m | ⟨hB, c, fz, e⟩
        · exact Or.inl (Or.inl m)
        · rw [gd.block x hx hxe] at e
          exact Or.inl (Or.inr ⟨hB, c, fz, e⟩)
    exact ⟨rfl, hv2, fs', j1, s1, w', hR, hi2, hgx, gw', gwd.thenMut hg2, hlt, hbx⟩
  · rintro e w' ⟨o, rfl, w3, rfl, h⟩
    rcases h with ⟨rfl, fs', w1, ⟨j1, s1, hi, hp, hlen, hgr, hR⟩, hbx, rfl, v', hl⟩ | ⟨k, rfl, hk, ⟨fs', j1, s1, w1, hR, hi, hgx, gw1, gw3, hlt, hbx⟩, v', hl⟩
    · have gd := done_alone w.heap.size none w1
      have gdm : Grew (fun k => ¬ S0 k ∧ Touch w1 k) w1 (done w.heap.size none w1) := gd.mono fun x _ e => by subst e; exact ⟨hns, _, _, _, hbx, Or.inr rfl⟩
      have hid := (L j1).keep _ _ _ hi gdm
      have gw' : Grew (Mut B S0 w) w w1 := gW.thenMut hgr
      have gwd : Grew (Mut B S0 w) w (done w.heap.size none w1) := gw'.err rfl (Nat.le_refl _)
      have hlt : w.heap.size < w1.heap.size := Nat.lt_of_lt_of_le (by rw [hs1]; omega) hgr.size
      have hge := hend (done w.heap.size none w1)
      obtain ⟨v2, hl2⟩ := hl.endTry (dp := dp)
      refine ⟨none, fs', j1, s1, w1, rfl, hR, ?_, gwd.step hge fun x _ e => by subst e; exact Or.inl (L j0).own, hlt, hbx, Or.inl ⟨rfl, hendI _ _ _ hid, ⟨v2, hl2⟩, fun j => ?_⟩⟩
      · exact (gd.mono fun x _ e => Or.inr e).step hge fun x _ e => by subst e; exact Or.inl (Or.inl (L j0).own)
      · exact ((hp j).later (Kept.done hbx _)).later (Kept.of (B := B) (hge.mono fun x _ e => by rw [e]; exact Or.inl (L j0).own))
    · have hge := hend w3
      obtain ⟨v2, hl2⟩ := hl.endTry (dp := dp)
      exact ⟨some k, fs', j1, s1, w1, rfl, hR, hgx.step hge fun x _ e => by subst e; exact Or.inl (Or.inl (L j0).own), gw3.step hge fun x _ e => by subst e; exact Or.inl (L j0).own, hlt, hbx, Or.inr ⟨k, rfl, hk, hendI _ _ _ hi, v2, hl2⟩⟩
end
end Go.Proofs.Ytemnkffaapljpaa
