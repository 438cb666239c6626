/-
  A state that a log guards: steps back that are good for it; how all of them go back; a Try of it: contracts.
-/
import Derived.Test.YtjjmapmombhmlaaUndoAwake
namespace Go.Proofs.Ytjjmapmombhmlaa
open Go.RowKit

/-- a block of steps -/
def isFunc (B k : Nat) (w : World) : Prop := B ≤ k ∧ ∃ c fz, w.heap[k]? = some (.cells c 1 fz)
/-- what may turn: the state's own blocks, and the log's rows -/
def Mut (B : Nat) (S0 : Nat → Prop) (w : World) (k : Nat) : Prop := S0 k ∨ isFunc B k w
theorem Mut.back {B : Nat} {S0 : Nat → Prop} {w w2 : World} {k : Nat} (h : Grew (Mut B S0 w) w w2) (hk : k < w.heap.size) (m : Mut B S0 w2 k) : Mut B S0 w k := by
  rcases m with m | ⟨hB, c, fz, e⟩
  · exact Or.inl m
  · by_cases hm : Mut B S0 w k
    · exact hm
    · rw [h.block k hk hm] at e
      exact Or.inr ⟨hB, c, fz, e⟩
theorem Grew.thenMut {B : Nat} {S0 : Nat → Prop} {w w2 w3 : World} (h : Grew (Mut B S0 w) w w2) (k : Grew (Mut B S0 w2) w2 w3) : Grew (Mut B S0 w) w w3 := h.step k fun _ hx m => Mut.back h hx m
/-- what a log and a Guard write beside the state: rows of steps, a Guard's box -/
def Touch (w : World) (k : Nat) : Prop := ∃ c t fz, w.heap[k]? = some (.cells c t fz) ∧ (t = 1 ∨ t = 45)
/-- a state in memory that a log guards -/
structure Logged {σ : Type} (g : Nat) (S0 : Nat → Prop) (I : σ → World → Prop) : Prop where
  own : S0 g
  set : ∀ s w o x, o < 2 → I s w → I s (w.setCell ⟨g, o, none⟩ x)
  keep : ∀ s w w', I s w → Grew (fun k => ¬ S0 k ∧ Touch w k) w w' → I s w'
  lt : ∀ s w k, I s w → S0 k → k < w.heap.size
/-- a block that no log, no Guard and not the state has -/
def Plain (S0 : Nat → Prop) (w : World) (k : Nat) : Prop := ¬ S0 k ∧ ∃ c t fz, w.heap[k]? = some (.cells c t fz) ∧ t ≠ 1 ∧ t ≠ 45
/-- a step back is good: whatever has turned since but the blocks that it needs, it takes the state from the one to the other -/
def Good {σ : Type} (B g : Nat) (S0 : Nat → Prop) (I : σ → World → Prop) (s : Step) (s1 s0 : σ) (w : World) : Prop :=
  (∀ wy : World, (callFunc s.1 s.2).run Try.prog wy = .ok (.enter s.1 s.2) wy) ∧ ∃ F : Nat → Prop, (∀ k, F k → Plain S0 w k) ∧ ∀ wx, (∀ k, F k → wx.heap[k]? = w.heap[k]?) → I s1 wx → Calls Try.prog s.1 s.2 wx fun e w' => e = .returned (.tuple #[]) ∧ I s0 w' ∧ Grew (Mut B S0 wx) wx w' ∧ ∀ B' dp v fs, LogAt B' g dp v fs wx → LogAt B' g dp v fs w'
theorem Plain.lt {S0 : Nat → Prop} {w : World} {k : Nat} (h : Plain S0 w k) : k < w.heap.size := by
  obtain ⟨_, c, t, fz, e, _⟩ := h
  rcases Nat.lt_or_ge k w.heap.size with h1 | h1
  · exact h1
  · rw [Array.getElem?_eq_none h1] at e; cases e
theorem Plain.stays {B : Nat} {S0 : Nat → Prop} {w w2 : World} {k : Nat} (h : Plain S0 w k) (g : Grew (Mut B S0 w) w w2) : w2.heap[k]? = w.heap[k]? := g.block k h.lt fun m => by
  obtain ⟨n, c, t, fz, e, h1, _⟩ := h
  rcases m with m | ⟨_, c', fz', e'⟩
  · exact n m
  · rw [e] at e'
    simp at e'
    exact h1 e'.2.1
/-- what turns is the state, the log's rows, and a Guard's box -/
def Kept (S0 : Nat → Prop) (w w2 : World) : Prop := ∀ k, Plain S0 w k → w2.heap[k]? = w.heap[k]?
theorem Kept.of {B : Nat} {S0 : Nat → Prop} {w w2 : World} (g : Grew (Mut B S0 w) w w2) : Kept S0 w w2 := fun _ h => h.stays g
theorem Kept.trans {S0 : Nat → Prop} {w w2 w3 : World} (h : Kept S0 w w2) (k : Kept S0 w2 w3) : Kept S0 w w3 := fun x hx => by
  have e := h x hx
  refine (k x ?_).trans e
  obtain ⟨n, c, t, fz, e1, r⟩ := hx
  exact ⟨n, c, t, fz, e.trans e1, r⟩
theorem Kept.done {S0 : Nat → Prop} {w : World} {b : Nat} (h : w.heap[b]? = some errBox) (o : Option Int) : Kept S0 w (done b o w) := fun k hk => by
  refine (done_alone b o w).block k hk.lt fun e => ?_
  obtain ⟨_, c, t, fz, e1, _, r⟩ := hk
  subst e
  rw [h] at e1
  simp at e1
  exact r e1.2.1.symm
section
variable {σ : Type} {B g : Nat} {S0 : Nat → Prop} {I : σ → World → Prop}
theorem Good.later {s : Step} {s1 s0 : σ} {w w2 : World} (h : Good B g S0 I s s1 s0 w) (k : Kept S0 w w2) : Good B g S0 I s s1 s0 w2 := by
  obtain ⟨h1, F, hF, h2⟩ := h
  refine ⟨h1, F, fun x hx => ?_, fun wx hx => h2 wx fun x hf => (hx x hf).trans (k x (hF x hf))⟩
  obtain ⟨n, c, t, fz, e, r⟩ := hF x hx
  exact ⟨n, c, t, fz, (k x (hF x hx)).trans e, r⟩
/-- all steps of a list are good, from one state to the next -/
def Goods (B g : Nat) (S0 : Nat → Prop) (I : σ → World → Prop) (fs : List Step) (τ : Nat → σ) (w : World) : Prop := ∀ i (h : i < fs.length), Good B g S0 I fs[i] (τ (i + 1)) (τ i) w
theorem Goods.later {fs : List Step} {τ : Nat → σ} {w w2 : World} (h : Goods B g S0 I fs τ w) (k : Kept S0 w w2) : Goods B g S0 I fs τ w2 := fun i hi => (h i hi).later k
theorem Goods.nil (τ : Nat → σ) (w : World) : Goods B g S0 I [] τ w := fun _ hi => absurd hi (Nat.not_lt_zero _)
/-- some steps from one state to another -/
def Path (B g : Nat) (S0 : Nat → Prop) (I : σ → World → Prop) (fs : List Step) (s0 s1 : σ) (w : World) : Prop := ∃ τ : Nat → σ, τ 0 = s0 ∧ τ fs.length = s1 ∧ Goods B g S0 I fs τ w
theorem Path.later {fs : List Step} {s0 s1 : σ} {w w2 : World} (h : Path B g S0 I fs s0 s1 w) (k : Kept S0 w w2) : Path B g S0 I fs s0 s1 w2 := by
  obtain ⟨τ, a, b, c⟩ := h
  exact ⟨τ, a, b, c.later k⟩
theorem Path.nil (s : σ) (w : World) : Path B g S0 I [] s s w := ⟨fun _ => s, rfl, rfl, Goods.nil _ _⟩
theorem Path.snoc {fs : List Step} {s0 s1 s2 : σ} {s : Step} {w : World} (h : Path B g S0 I fs s0 s1 w) (k : Good B g S0 I s s2 s1 w) : Path B g S0 I (fs ++ [s]) s0 s2 w := by
  obtain ⟨τ, a, b, c⟩ := h
  refine ⟨fun i => if i ≤ fs.length then τ i else s2, ?_, ?_, fun i hi => ?_⟩
  · show (if 0 ≤ fs.length then τ 0 else s2) = s0
    rw [if_pos (Nat.zero_le _)]
    exact a
  · show (if (fs ++ [s]).length ≤ fs.length then _ else s2) = s2
    rw [if_neg (by simp)]
  · have hi' : i < fs.length + 1 := by simpa using hi
    by_cases h1 : i < fs.length
    · have e1 : (fs ++ [s])[i] = fs[i] := List.getElem_append_left h1
      rw [e1]
      show Good B g S0 I fs[i] (if i + 1 ≤ fs.length then τ (i + 1) else s2) (if i ≤ fs.length then τ i else s2) w
      rw [if_pos (by omega), if_pos (by omega)]
      exact c i h1
    · obtain rfl : i = fs.length := by omega
      have e1 : (fs ++ [s])[fs.length] = s := by simp
      rw [e1]
      show Good B g S0 I s (if fs.length + 1 ≤ fs.length then τ (fs.length + 1) else s2) (if fs.length ≤ fs.length then τ fs.length else s2) w
      rw [if_neg (by omega), if_pos (Nat.le_refl _), b]
      exact k
theorem Path.append {fs fs' : List Step} {s0 s1 s2 : σ} {w : World} (h : Path B g S0 I fs s0 s1 w) (k : Path B g S0 I fs' s1 s2 w) : Path B g S0 I (fs ++ fs') s0 s2 w := by
  obtain ⟨τ, a, b, c⟩ := h
  obtain ⟨τ', a', b', c'⟩ := k
  refine ⟨fun i => if i ≤ fs.length then τ i else τ' (i - fs.length), ?_, ?_, fun i hi => ?_⟩
  · show (if 0 ≤ fs.length then τ 0 else _) = s0
    rw [if_pos (Nat.zero_le _)]
    exact a
  · show (if (fs ++ fs').length ≤ fs.length then _ else τ' ((fs ++ fs').length - fs.length)) = s2
    rw [List.length_append]
    by_cases h0 : fs'.length = 0
    · rw [if_pos (by omega), h0, Nat.add_zero, b, ← b', h0, a']
    · rw [if_neg (by omega), Nat.add_sub_cancel_left]
      exact b'
  · have hi' : i < fs.length + fs'.length := by simpa using hi
    by_cases h1 : i < fs.length
    · have e1 : (fs ++ fs')[i] = fs[i] := List.getElem_append_left h1
      rw [e1]
      show Good B g S0 I fs[i] (if i + 1 ≤ fs.length then τ (i + 1) else _) (if i ≤ fs.length then τ i else _) w
      rw [if_pos (by omega), if_pos (by omega)]
      exact c i h1
    · obtain ⟨j, rfl⟩ : ∃ j, i = fs.length + j := ⟨i - fs.length, by omega⟩
      have hj : j < fs'.length := by omega
      have e1 : (fs ++ fs')[fs.length + j] = fs'[j] := by rw [List.getElem_append_right (by omega)]; simp
      rw [e1]
      show Good B g S0 I fs'[j] (if fs.length + j + 1 ≤ fs.length then _ else τ' (fs.length + j + 1 - fs.length)) (if fs.length + j ≤ fs.length then τ (fs.length + j) else τ' (fs.length + j - fs.length)) w
      rw [if_neg (by omega), show fs.length + j + 1 - fs.length = j + 1 by omega, show fs.length + j - fs.length = j by omega]
      by_cases h0 : j = 0
      · subst h0
        rw [if_pos (by omega)]
        show Good B g S0 I fs'[0] (τ' (0 + 1)) (τ fs.length) w
        rw [b, ← a']
        exact c' 0 hj
      · rw [if_neg (by omega)]
        exact c' j hj
theorem undo_gen (L : Logged g S0 I) (B dp n0 : Nat) (fs fs' : List Step) (s0 s1 : σ) (v : Value) (w : World) (hL : LogAt B g dp v (fs ++ fs') w) (hI : I s1 w) (hn : fs.length = n0) (hf : (fs ++ fs').length < 100000) (hp : Path B g S0 I fs' s0 s1 w) :
    Calls Try.prog 96 #[.pointer (some ⟨g, 0, none⟩), .int .i64 n0] w fun e w' => e = .returned (.tuple #[]) ∧ (∃ v', LogAt B g dp v' fs w') ∧ I s0 w' ∧ Grew (Mut B S0 w) w w' := by
  subst hn
  obtain ⟨τ, h0, h1, hg⟩ := hp
  have e1 : (fs ++ fs').take fs.length = fs := by simp
  refine (undo_any B g dp fs.length (fs ++ fs') (fun k wx => I (τ (k - fs.length)) wx ∧ Grew (Mut B S0 w) w wx) v w hL ⟨by rw [List.length_append, Nat.add_sub_cancel_left, h1]; exact hI, Grew.refl w⟩ (by simp) hf ?_ ?_).mono ?_
  · rintro k wx x ⟨a, b⟩
    exact ⟨L.set _ _ 1 x (by decide) a, b.setCell _ _ fun _ => Or.inl L.own⟩
  · rintro k hk0 hk vx wx hl ⟨a, b⟩
    obtain ⟨j, rfl⟩ : ∃ j, k = fs.length + j := ⟨k - fs.length, by omega⟩
    have hj : j < fs'.length := by rw [List.length_append] at hk; omega
    have e2 : (fs ++ fs')[fs.length + j] = fs'[j] := by rw [List.getElem_append_right (by omega)]; simp
    rw [e2]
    rw [show fs.length + j + 1 - fs.length = j + 1 by omega] at a
    have hgj := hg j hj
    obtain ⟨g1, F, gF, g2⟩ := hgj
    refine ⟨g1, (g2 wx (fun x hx => (gF x hx).stays b) a).mono ?_⟩
    rintro e w' ⟨he, hi, hgr, hlog⟩
    exact ⟨he, ⟨vx, hlog _ _ _ _ hl⟩, by rw [Nat.add_sub_cancel_left]; exact hi, b.thenMut hgr⟩
  · rintro e w' ⟨rfl, hv, hi, hgr⟩
    rw [e1] at hv
    rw [Nat.sub_self, h0] at hi
    exact ⟨rfl, hv, hi, hgr⟩
/-- what was done in a Try: at most so many steps, from one state to another -/
structure Did {σ : Type} (B g dp : Nat) (S0 : Nat → Prop) (I : σ → World → Prop) (fs : List Step) (n : Nat) (s s' : σ) (w w' : World) : Prop where
  log : ∃ v' fs', LogAt B g (dp + 1) v' (fs ++ fs') w' ∧ fs'.length ≤ n ∧ Path B g S0 I fs' s s' w'
  st : I s' w'
  grew : Grew (Mut B S0 w) w w'
theorem Did.one {B dp : Nat} {fs : List Step} {s s' : σ} {w w' : World} {v' : Value} {st : Step} (h : LogAt B g (dp + 1) v' (fs ++ [st]) w') (hI : I s' w') (hG : Good B g S0 I st s' s w') (hg : Grew (Mut B S0 w) w w') : Did B g dp S0 I fs 1 s s' w w' :=
  ⟨⟨v', [st], h, Nat.le_refl _, (Path.nil s w').snoc hG⟩, hI, hg⟩
theorem Did.none {B dp : Nat} {fs : List Step} {s : σ} {w : World} {v : Value} (h : LogAt B g (dp + 1) v fs w) (hI : I s w) : Did B g dp S0 I fs 0 s s w w :=
  ⟨⟨v, [], by rw [List.append_nil]; exact h, Nat.le_refl _, Path.nil s w⟩, hI, Grew.refl w⟩
theorem Did.then {B dp n m : Nat} {fs : List Step} {s s1 s2 : σ} {w w1 w2 : World} (h : Did B g dp S0 I fs n s s1 w w1) (k : ∀ v1 fs1, LogAt B g (dp + 1) v1 (fs ++ fs1) w1 → fs1.length ≤ n → Did B g dp S0 I (fs ++ fs1) m s1 s2 w1 w2) : Did B g dp S0 I fs (n + m) s s2 w w2 := by
  obtain ⟨⟨v1, fs1, l1, n1, p1⟩, i1, g1⟩ := h
  obtain ⟨⟨v2, fs2, l2, n2, p2⟩, i2, g2⟩ := k v1 fs1 l1 n1
  exact ⟨⟨v2, fs1 ++ fs2, by rw [← List.append_assoc]; exact l2, by rw [List.length_append]; omega, (p1.later (Kept.of g2)).append p2⟩, i2, g1.thenMut g2⟩
theorem Did.chain {B dp n m : Nat} {fs fs1 : List Step} {s s1 s2 : σ} {w w1 w2 : World} {v1 : Value} (_l : LogAt B g (dp + 1) v1 (fs ++ fs1) w1) (n1 : fs1.length ≤ n) (p1 : Path B g S0 I fs1 s s1 w1) (g1 : Grew (Mut B S0 w) w w1) (k : Did B g dp S0 I (fs ++ fs1) m s1 s2 w1 w2) : Did B g dp S0 I fs (n + m) s s2 w w2 := by
  obtain ⟨⟨v2, fs2, l2, n2, p2⟩, i2, g2⟩ := k
  exact ⟨⟨v2, fs1 ++ fs2, by rw [← List.append_assoc]; exact l2, by rw [List.length_append]; omega, (p1.later (Kept.of g2)).append p2⟩, i2, g1.thenMut g2⟩
theorem Did.mono {B dp n m : Nat} {fs : List Step} {s s1 : σ} {w w1 : World} (h : Did B g dp S0 I fs n s s1 w w1) (hm : n ≤ m) : Did B g dp S0 I fs m s s1 w w1 := by
  obtain ⟨⟨v1, fs1, l1, n1, p1⟩, i1, g1⟩ := h
  exact ⟨⟨v1, fs1, l1, Nat.le_trans n1 hm, p1⟩, i1, g1⟩
/-- where what a Try runs begins -/
def tryWorld (g dp : Nat) (w : World) : World := (w.setCell ⟨g, 0, none⟩ (.int .i64 ((dp + 1 : Nat) : Int))).alloc errBox
theorem tryWorld_grew (g dp : Nat) (w : World) : Grew (fun k => k = g) w (tryWorld g dp w) := ((Grew.refl (S := fun k => k = g) w).setCell _ _ fun _ => rfl).alloc _
theorem tryWorld_size (g dp : Nat) (w : World) : (tryWorld g dp w).heap.size = w.heap.size + 1 := by simp [tryWorld, World.setCell]
theorem tryWorld_box (g dp : Nat) (w : World) : (tryWorld g dp w).heap[w.heap.size]? = some errBox := by
  have h := heap_alloc_new (w.setCell ⟨g, 0, none⟩ (.int .i64 ((dp + 1 : Nat) : Int))) errBox
  have e : (w.setCell ⟨g, 0, none⟩ (.int .i64 ((dp + 1 : Nat) : Int))).heap.size = w.heap.size := by simp [World.setCell]
  rw [e] at h
  exact h
theorem notFunc_err {w : World} {k : Nat} (h : w.heap[k]? = some errBox) : ¬ isFunc B k w := by
  rintro ⟨_, c, fz, e⟩
  rw [h] at e
  simp at e
theorem grow_not (S0 : Nat → Prop) (w : World) (o : Obj) : Grew (fun k => ¬ S0 k ∧ Touch w k) w (w.alloc o) := (Grew.refl w).alloc o
theorem Grew.err {B : Nat} {w W w' : World} {b : Nat} {o : Option Int} (h : Grew (Mut B S0 w) w W) (e : w' = done b o W) (hb : w.heap.size ≤ b) : Grew (Mut B S0 w) w w' := by
  subst e
  exact h.step (done_alone b o W) fun x hx e => absurd hx (by omega)
set_option maxHeartbeats 1000000 in
theorem try_gen (L : Logged g S0 I) (B dp : Nat) (v : Value) (fs : List Step) (run : FuncId) (cap : Array Value) (s0 : σ) (w : World) (hL : LogAt B g dp v fs w) (hd : dp < 100000) (hI : I s0 w) (R : Option Int → List Step → σ → World → Prop)
    (hcall : ∀ wy : World, (callFunc run cap).run Try.prog wy = .ok (.enter run cap) wy)
    (hrun : LogAt B g (dp + 1) v fs (tryWorld g dp w) → I s0 (tryWorld g dp w) → Calls Try.prog run cap (tryWorld g dp w) fun e w' => ∃ o fs' v' s1, e = Ends o ∧ LogAt B g (dp + 1) v' (fs ++ fs') w' ∧ (∀ k, o = some k → ¬ k = 0) ∧ I s1 w' ∧ Path B g S0 I fs' s0 s1 w' ∧ (fs ++ fs').length < 100000 ∧ Grew (Mut B S0 (tryWorld g dp w)) (tryWorld g dp w) w' ∧ R o fs' s1 w') :
    Calls Try.prog 51 #[.pointer (some ⟨g, 0, none⟩), .func (.func run) #[] cap] w fun e w' => ∃ o fs' s1 w1, e = .returned (.int .i64 (o.getD 0)) ∧ R o fs' s1 w1 ∧ Grew (fun k => Mut B S0 w1 k ∨ k = w.heap.size) w1 w' ∧ Grew (Mut B S0 w) w w' ∧ w.heap.size < w1.heap.size ∧ w1.heap[w.heap.size]? = some errBox ∧
      ((o = none ∧ I s1 w' ∧ (∃ v', LogAt B g dp v' (if dp = 0 then [] else fs ++ fs') w') ∧ Path B g S0 I fs' s0 s1 w') ∨ (∃ k, o = some k ∧ ¬ k = 0 ∧ I s0 w' ∧ ∃ v', LogAt B g dp v' (if dp = 0 then [] else fs) w')) := by
  have hgl := hL.lt
  have hne : w.heap.size ≠ g := by omega
  have hL1 : LogAt B g (dp + 1) v fs (tryWorld g dp w) := (hL.deep (dp + 1)).keepAlloc _
  have hI1 : I s0 (tryWorld g dp w) := L.keep _ _ _ (L.set _ _ 0 (.int .i64 ((dp + 1 : Nat) : Int)) (by decide) hI) (grow_not S0 _ errBox)
  have hs1 := tryWorld_size g dp w
  have hb1 := tryWorld_box g dp w
  have hnm : ¬ Mut B S0 (tryWorld g dp w) w.heap.size := by
    rintro (m | m)
    · have := L.lt _ _ _ hI m
      omega
    · exact notFunc_err hb1 m
  have gW : Grew (Mut B S0 w) w (tryWorld g dp w) := (tryWorld_grew g dp w).mono fun x _ e => by subst e; exact Or.inl L.own
  have hend : ∀ wx, Grew (fun k => k = g) wx (endTry g dp wx) := fun wx => by
    unfold endTry
    by_cases h0 : dp = 0
    · rw [if_pos h0]
      exact ((Grew.refl (S := fun k => k = g) wx).setCell _ _ fun _ => rfl).setCell _ _ fun _ => rfl
    · rw [if_neg h0]
      exact (Grew.refl (S := fun k => k = g) wx).setCell _ _ fun _ => rfl
  have hendI : ∀ s wx, I s wx → I s (endTry g dp wx) := fun s wx h => by
    unfold endTry
    by_cases h0 : dp = 0
    · rw [if_pos h0]
      exact L.set _ _ 1 _ (by decide) (L.set _ _ 0 _ (by decide) h)
    · rw [if_neg h0]
      exact L.set _ _ 0 _ (by decide) h
  have hns : ∀ s wx, I s wx → wx = wx → ¬ S0 w.heap.size := fun _ _ _ _ m => by
    have := L.lt _ _ _ hI m
    omega
  refine (try_any B g dp v fs run cap w hL hd
    (fun o fs' w' => ∃ s1, I s1 w' ∧ Path B g S0 I fs' s0 s1 w' ∧ (fs ++ fs').length < 100000 ∧ Grew (Mut B S0 (tryWorld g dp w)) (tryWorld g dp w) w' ∧ R o fs' s1 w')
    (fun k w' => ∃ fs' s1 w1, R (some k) fs' s1 w1 ∧ I s0 w' ∧ Grew (fun k => Mut B S0 w1 k ∨ k = w.heap.size) w1 w' ∧ Grew (Mut B S0 w) w w1 ∧ Grew (Mut B S0 w) w w' ∧ w.heap.size < w1.heap.size ∧ w1.heap[w.heap.size]? = some errBox) hcall ?_ ?_).mono ?_
  · refine (hrun hL1 hI1).mono ?_
    rintro e w' ⟨o, fs', v', s1, rfl, hl, hk, hi, hp, hlen, hgr, hR⟩
    refine ⟨o, fs', v', rfl, ?_, hl, hk, s1, hi, hp, hlen, hgr, hR⟩
    rw [hgr.block _ (by omega) hnm]
    exact hb1
  · rintro k fs' v' w' hbx hl ⟨s1, hi, hp, hlen, hgr, hR⟩
    have gd := done_alone w.heap.size (some k) w'
    have gdm : Grew (fun k => ¬ S0 k ∧ Touch w' k) w' (done w.heap.size (some k) w') := gd.mono fun x _ e => by subst e; exact ⟨hns _ _ hi rfl, _, _, _, hbx, Or.inr rfl⟩
    have hid := L.keep _ _ _ hi gdm
    have gw' : Grew (Mut B S0 w) w w' := gW.thenMut hgr
    have gwd : Grew (Mut B S0 w) w (done w.heap.size (some k) w') := gw'.err rfl (Nat.le_refl _)
    have hpd : Path B g S0 I fs' s0 s1 (done w.heap.size (some k) w') := hp.later (Kept.done hbx _)
    refine (undo_gen L B (dp + 1) fs.length fs fs' s0 s1 v' _ hl hid rfl hlen hpd).mono ?_
    rintro e w2 ⟨rfl, hv2, hi2, hg2⟩
    have hlt : w.heap.size < w'.heap.size := Nat.lt_of_lt_of_le (by rw [hs1]; omega) hgr.size
    have hgx : Grew (fun q => Mut B S0 w' q ∨ q = w.heap.size) w' w2 := (gd.mono fun x _ e => Or.inr e).step hg2 fun x hx m => by
      by_cases hxe : x = w.heap.size
      · exact Or.inr hxe
      · rcases m with m | ⟨hB, c, fz, e⟩
        · exact Or.inl (Or.inl m)
        · rw [gd.block x hx hxe] at e
          exact Or.inl (Or.inr ⟨hB, c, fz, e⟩)
    exact ⟨rfl, hv2, fs', s1, w', hR, hi2, hgx, gw', gwd.thenMut hg2, hlt, hbx⟩
  · rintro e w' ⟨o, rfl, w3, rfl, h⟩
    rcases h with ⟨rfl, fs', w1, ⟨s1, hi, hp, hlen, hgr, hR⟩, hbx, rfl, v', hl⟩ | ⟨k, rfl, hk, ⟨fs', s1, w1, hR, hi, hgx, gw1, gw3, hlt, hbx⟩, v', hl⟩
    · have gd := done_alone w.heap.size none w1
      have gdm : Grew (fun k => ¬ S0 k ∧ Touch w1 k) w1 (done w.heap.size none w1) := gd.mono fun x _ e => by subst e; exact ⟨hns _ _ hi rfl, _, _, _, hbx, Or.inr rfl⟩
      have hid := L.keep _ _ _ hi gdm
      have gw' : Grew (Mut B S0 w) w w1 := gW.thenMut hgr
      have gwd : Grew (Mut B S0 w) w (done w.heap.size none w1) := gw'.err rfl (Nat.le_refl _)
      have hlt : w.heap.size < w1.heap.size := Nat.lt_of_lt_of_le (by rw [hs1]; omega) hgr.size
      have hge := hend (done w.heap.size none w1)
      obtain ⟨v2, hl2⟩ := hl.endTry (dp := dp)
      refine ⟨none, fs', s1, w1, rfl, hR, ?_, gwd.step hge fun x _ e => by subst e; exact Or.inl L.own, hlt, hbx, Or.inl ⟨rfl, hendI _ _ hid, ⟨v2, hl2⟩, ?_⟩⟩
      · exact (gd.mono fun x _ e => Or.inr e).step hge fun x _ e => by subst e; exact Or.inl (Or.inl L.own)
      · exact (hp.later (Kept.done hbx _)).later (Kept.of (B := B) (hge.mono fun x _ e => by rw [e]; exact Or.inl L.own))
    · have hge := hend w3
      obtain ⟨v2, hl2⟩ := hl.endTry (dp := dp)
      exact ⟨some k, fs', s1, w1, rfl, hR, hgx.step hge fun x _ e => by subst e; exact Or.inl (Or.inl L.own), gw3.step hge fun x _ e => by subst e; exact Or.inl L.own, hlt, hbx, Or.inr ⟨k, rfl, hk, hendI _ _ hi, v2, hl2⟩⟩
end
end Go.Proofs.Ytjjmapmombhmlaa
