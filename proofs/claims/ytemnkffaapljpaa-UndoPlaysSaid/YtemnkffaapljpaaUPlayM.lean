/-
  UndoPlays: the document's play as a function, and that a run of steps does the same.
-/
import Derived.Test.YtemnkffaapljpaaUPlayV
namespace Go.Proofs.Ytemnkffaapljpaa
open Go.RowKit Go.Maps Go.ChangeMaps Go.WideShapes
/-- steps on cells, with what was when each Try that runs began, the last one first -/
def playU (L : Nat → UA) (n : Nat) : Nat → Nat → (Nat → Int) → List (Nat → Int) → (Nat → Int)
  | 0, _, c, _ => c
  | f + 1, a, c, st =>
    if a < n then
      if (L a).k = 0 then playU L n f (a + 1) (upN c (L a).i (L a).t) st
      else if (L a).k = 1 then playU L n f (a + 1) (upN c (L a).i 0) st
      else if (L a).k = 2 then playU L n f (a + 1) c (c :: st)
      else if (L a).k = 3 then playU L n f (a + 1) c st.tail
      else playU L n f (a + 1) (st.headD c) st.tail
    else c
theorem playU_irr (L : Nat → UA) (n : Nat) : ∀ f f' a c st, n - a ≤ f → n - a ≤ f' → playU L n f a c st = playU L n f' a c st
  | 0, 0, _, _, _, _, _ => rfl
  | 0, f' + 1, a, c, st, h, _ => by
    unfold playU
    rw [if_neg (by omega)]
  | f + 1, 0, a, c, st, _, h => by
    show playU L n (f + 1) a c st = c
    unfold playU
    rw [if_neg (by omega)]
  | f + 1, f' + 1, a, c, st, h, h' => by
    unfold playU
    by_cases h0 : a < n
    · rw [if_pos h0, if_pos h0]
      have e : ∀ c st, playU L n f (a + 1) c st = playU L n f' (a + 1) c st := fun c st => playU_irr L n f f' (a + 1) c st (by omega) (by omega)
      rw [e, e, e, e, e]
    · rw [if_neg h0, if_neg h0]
/-- at its end it stays -/
theorem playU_end (L : Nat → UA) (n f a : Nat) (c : Nat → Int) (st : List (Nat → Int)) (h : n ≤ a) : playU L n f a c st = c := by
  cases f with
  | zero => rfl
  | succ f => unfold playU; rw [if_neg (by omega)]
/-- a run, in a Try or not, does what the play does -/
theorem runU_play (L : Nat → UA) (n : Nat) : ∀ F a s x st f, a ≤ n → n - a ≤ F → n - a ≤ f →
    (∀ g, n - (runU L n F a true s).2.1 ≤ g → playU L n f a s.c (x :: st) = playU L n g (runU L n F a true s).2.1 (if (runU L n F a true s).1 = true then x else (runU L n F a true s).2.2.c) st) ∧ (st = [] → playU L n f a s.c [] = (runU L n F a false s).2.2.c)
  | 0, a, s, x, st, f, ha, hF, hf => by
    have h : n ≤ a := by omega
    refine ⟨fun g _ => ?_, fun _ => ?_⟩
    · rw [playU_end L n f a _ _ h]
      show _ = playU L n g a (if false = true then x else s.c) st
      rw [playU_end L n g a _ _ h]
      rfl
    · rw [playU_end L n f a _ _ h]; rfl
  | F + 1, a, s, x, st, 0, ha, hF, hf => by
    have h : n ≤ a := by omega
    refine ⟨fun g _ => ?_, fun _ => ?_⟩
    · rw [runU_end (by omega), playU_end L n 0 a _ _ h]
      show _ = playU L n g a (if false = true then x else s.c) st
      rw [playU_end L n g a _ _ h]
      rfl
    · rw [runU_end (by omega), playU_end L n 0 a _ _ h]
  | F + 1, a, s, x, st, f + 1, ha, hF, hf => by
    by_cases h0 : a < n
    · have IH := fun s x st => runU_play L n F (a + 1) s x st f (by omega) (by omega) (by omega)
      by_cases k0 : (L a).k = 0
      · have r : ∀ d, runU L n (F + 1) a d s = runU L n F (a + 1) d (s.set (L a).i (L a).t) := fun d => by rw [runU, if_pos h0, if_pos k0]
        have p : ∀ st, playU L n (f + 1) a s.c st = playU L n f (a + 1) (s.set (L a).i (L a).t).c st := fun st => by rw [playU, if_pos h0, if_pos k0]; rfl
        rw [r, r]
        refine ⟨fun g hg => ?_, fun e => ?_⟩
        · rw [p]; exact (IH _ x st).1 g hg
        · rw [p]; exact (IH _ x []).2 rfl
      by_cases k1 : (L a).k = 1
      · have r : ∀ d, runU L n (F + 1) a d s = runU L n F (a + 1) d (s.drop (L a).i) := fun d => by rw [runU, if_pos h0, if_neg k0, if_pos k1]
        have p : ∀ st, playU L n (f + 1) a s.c st = playU L n f (a + 1) (s.drop (L a).i).c st := fun st => by rw [playU, if_pos h0, if_neg k0, if_pos k1]; rfl
        rw [r, r]
        refine ⟨fun g hg => ?_, fun e => ?_⟩
        · rw [p]; exact (IH _ x st).1 g hg
        · rw [p]; exact (IH _ x []).2 rfl
      by_cases k2 : (L a).k = 2
      · have r : ∀ d, runU L n (F + 1) a d s = runU L n F (runU L n F (a + 1) true s).2.1 d (if (runU L n F (a + 1) true s).1 = true then s else (runU L n F (a + 1) true s).2.2) := fun d => by rw [runU, if_pos h0, if_neg k0, if_neg k1, if_pos k2]
        have p : ∀ st, playU L n (f + 1) a s.c st = playU L n f (a + 1) s.c (s.c :: st) := fun st => by rw [playU, if_pos h0, if_neg k0, if_neg k1, if_pos k2]
        obtain ⟨q1, q2, _⟩ := runU_pos L n F (a + 1) true s (by omega)
        have e2 : ∀ q : Bool × Nat × US, (if q.1 = true then s.c else q.2.2.c) = (if q.1 = true then s else q.2.2).c := fun q => by
          by_cases e : q.1 = true
          · rw [if_pos e, if_pos e]
          · rw [if_neg e, if_neg e]
        rw [r, r]
        generalize hq : runU L n F (a + 1) true s = q at *
        have J := fun st => runU_play L n F q.2.1 (if q.1 = true then s else q.2.2) x st F q2 (by omega) (by omega)
        refine ⟨fun g hg => ?_, fun e => ?_⟩
        · rw [p, (IH s s.c (x :: st)).1 F (by rw [hq]; omega), hq, e2]
          exact (J st).1 g hg
        · rw [p, (IH s s.c []).1 F (by rw [hq]; omega), hq, e2]
          exact (J []).2 rfl
      by_cases k3 : (L a).k = 3
      · have rt : runU L n (F + 1) a true s = (false, a + 1, s) := by rw [runU, if_pos h0, if_neg k0, if_neg k1, if_neg k2, if_pos k3]; rfl
        have rf' : runU L n (F + 1) a false s = runU L n F (a + 1) false s := by rw [runU, if_pos h0, if_neg k0, if_neg k1, if_neg k2, if_pos k3]; rfl
        have p : ∀ st, playU L n (f + 1) a s.c st = playU L n f (a + 1) s.c st.tail := fun st => by rw [playU, if_pos h0, if_neg k0, if_neg k1, if_neg k2, if_pos k3]
        rw [rt, rf']
        refine ⟨fun g hg => ?_, fun e => ?_⟩
        · rw [p]
          have hg' : n - (a + 1) ≤ g := hg
          exact playU_irr L n f g (a + 1) _ _ (by omega) hg'
        · rw [p]; exact (IH _ x []).2 rfl
      · have rt : runU L n (F + 1) a true s = (true, a + 1, s) := by rw [runU, if_pos h0, if_neg k0, if_neg k1, if_neg k2, if_neg k3]; rfl
        have rf' : runU L n (F + 1) a false s = runU L n F (a + 1) false s := by rw [runU, if_pos h0, if_neg k0, if_neg k1, if_neg k2, if_neg k3]; rfl
        have p : ∀ st, playU L n (f + 1) a s.c st = playU L n f (a + 1) (st.headD s.c) st.tail := fun st => by rw [playU, if_pos h0, if_neg k0, if_neg k1, if_neg k2, if_neg k3]
        rw [rt, rf']
        refine ⟨fun g hg => ?_, fun e => ?_⟩
        · rw [p]
          have hg' : n - (a + 1) ≤ g := hg
          exact playU_irr L n f g (a + 1) _ _ (by omega) hg'
        · rw [p]; exact (IH _ x []).2 rfl
    · have h : n ≤ a := by omega
      refine ⟨fun g _ => ?_, fun _ => ?_⟩
      · rw [runU_end h0, playU_end L n _ a _ _ h]
        show _ = playU L n g a (if false = true then x else s.c) st
        rw [playU_end L n g a _ _ h]
        rfl
      · rw [runU_end h0, playU_end L n _ a _ _ h]
/-- the table says what the cells say -/
def US.same (s : US) : Prop := (∀ i, i < 4 → 0 ≤ s.c i) ∧ ∀ i : Nat, i < 4 → s.T ((i : Nat) : Int) = if s.c i = 0 then none else some (s.c i)
theorem US.same.set {s : US} (h : s.same) {I : Nat} {Y : Int} (hY : 1 ≤ Y) : (s.set I Y).same := by
  refine ⟨fun i hi => ?_, fun i hi => ?_⟩
  · show 0 ≤ upN s.c I Y i
    unfold upN
    split
    · omega
    · exact h.1 i hi
  · show upF s.T (I : Int) (some Y) ((i : Nat) : Int) = if upN s.c I Y i = 0 then none else some (upN s.c I Y i)
    unfold upF upN
    by_cases e : i = I
    · subst e
      rw [if_pos rfl, if_pos rfl, if_neg (by omega)]
    · rw [if_neg (by omega), if_neg e]
      exact h.2 i hi
theorem US.same.drop {s : US} (h : s.same) {I : Nat} : (s.drop I).same := by
  refine ⟨fun i hi => ?_, fun i hi => ?_⟩
  · show 0 ≤ upN s.c I 0 i
    unfold upN
    split
    · omega
    · exact h.1 i hi
  · show upF s.T (I : Int) none ((i : Nat) : Int) = if upN s.c I 0 i = 0 then none else some (upN s.c I 0 i)
    unfold upF upN
    by_cases e : i = I
    · subst e
      rw [if_pos rfl, if_pos rfl, if_pos rfl]
    · rw [if_neg (by omega), if_neg e]
      exact h.2 i hi
theorem runU_same (L : Nat → UA) (n : Nat) (hL : ∀ j, j < n → 1 ≤ (L j).t) : ∀ F a d s, s.same → (runU L n F a d s).2.2.same
  | 0, _, _, _, h => h
  | F + 1, a, d, s, h => by
    unfold runU
    by_cases h0 : a < n
    · rw [if_pos h0]
      have IH := fun d s => runU_same L n hL F (a + 1) d s
      split
      · exact IH _ _ (h.set (hL a h0))
      · split
        · exact IH _ _ h.drop
        · split
          · refine runU_same L n hL F _ d _ ?_
            split
            · exact h
            · exact IH _ _ h
          · split
            · cases d with
              | true => exact h
              | false => exact IH _ _ h
            · cases d with
              | true => exact h
              | false => exact IH _ _ h
    · rw [if_neg h0]; exact h
end Go.Proofs.Ytemnkffaapljpaa
