/-
  UndoPlays: what a run of steps does, as a function.
-/
import Derived.Test.YtemnkffaapljpaaUPlayP
namespace Go.Proofs.Ytemnkffaapljpaa
open Go.RowKit Go.Maps Go.ChangeMaps Go.WideShapes
structure UA where
  k : Int
  i : Nat
  t : Int
def US.set (s : US) (i : Nat) (y : Int) : US := ⟨upN s.c i y, upF s.T i (some y)⟩
def US.drop (s : US) (i : Nat) : US := ⟨upN s.c i 0, upF s.T i none⟩
/-- from a step on, in a Try or not: did it end by failing, which step is next, the cells -/
def runU (L : Nat → UA) (n : Nat) : Nat → Nat → Bool → US → Bool × Nat × US
  | 0, a, _, s => (false, a, s)
  | f + 1, a, d, s =>
    if a < n then
      if (L a).k = 0 then runU L n f (a + 1) d (s.set (L a).i (L a).t)
      else if (L a).k = 1 then runU L n f (a + 1) d (s.drop (L a).i)
      else if (L a).k = 2 then
        runU L n f (runU L n f (a + 1) true s).2.1 d (if (runU L n f (a + 1) true s).1 then s else (runU L n f (a + 1) true s).2.2)
      else if (L a).k = 3 then if d then (false, a + 1, s) else runU L n f (a + 1) d s
      else if d then (true, a + 1, s) else runU L n f (a + 1) d s
    else (false, a, s)
theorem runU_pos (L : Nat → UA) (n : Nat) : ∀ f a d s, a ≤ n → a ≤ (runU L n f a d s).2.1 ∧ (runU L n f a d s).2.1 ≤ n ∧ ((runU L n f a d s).1 = true → d = true ∧ a < (runU L n f a d s).2.1 ∧ ¬ (L ((runU L n f a d s).2.1 - 1)).k = 0 ∧ ¬ (L ((runU L n f a d s).2.1 - 1)).k = 1 ∧ ¬ (L ((runU L n f a d s).2.1 - 1)).k = 2 ∧ ¬ (L ((runU L n f a d s).2.1 - 1)).k = 3)
  | 0, a, d, s, h => ⟨Nat.le_refl _, h, fun e => (nomatch e)⟩
  | f + 1, a, d, s, h => by
    unfold runU
    by_cases h0 : a < n
    · rw [if_pos h0]
      have next : ∀ s', a ≤ (runU L n f (a + 1) d s').2.1 ∧ (runU L n f (a + 1) d s').2.1 ≤ n ∧ ((runU L n f (a + 1) d s').1 = true → d = true ∧ a < (runU L n f (a + 1) d s').2.1 ∧ ¬ (L ((runU L n f (a + 1) d s').2.1 - 1)).k = 0 ∧ ¬ (L ((runU L n f (a + 1) d s').2.1 - 1)).k = 1 ∧ ¬ (L ((runU L n f (a + 1) d s').2.1 - 1)).k = 2 ∧ ¬ (L ((runU L n f (a + 1) d s').2.1 - 1)).k = 3) := fun s' => by
        obtain ⟨p1, p2, p3⟩ := runU_pos L n f (a + 1) d s' (by omega)
        exact ⟨by omega, p2, fun e => ⟨(p3 e).1, by omega, (p3 e).2.2⟩⟩
      by_cases k0 : (L a).k = 0
      · rw [if_pos k0]; exact next _
      · rw [if_neg k0]
        by_cases k1 : (L a).k = 1
        · rw [if_pos k1]; exact next _
        · rw [if_neg k1]
          by_cases k2 : (L a).k = 2
          · rw [if_pos k2]
            obtain ⟨p1, p2, _⟩ := runU_pos L n f (a + 1) true s (by omega)
            obtain ⟨q1, q2, q3⟩ := runU_pos L n f (runU L n f (a + 1) true s).2.1 d (if (runU L n f (a + 1) true s).1 then s else (runU L n f (a + 1) true s).2.2) p2
            exact ⟨by omega, q2, fun e => ⟨(q3 e).1, by have := (q3 e).2.1; omega, (q3 e).2.2⟩⟩
          · rw [if_neg k2]
            by_cases k3 : (L a).k = 3
            · rw [if_pos k3]
              cases d with
              | true => exact ⟨Nat.le_succ a, h0, fun e => (nomatch e)⟩
              | false => exact next _
            · rw [if_neg k3]
              cases d with
              | true => exact ⟨Nat.le_succ a, h0, fun _ => ⟨rfl, Nat.lt_succ_self a, k0, k1, k2, k3⟩⟩
              | false => exact next _
    · rw [if_neg h0]
      exact ⟨Nat.le_refl _, h, fun e => (nomatch e)⟩
/-- the steps in memory -/
structure AsAt (g tb : Nat) (ao : Option Addr) (n : Nat) (L : Nat → UA) (w : World) : Prop where
  small : n ≤ 40
  ok : ∀ j, j < n → 0 ≤ (L j).k ∧ (L j).k < 5 ∧ (L j).i < 4 ∧ 1 ≤ (L j).t ∧ (L j).t ≤ 256
  at' : 0 < n → ∃ lb off, ao = some ⟨lb, off, none⟩ ∧ ¬ UO g tb lb ∧ (∃ c fz, w.heap[lb]? = some (.cells c 109 fz)) ∧ ∀ j, j < n → w.cell? ⟨lb, off + j * 3, none⟩ = some (.int .i64 (L j).k) ∧ w.cell? ⟨lb, off + j * 3 + 1, none⟩ = some (.int .i64 ((L j).i : Int)) ∧ w.cell? ⟨lb, off + j * 3 + 2, none⟩ = some (.int .i64 (L j).t)
theorem AsAt.kept {g tb : Nat} {ao : Option Addr} {n : Nat} {L : Nat → UA} {w w' : World} (h : AsAt g tb ao n L w) (k : Kept (UO g tb) w w') : AsAt g tb ao n L w' := by
  refine ⟨h.small, h.ok, fun hn => ?_⟩
  obtain ⟨lb, off, e, hu, ⟨c, fz, hb⟩, hc⟩ := h.at' hn
  have e2 : w'.heap[lb]? = w.heap[lb]? := k lb ⟨hu, _, _, _, hb, by decide, by decide⟩
  have e3 : ∀ o, w'.cell? ⟨lb, o, none⟩ = w.cell? ⟨lb, o, none⟩ := fun o => by simp [World.cell?, e2]
  exact ⟨lb, off, e, hu, ⟨c, fz, e2.trans hb⟩, fun j hj => ⟨(e3 _).trans (hc j hj).1, (e3 _).trans (hc j hj).2.1, (e3 _).trans (hc j hj).2.2⟩⟩
theorem AsAt.drew {g tb : Nat} {ao : Option Addr} {n : Nat} {L : Nat → UA} {w : World} (h : AsAt g tb ao n L w) : AsAt g tb ao n L w.drew := h.kept fun _ _ => rfl
/-- how a run ends -/
def RunEnd (B g tb n : Nat) (L : Nat → UA) (F a d : Nat) (fs : List Step) (s : US) (w : World) (e : Ending) (w' : World) : Prop :=
  e = Ends (if (runU L n F a (decide (0 < d)) s).1 = true then some 4 else none) ∧ Ran B g d (UO g tb) (UW g tb) fs (2 * ((runU L n F a (decide (0 < d)) s).2.1 - a)) (runU L n F a (decide (0 < d)) s).2.1 s (runU L n F a (decide (0 < d)) s).2.2 w w'
def RunOk (B g tb n cap : Nat) (ao : Option Addr) (L : Nat → UA) (F : Nat) : Prop :=
  ∀ a d v fs s w, a ≤ n → n - a ≤ F → (d = 0 → fs = []) → fs.length + 2 * (n - a) ≤ 200 → d + (n - a) ≤ 100 → B ≤ w.heap.size → UW g tb a s w → LogAt B g d v fs w → AsAt g tb ao n L w →
    Calls Try.prog 16 #[.pointer (some ⟨g, 0, none⟩), .slice ao n cap] w (RunEnd B g tb n L F a d fs s w)
structure Boxs (g xw xd xl d n cap : Nat) (ao : Option Addr) (w : World) : Prop where
  w' : Box xw 26 (.pointer (some ⟨g, 0, none⟩)) w
  d' : Box xd 3 (.int .i64 (d : Int)) w
  l' : Box xl 24 (.slice ao n cap) w
theorem Boxs.kept {g tb xw xd xl d n cap : Nat} {ao : Option Addr} {w w' : World} (h : Boxs g xw xd xl d n cap ao w) (hS : ¬ UO g tb xw ∧ ¬ UO g tb xd ∧ ¬ UO g tb xl) (k : Kept (UO g tb) w w') : Boxs g xw xd xl d n cap ao w' :=
  ⟨(k xw ⟨hS.1, _, _, _, h.w', by decide, by decide⟩).trans h.w', (k xd ⟨hS.2.1, _, _, _, h.d', by decide, by decide⟩).trans h.d', (k xl ⟨hS.2.2, _, _, _, h.l', by decide, by decide⟩).trans h.l'⟩
end Go.Proofs.Ytemnkffaapljpaa
