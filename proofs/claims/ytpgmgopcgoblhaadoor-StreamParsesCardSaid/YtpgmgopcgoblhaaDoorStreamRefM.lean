/-
  What the document's Parse comes to, thing by thing, is what any bytes say; where its stream lies while it is made.
-/
import Derived.Test.YtpgmgopcgoblhaaDoorStreamRefR
import Derived.Test.YtpgmgopcgoblhaaDoorStreamOpen
namespace Go.Proofs.YtpgmgopcgoblhaaDoor
open Go.RowKit

theorem rdT_bad (l : List UInt8) (n : Nat) : rdT (l, 2) n = ((l, 2), []) := by unfold rdT; rw [if_pos (by show (2 : Int) ≠ 0; decide)]
theorem rdT_end (l : List UInt8) (n : Nat) (h : l.length < n) : rdT (l, 0) n = ((l, 2), []) := by unfold rdT; rw [if_neg (fun h => h rfl), if_pos h]
theorem rdT_ok (l : List UInt8) (n : Nat) (h : n ≤ l.length) : rdT (l, 0) n = ((l.drop n, 0), l.take n) := by unfold rdT; rw [if_neg (fun h => h rfl), if_neg (by show ¬ l.length < n; omega)]
theorem rdT_drop (l : List UInt8) (a n : Nat) (h : a + n ≤ l.length) : rdT (l.drop a, 0) n = ((l.drop (a + n), 0), (l.drop a).take n) := by
  rw [rdT_ok _ _ (by rw [List.length_drop]; omega), List.drop_drop]
theorem rdT_dend (l : List UInt8) (a n : Nat) (h : l.length < a + n) (ha : a ≤ l.length) : rdT (l.drop a, 0) n = ((l.drop a, 2), []) := rdT_end _ _ (by rw [List.length_drop]; omega)
def q1 (l : List UInt8) : RX × List UInt8 := rdT (l, 0) 4
def q2 (l : List UInt8) : RX × List UInt8 := rdT (q1 l).1 1
def q3 (l : List UInt8) : RX × List UInt8 := rdT (q2 l).1 2
def q4 (l : List UInt8) : RX × List UInt8 := rdT (q3 l).1 32
def q5 (l : List UInt8) : RX × List UInt8 := rdT (q4 l).1 32
def q6 (l : List UInt8) : RX × List UInt8 := rdT (q5 l).1 2
/-- what is told of bytes whose beginning is a stream's -/
def RestIs (l : List UInt8) : Prop :=
  match rLoop (num (q6 l).2) (q6 l).1 [] with
  | none => bodyP l = .error 1
  | some (x, xs) => if (rdD x).2 ≠ 0 then bodyP l = .error (rdD x).2 else bodyP l = .ok ⟨num (q3 l).2, (q4 l).2, (q5 l).2, xs⟩
theorem rdD_bad (l : List UInt8) (e : Int) (h : e ≠ 0) : rdD (l, e) = (l, e) := by unfold rdD; rw [if_neg (fun q => h q.1)]
theorem rdD_nil : rdD ([], 0) = ([], 0) := by unfold rdD; rw [if_neg (fun q => q.2 rfl)]
theorem rdD_left (l : List UInt8) (h : l ≠ []) : rdD (l, 0) = (l, 1) := by unfold rdD; rw [if_pos ⟨rfl, h⟩]
theorem two_ne : ¬ (2 : Int) = 0 := by decide
theorem rest_bad (l l' : List UInt8) (h6 : q6 l = ((l', 2), [])) (hb : bodyP l = .error 2) : RestIs l := by
  unfold RestIs
  rw [h6]
  dsimp only
  rw [rLoop_bad _ _ _ _ (by decide)]
  dsimp only
  rw [rdD_bad _ _ (by decide), if_pos (by show (2 : Int) ≠ 0; decide)]
  exact hb
theorem first_bad (l : List UInt8) (h : (q1 l).1.2 = 0 ∧ (q1 l).2 ≠ markB) : bodyP l = .error 1 := by
  unfold bodyP
  by_cases h4 : l.length < 4
  · unfold q1 at h
    rw [rdT_end _ _ h4] at h
    exact absurd h.1 two_ne
  · rw [if_neg h4]
    unfold q1 at h
    rw [rdT_ok _ _ (by omega)] at h
    rw [if_pos h.2]
theorem second_bad (l : List UInt8) (h1 : ¬ ((q1 l).1.2 = 0 ∧ (q1 l).2 ≠ markB)) (h : (q2 l).1.2 = 0 ∧ num (q2 l).2 ≠ 1) : bodyP l = .error 1 := by
  unfold bodyP
  by_cases h4 : l.length < 4
  · unfold q2 q1 at h
    rw [rdT_end _ _ h4, rdT_bad] at h
    exact absurd h.1 two_ne
  · rw [if_neg h4]
    have e1 : q1 l = ((l.drop 4, 0), l.take 4) := rdT_ok _ _ (by omega)
    rw [e1] at h1
    have hm : l.take 4 = markB := Decidable.not_not.1 (fun q => h1 ⟨rfl, q⟩)
    rw [if_neg (Decidable.not_not.2 hm)]
    unfold q2 at h
    rw [e1] at h
    by_cases h5 : l.length < 5
    · rw [rdT_dend _ _ _ (by omega) (by omega)] at h
      exact absurd h.1 two_ne
    · rw [if_neg h5]
      rw [rdT_drop _ _ _ (by omega)] at h
      rw [if_pos h.2]
theorem rest_is (l : List UInt8) (h1 : ¬ ((q1 l).1.2 = 0 ∧ (q1 l).2 ≠ markB)) (h2 : ¬ ((q2 l).1.2 = 0 ∧ num (q2 l).2 ≠ 1)) : RestIs l := by
  by_cases h4 : l.length < 4
  · refine rest_bad l l ?_ (by unfold bodyP; rw [if_pos h4])
    unfold q6 q5 q4 q3 q2 q1
    rw [rdT_end _ _ h4, rdT_bad, rdT_bad, rdT_bad, rdT_bad, rdT_bad]
  have e1 : q1 l = ((l.drop 4, 0), l.take 4) := rdT_ok _ _ (by omega)
  rw [e1] at h1
  have hm : l.take 4 = markB := Decidable.not_not.1 (fun q => h1 ⟨rfl, q⟩)
  by_cases h5 : l.length < 5
  · refine rest_bad l (l.drop 4) ?_ (by unfold bodyP; rw [if_neg h4, if_neg (Decidable.not_not.2 hm), if_pos h5])
    unfold q6 q5 q4 q3 q2
    rw [e1, rdT_dend _ _ _ (by omega) (by omega), rdT_bad, rdT_bad, rdT_bad, rdT_bad]
  have e2 : q2 l = ((l.drop 5, 0), (l.drop 4).take 1) := by unfold q2; rw [e1]; exact rdT_drop _ _ _ (by omega)
  rw [e2] at h2
  have hb : num ((l.drop 4).take 1) = 1 := Decidable.not_not.1 (fun q => h2 ⟨rfl, q⟩)
  have hPre : bodyP l = if l.length < 73 then .error 2 else restP (num ((l.drop 5).take 2)) ((l.drop 7).take 32) ((l.drop 39).take 32) (num ((l.drop 71).take 2)) (l.drop 73) := by
    unfold bodyP
    rw [if_neg h4, if_neg (Decidable.not_not.2 hm), if_neg h5, if_neg (Decidable.not_not.2 hb)]
    rfl
  by_cases h7 : l.length < 7
  · refine rest_bad l (l.drop 5) ?_ (by rw [hPre, if_pos (by omega)])
    unfold q6 q5 q4 q3
    rw [e2, rdT_dend _ _ _ (by omega) (by omega), rdT_bad, rdT_bad, rdT_bad]
  have e3 : q3 l = ((l.drop 7, 0), (l.drop 5).take 2) := by unfold q3; rw [e2]; exact rdT_drop _ _ _ (by omega)
  by_cases h39 : l.length < 39
  · refine rest_bad l (l.drop 7) ?_ (by rw [hPre, if_pos (by omega)])
    unfold q6 q5 q4
    rw [e3, rdT_dend _ _ _ (by omega) (by omega), rdT_bad, rdT_bad]
  have e4 : q4 l = ((l.drop 39, 0), (l.drop 7).take 32) := by unfold q4; rw [e3]; exact rdT_drop _ _ _ (by omega)
  by_cases h71 : l.length < 71
  · refine rest_bad l (l.drop 39) ?_ (by rw [hPre, if_pos (by omega)])
    unfold q6 q5
    rw [e4, rdT_dend _ _ _ (by omega) (by omega), rdT_bad]
  have e5 : q5 l = ((l.drop 71, 0), (l.drop 39).take 32) := by unfold q5; rw [e4]; exact rdT_drop _ _ _ (by omega)
  by_cases h73 : l.length < 73
  · refine rest_bad l (l.drop 71) ?_ (by rw [hPre, if_pos (by omega)])
    unfold q6
    rw [e5, rdT_dend _ _ _ (by omega) (by omega)]
  have e6 : q6 l = ((l.drop 73, 0), (l.drop 71).take 2) := by unfold q6; rw [e5]; exact rdT_drop _ _ _ (by omega)
  rw [if_neg h73] at hPre
  unfold RestIs
  rw [hPre, e6, e3, e4, e5]
  dsimp only
  unfold restP
  obtain ⟨t1, t2⟩ := rLoop_its (num ((l.drop 71).take 2)) (l.drop 73) []
  cases hG : rLoop (num ((l.drop 71).take 2)) (l.drop 73, 0) [] with
  | none => dsimp only; rw [t1 hG]
  | some p =>
    obtain ⟨⟨r, e⟩, xs⟩ := p
    have t3 := t2 r e xs hG
    dsimp only
    by_cases he : e = 0
    · subst he
      rw [if_pos rfl] at t3
      rw [t3]
      dsimp only
      by_cases hr : r = []
      · subst hr
        rw [rdD_nil, if_neg (fun h => h rfl), if_pos rfl]
      · rw [rdD_left r hr, if_pos (by show (1 : Int) ≠ 0; decide), if_neg hr]
    · rw [if_neg he] at t3
      obtain ⟨rfl, t4⟩ := t3
      rw [t4]
      rw [rdD_bad _ _ (by decide), if_pos (by show (2 : Int) ≠ 0; decide)]
end Go.Proofs.YtpgmgopcgoblhaaDoor
