/-
  What the document takes of a text, whatever has failed: contracts; its loop over items, as a function.
-/
import Derived.Test.YtpgmgopcgoblhaaDoorStreamRefC
import Derived.Test.YtpgmgopcgoblhaaDoorPackRefIn
namespace Go.Proofs.YtpgmgopcgoblhaaDoor
open Go.RowKit

abbrev RX := List UInt8 × Int
/-- so many bytes -/
def rdT (x : RX) (n : Nat) : RX × List UInt8 :=
  if x.2 ≠ 0 then (x, []) else if x.1.length < n then ((x.1, 2), []) else ((x.1.drop n, 0), x.1.take n)
theorem rdT_len (x : RX) (n : Nat) : (rdT x n).2.length ≤ n := by
  unfold rdT
  split
  · simp
  · split
    · simp
    · simp; omega
def inX (x : RX) : Value := inOf ⟨x.1.toArray⟩ x.2
set_option maxHeartbeats 1000000 in
theorem refText_bad (s : ByteArray) (e n : Int) (w : World) (h : e ≠ 0) :
    Calls Tryd.prog 31 #[inOf s e, .int .i64 n] w fun r w' => r = .returned (.tuple #[inOf s e, .string ⟨#[]⟩]) ∧ Below w.heap.size w w' := by
  unfold inOf
  have e0 : (e != 0) = true := by simpa using h
  clear h
  go_enter Tryd.func31, Tryd.ntmps31
  go_wp2
  exact bodyPost_ret (v := .tuple #[.agg #[.string s, .int .i64 e], .string ⟨#[]⟩]) (by simp [results, Tryd.results31, go_sem]) rfl ⟨rfl, two_new _ _⟩
theorem refText_any (x : RX) (n : Nat) (w : World) :
    Calls Tryd.prog 31 #[inX x, .int .i64 (n : Int)] w fun r w' => r = .returned (.tuple #[inX (rdT x n).1, .string ⟨(rdT x n).2.toArray⟩]) ∧ Below w.heap.size w w' := by
  obtain ⟨l, e⟩ := x
  unfold inX rdT
  dsimp only
  by_cases h : e = 0
  · subst h
    rw [if_neg (by decide)]
    by_cases h2 : l.length < n
    · rw [if_pos h2]
      exact refText_end ⟨l.toArray⟩ n w (by omega) (by rw [ba_size]; omega)
    · rw [if_neg h2]
      have t := refText_ok ⟨l.toArray⟩ n w (by rw [ba_size]; omega)
      rw [ba_take, ba_drop] at t
      exact t
  · rw [if_pos h]
    exact refText_bad _ e n w h
theorem refNumber_any (x : RX) (size : Int) (n : Nat) (w : World) (hs : wid size = n) :
    Calls Tryd.prog 32 #[inX x, .int .i64 size] w fun r w' => r = .returned (.tuple #[inX (rdT x n).1, .int .u64 (num (rdT x n).2 : Nat)]) ∧ Below w.heap.size w w' := by
  have h := wid_bd size
  refine refNumber_of ⟨x.1.toArray⟩ ⟨(rdT x n).1.1.toArray⟩ ⟨(rdT x n).2.toArray⟩ x.2 (rdT x n).1.2 size w ?_ fun wx => ?_
  · rw [ba_size]
    have := rdT_len x n
    omega
  · rw [hs]
    exact refText_any x n wx
/-- what is left when all has been taken -/
def rdD (x : RX) : RX := if x.2 = 0 ∧ x.1 ≠ [] then (x.1, 1) else x
set_option maxHeartbeats 1000000 in
theorem refDone_any (x : RX) (w : World) :
    Calls Tryd.prog 33 #[inX x] w fun e w' => e = .returned (inX (rdD x)) ∧ Below w.heap.size w w' := by
  obtain ⟨l, e⟩ := x
  unfold inX rdD
  dsimp only
  by_cases h : e = 0
  · subst h
    by_cases h2 : l = []
    · subst h2
      rw [if_neg (by simp)]
      exact refDone_ok w
    · rw [if_pos ⟨rfl, h2⟩]
      refine refDone_not _ w ?_
      rw [ByteArray.toList_eq]
      cases l with
      | nil => exact absurd rfl h2
      | cons _ _ => rfl
  · rw [if_neg (fun q => h q.1)]
    unfold inOf
    have e0 : (e == 0) = false := by simpa using h
    generalize (⟨l.toArray⟩ : ByteArray) = s
    clear h
    go_enter Tryd.func33, Tryd.ntmps33
    go_wp2
    exact bodyPost_ret (v := .agg #[.string s, .int .i64 e]) (by simp [results, Tryd.results33, go_sem]) rfl ⟨rfl, two_new _ _⟩
/-- the document's loop; none: an item's byte is no such -/
def rLoop : Nat → RX → List It → Option (RX × List It)
  | 0, x, acc => some (x, acc)
  | n + 1, x, acc =>
    if x.2 ≠ 0 then some (x, acc)
    else if (rdT (rdT x 2).1 1).1.2 = 0 ∧ 1 < num (rdT (rdT x 2).1 1).2 then none
    else if num (rdT (rdT x 2).1 1).2 = 1 then rLoop n (rdT (rdT (rdT x 2).1 1).1 256).1 (acc ++ [⟨num (rdT x 2).2, (rdT (rdT (rdT x 2).1 1).1 256).2⟩])
    else rLoop n (rdT (rdT x 2).1 1).1 (acc ++ [⟨num (rdT x 2).2, []⟩])
theorem rLoop_bad (n : Nat) (l : List UInt8) (e : Int) (acc : List It) (h : e ≠ 0) : rLoop n (l, e) acc = some ((l, e), acc) := by
  cases n with
  | zero => rfl
  | succ n => unfold rLoop; rw [if_pos h]
theorem rLoop_its : ∀ n l acc, (rLoop n (l, 0) acc = none → itsP n l acc = .error 1) ∧ (∀ r e xs, rLoop n (l, 0) acc = some ((r, e), xs) → if e = 0 then itsP n l acc = .ok (xs, r) else e = 2 ∧ itsP n l acc = .error 2)
  | 0, l, acc => by
    refine ⟨fun h => (by cases h), fun r e xs h => ?_⟩
    unfold rLoop at h
    injection h with h
    injection h with h1 h2
    injection h1 with h1 h3
    subst h1 h2 h3
    rw [if_pos rfl]
    rfl
  | n + 1, l, acc => by
    have e1 : rLoop (n + 1) (l, 0) acc = (if (rdT (rdT (l, 0) 2).1 1).1.2 = 0 ∧ 1 < num (rdT (rdT (l, 0) 2).1 1).2 then none
      else if num (rdT (rdT (l, 0) 2).1 1).2 = 1 then rLoop n (rdT (rdT (rdT (l, 0) 2).1 1).1 256).1 (acc ++ [⟨num (rdT (l, 0) 2).2, (rdT (rdT (rdT (l, 0) 2).1 1).1 256).2⟩])
      else rLoop n (rdT (rdT (l, 0) 2).1 1).1 (acc ++ [⟨num (rdT (l, 0) 2).2, []⟩])) := by
      conv => lhs; unfold rLoop
      rw [if_neg (fun h => h rfl)]
    have e2 : itsP (n + 1) l acc = match itP l with
      | .error e => .error e
      | .ok (x, r) => itsP n r (acc ++ [x]) := rfl
    rw [e1, e2]
    unfold itP
    by_cases h2 : l.length < 2
    · rw [if_pos h2]
      have a1 : rdT (l, 0) 2 = ((l, 2), []) := by unfold rdT; rw [if_neg (fun h => h rfl), if_pos h2]
      have a2 : rdT (l, 2) 1 = ((l, 2), []) := by unfold rdT; rw [if_pos (by show (2 : Int) ≠ 0; decide)]
      rw [a1, a2]
      dsimp only
      rw [if_neg (by decide), if_neg (by decide), rLoop_bad _ _ _ _ (by decide)]
      refine ⟨fun h => (by cases h), fun r e xs h => ?_⟩
      injection h with h
      injection h with h1 h2
      injection h1 with h1 h3
      subst h1 h2 h3
      rw [if_neg (by decide)]
      exact ⟨rfl, rfl⟩
    · rw [if_neg h2]
      have a1 : rdT (l, 0) 2 = ((l.drop 2, 0), l.take 2) := by unfold rdT; rw [if_neg (fun h => h rfl), if_neg h2]
      rw [a1]
      dsimp only
      by_cases h3 : l.length < 3
      · rw [if_pos h3]
        have a2 : rdT (l.drop 2, 0) 1 = ((l.drop 2, 2), []) := by unfold rdT; rw [if_neg (fun h => h rfl), if_pos (by show (l.drop 2).length < 1; rw [List.length_drop]; omega)]
        rw [a2]
        dsimp only
        rw [if_neg (by decide), if_neg (by decide), rLoop_bad _ _ _ _ (by decide)]
        refine ⟨fun h => (by cases h), fun r e xs h => ?_⟩
        injection h with h
        injection h with h1 h2
        injection h1 with h1 h3
        subst h1 h2 h3
        rw [if_neg (by decide)]
        exact ⟨rfl, rfl⟩
      · rw [if_neg h3]
        have a2 : rdT (l.drop 2, 0) 1 = ((l.drop 3, 0), (l.drop 2).take 1) := by
          unfold rdT
          rw [if_neg (fun h => h rfl), if_neg (by show ¬ (l.drop 2).length < 1; rw [List.length_drop]; omega), List.drop_drop]
        rw [a2]
        dsimp only
        generalize num ((l.drop 2).take 1) = b
        by_cases b0 : b = 0
        · subst b0
          rw [if_neg (by decide), if_neg (by decide), if_pos rfl]
          exact rLoop_its n (l.drop 3) _
        · by_cases b1 : b = 1
          · subst b1
            rw [if_neg (by decide), if_pos rfl, if_neg (by decide), if_pos rfl]
            by_cases h4 : l.length < 259
            · rw [if_pos h4]
              have a3 : rdT (l.drop 3, 0) 256 = ((l.drop 3, 2), []) := by unfold rdT; rw [if_neg (fun h => h rfl), if_pos (by show (l.drop 3).length < 256; rw [List.length_drop]; omega)]
              rw [a3]
              dsimp only
              rw [rLoop_bad _ _ _ _ (by decide)]
              refine ⟨fun h => (by cases h), fun r e xs h => ?_⟩
              injection h with h
              injection h with h1 h2
              injection h1 with h1 h3
              subst h1 h2 h3
              rw [if_neg (by decide)]
              exact ⟨rfl, rfl⟩
            · rw [if_neg h4]
              have a3 : rdT (l.drop 3, 0) 256 = ((l.drop 259, 0), (l.drop 3).take 256) := by
                unfold rdT
                rw [if_neg (fun h => h rfl), if_neg (by show ¬ (l.drop 3).length < 256; rw [List.length_drop]; omega), List.drop_drop]
              rw [a3]
              exact rLoop_its n (l.drop 259) _
          · rw [if_pos ⟨rfl, by omega⟩, if_neg b0, if_neg b1]
            exact ⟨fun _ => rfl, fun r e xs h => (by cases h)⟩
end Go.Proofs.YtpgmgopcgoblhaaDoor
