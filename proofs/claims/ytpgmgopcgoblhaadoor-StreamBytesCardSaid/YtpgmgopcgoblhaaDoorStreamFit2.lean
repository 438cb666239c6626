/-
  Does an item fit a volume of so many sectors: a contract.
-/
import Derived.Test.YtpgmgopcgoblhaaDoorStreamFits
namespace Go.Proofs.YtpgmgopcgoblhaaDoor
open Go.RowKit

def itV (x : It) : Value := .agg #[.int .i64 x.pl, .string ⟨x.dt.toArray⟩]
theorem zero_below {w w1 : World} (h : w1 = w ∨ w1 = w.drew) : Below w.heap.size w w1 := by
  rcases h with rfl | rfl
  · exact Below.refl _ _
  · exact (Below.refl _ _).drew
set_option maxRecDepth 100000 in
set_option maxHeartbeats 1000000 in
theorem fits_any (x : It) (size : Int) (w : World) (h1 : 1 ≤ size) (h2 : size ≤ 2048) (h3 : 0 ≤ x.pl) (hd : x.dt.length ≤ maxLen) :
    Calls Tryd.prog 21 #[itV x, .int .i64 size] w fun e w' => e = .returned (.bool (okIt size x)) ∧ Below w.heap.size w w' := by
  obtain ⟨pl, dt⟩ := x
  unfold itV okIt
  dsimp only at h3 hd ⊢
  obtain ⟨q, hq⟩ : ∃ q, (size - 1) / 4 = q := ⟨_, rfl⟩
  have m1 : IntKind.i64.wrap (size - 1) = size - 1 := IntWalk.i64_in _ (by omega)
  have m2 : IntKind.i64.wrap ((size - 1).tdiv 4) = q := by
    rw [Int.tdiv_eq_ediv_of_nonneg (by omega), hq, IntWalk.i64_in _ (by omega)]
  have m2' : (size - 1).tdiv 4 = q := by
    rw [Int.tdiv_eq_ediv_of_nonneg (by omega), hq]
  have m6 : wrap64 q = q := by unfold wrap64; omega
  rw [hq]
  have hB : Hid (Below w.heap.size w (w.alloc (.cells #[.int .i64 pl, .string ⟨dt.toArray⟩] 51))) := Lib.hid ((Below.refl _ _).alloc (Nat.le_refl _) _)
  by_cases c1 : q < pl
  · have e : (decide (pl ≤ q) && (dt.isEmpty || (decide (dt.length = 256) && (!allZero dt && allZero (dt.drop (min (size - pl * 4) 4 * 64).toNat))))) = false := by rw [decide_eq_false (by omega)]; rfl
    rw [e]
    have HQ := Lib.hid hq
    clear hq e hd h1 h2 h3
    go_enter Tryd.func21, Tryd.ntmps21
    go_wp2
    go_ret
    exact ⟨rfl, hB.out⟩
  · have e0 : decide (pl ≤ q) = true := decide_eq_true (by omega)
    have hle : pl ≤ q := by omega
    have d1 : decide (q < pl) = false := decide_eq_false c1
    rw [e0, Bool.true_and]
    have hp : 4 * pl ≤ size - 1 := by omega
    clear c1 hle
    obtain ⟨D, hD⟩ : ∃ D : ByteArray, ⟨dt.toArray⟩ = D := ⟨_, rfl⟩
    have hDl : D.data.toList = dt := by rw [← hD]
    have hDs : D.size = dt.length := by rw [← hD]; simp [ByteArray.size]
    by_cases c2 : dt = []
    · subst c2
      have HQ := Lib.hid hq
      have hem : D.toList.isEmpty = true := by rw [ByteArray.toList_eq, hDl]; rfl
      rw [hD] at hB ⊢
      clear hq hd h1 h2 h3 hp hD hDl hDs e0
      go_enter Tryd.func21, Tryd.ntmps21
      go_wp2
      go_ret
      exact ⟨rfl, hB.out⟩
    · have e1 : dt.isEmpty = false := by cases dt with
        | nil => exact absurd rfl c2
        | cons _ _ => rfl
      have hem : D.toList.isEmpty = false := by rw [ByteArray.toList_eq, hDl]; exact e1
      rw [e1, Bool.false_or]
      obtain ⟨m, hm⟩ : ∃ m, min (size - pl * 4) 4 = m := ⟨_, rfl⟩
      have hm1 : 1 ≤ m ∧ m ≤ 4 := by omega
      have m3 : IntKind.i64.wrap (pl * 4) = pl * 4 := IntWalk.i64_in _ (by omega)
      have m4 : IntKind.i64.wrap (size - pl * 4) = size - pl * 4 := IntWalk.i64_in _ (by omega)
      have m5 : IntKind.i64.wrap (m * 64) = m * 64 := IntWalk.i64_in _ (by omega)
      have hmin : ∀ (ts : Array TypeId) (t : TypeId) (w : World), (Builtin.min_ ts t #[.int .i64 (size - pl * 4), .int .i64 4]).run Tryd.prog w = .ok (.int .i64 m) w := fun ts t w => run_min2 _ w ts t _ _ _ hm.symm
      rw [hm]
      by_cases c3 : dt.length = 256
      · have hsz : ((D.size : Nat) : Int) = 256 := by omega
        have hsz2 : (((D.size : Nat) : Int) == 256) = true := by simp [hsz]
        have HZ := Lib.hid fun wx => zero_any D wx (by rw [hDs]; exact hd)
        rw [hDl] at HZ
        rw [decide_eq_true c3, Bool.true_and]
        rw [hD] at hB ⊢
        have HQ := Lib.hid hq
        have HH := Lib.hid (And.intro h1 (And.intro h2 (And.intro h3 hp)))
        clear hq hd h1 h2 h3 hp hD e0 hm
        by_cases c4 : allZero dt = true
        · rw [c4] at HZ ⊢
          have HC := Lib.hid c4
          clear c4
          go_enter Tryd.func21, Tryd.ntmps21
          go_wp2_with fail
          refine (HZ.out _).mono ?_
          rintro e w1 ⟨rfl, hw⟩
          have HW := Lib.hid hw
          clear hw
          go_wp2
          go_ret
          exact ⟨rfl, hB.out.trans ((zero_below HW.out).mono (by simp))⟩
        · have c4' : allZero dt = false := by simpa using c4
          rw [c4'] at HZ ⊢
          have HC := Lib.hid c4'
          clear c4 c4'
          obtain ⟨K, hK⟩ : ∃ K : Nat, (m * 64).toNat = K := ⟨_, rfl⟩
          have hK2 : m * 64 = (K : Int) := by omega
          have hK3 : K ≤ 256 := by omega
          have hEs : (D.extract K D.size).size ≤ maxLen := by rw [ByteArray.size_extract]; unfold maxLen; omega
          have hEl : (D.extract K D.size).data.toList = dt.drop K := by
            rw [← hDl, ByteArray.data_extract, Array.toList_extract, List.extract_eq_take_drop]
            exact List.take_of_length_le (by rw [List.length_drop]; simp)
          have HZ2 := Lib.hid fun wx => zero_any (D.extract K D.size) wx hEs
          rw [hEl] at HZ2
          have hs256 : D.size = 256 := by omega
          rw [hs256] at HZ2
          have k0 : (K : Int) ≤ (D.size : Int) := by omega
          have k1 : K ≤ D.size := by omega
          rw [hK]
          rw [hK2] at m5
          have HM := Lib.hid (And.intro hm1 (And.intro hK hK3))
          generalize allZero (dt.drop K) = z at *
          clear hm1 hK hK3 hEs hEl hs256
          go_enter Tryd.func21, Tryd.ntmps21
          go_wp2_with fail
          refine (HZ.out _).mono ?_
          rintro e w1 ⟨rfl, hw⟩
          have hw2 : w1.cell? ⟨w.heap.size, 1, none⟩ = some (.string D) := by
            have h0 : (w.alloc (.cells #[.int .i64 pl, .string D] 51)).cell? ⟨w.heap.size, 1, none⟩ = some (.string D) := by simp
            rcases hw with rfl | rfl
            · exact h0
            · exact h0
          have HW := Lib.hid hw
          clear hw
          go_wp2_with fail
          refine (HZ2.out _).mono ?_
          rintro e w2 ⟨rfl, hw⟩
          have HW2 := Lib.hid hw
          clear hw
          go_wp2
          go_ret
          exact ⟨rfl, (hB.out.trans ((zero_below HW.out).mono (by simp))).trans ((zero_below HW2.out).mono (Nat.le_trans (Nat.le_succ _) (by have := (zero_below HW.out).size; simpa using this)))⟩
      · have hsz : ¬ ((D.size : Nat) : Int) = 256 := by omega
        have hsz2 : (((D.size : Nat) : Int) == 256) = false := by simpa using hsz
        rw [decide_eq_false c3, Bool.false_and]
        rw [hD] at hB ⊢
        have HQ := Lib.hid hq
        clear hq hd h1 h2 h3 hp hD hDl hDs e0 hm
        go_enter Tryd.func21, Tryd.ntmps21
        go_wp2
        go_ret
        exact ⟨rfl, hB.out⟩
end Go.Proofs.YtpgmgopcgoblhaaDoor
