/-
  extent.Zero and the document's own, of any text; does an item fit a volume of so many sectors.
-/
import Derived.Test.YtbohpffigmllkaaGreatDoorShelfTrim
import Derived.Test.YtbohpffigmllkaaGreatDoorStreamMath
import Derived.Test.YtbohpffigmllkaaGreatDoorShas
namespace Go.Proofs.YtbohpffigmllkaaGreatDoor
open Go.RowKit

theorem dw_pos {b : UInt8} {r : List UInt8} (h : (b == 0) = true) : (b :: r).dropWhile (· == 0) = r.dropWhile (· == 0) := by simp only [List.dropWhile, h]
theorem dw_neg {b : UInt8} {r : List UInt8} (h : ¬ (b == 0) = true) : (b :: r).dropWhile (· == 0) = b :: r := by
  have h2 : (b == 0) = false := by simpa using h
  simp only [List.dropWhile, h2]
theorem drop_all (l : List UInt8) (h : allZero l = true) : l.dropWhile (· == 0) = [] := by
  induction l with
  | nil => rfl
  | cons b r ih =>
    unfold allZero at h
    rw [List.all_cons, Bool.and_eq_true] at h
    rw [dw_pos h.1]
    exact ih h.2
theorem drop_none (l : List UInt8) (h : l.dropWhile (· == 0) = []) : allZero l = true := by
  induction l with
  | nil => rfl
  | cons b r ih =>
    by_cases hb : (b == 0) = true
    · rw [dw_pos hb] at h
      unfold allZero
      rw [List.all_cons, hb, Bool.true_and]
      exact ih h
    · rw [dw_neg hb] at h
      cases h
theorem drop_first (l : List UInt8) : allZero (l.dropWhile (· == 0)) = allZero l := by
  induction l with
  | nil => rfl
  | cons b r ih =>
    by_cases hb : (b == 0) = true
    · rw [dw_pos hb, ih]
      unfold allZero
      rw [List.all_cons, hb, Bool.true_and]
    · rw [dw_neg hb]
theorem allZero_rev (l : List UInt8) : allZero l.reverse = allZero l := by unfold allZero; exact List.all_reverse
theorem trim_zero (l : List UInt8) : (Lib.trimB l 0).isEmpty = allZero l := by
  unfold Lib.trimB Lib.trimLeftB Lib.trimRightB
  cases hz : allZero l with
  | true =>
    rw [drop_all l.reverse (by rw [allZero_rev]; exact hz)]
    rfl
  | false =>
    cases hd : ((l.reverse.dropWhile (· == 0)).reverse.dropWhile (· == 0)) with
    | cons _ _ => rfl
    | nil =>
      have h1 := drop_none _ hd
      rw [allZero_rev, drop_first, allZero_rev, hz] at h1
      cases h1
theorem zero_any (s : ByteArray) (w : World) (hs : s.size ≤ maxLen) :
    Calls Tryz.prog 43 #[.string s] w fun e w' => e = .returned (.bool (allZero s.data.toList)) ∧ (w' = w ∨ w' = w.drew) := by
  have HT := Lib.hid (libTrim_one s 0 (by decide) w (by unfold maxLen at hs; omega))
  have HZ := Lib.hid (trim_zero s.data.toList)
  obtain ⟨z, hz⟩ : ∃ z, allZero s.data.toList = z := ⟨_, rfl⟩
  have HE : Hid ((⟨(Lib.trimB s.data.toList 0).toArray⟩ : ByteArray).toList.isEmpty = z) := Lib.hid (by
    rw [ByteArray.toList_eq, ← hz]
    exact HZ.out)
  rw [hz]
  clear hz HZ hs
  generalize (⟨(Lib.trimB s.data.toList 0).toArray⟩ : ByteArray) = T at *
  go_enter Tryz.func43, Tryz.ntmps43
  go_wp2_with fail
  refine HT.out.mono ?_
  rintro e w1 ⟨rfl, hw⟩
  have HW := Lib.hid hw
  have he := HE.out
  clear hw HT
  cases z
  · go_wp2
    go_ret
    exact ⟨rfl, HW.out⟩
  · go_wp2
    go_ret
    exact ⟨rfl, HW.out⟩
set_option maxHeartbeats 400000 in
theorem refZero_any (s : ByteArray) (w : World) (hl : s.size ≤ maxLen) :
    Calls Tryz.prog 15 #[.string s] w fun e w' => e = .returned (.bool (allZero s.data.toList)) ∧ w' = w := by
  unfold maxLen at hl
  obtain ⟨z, hz⟩ : ∃ z, allZero s.data.toList = z := ⟨_, rfl⟩
  have HK : ∀ k (h : k < s.size), allZero (s.data.toList.take (k + 1)) = (allZero (s.data.toList.take k) && s[k] == 0) := fun k h => by
    rw [take_snoc s k h]
    unfold allZero
    rw [List.all_append]
    simp
  have HZ : Hid (allZero s.data.toList = z) := Lib.hid hz
  have HF : Hid (∀ k, k ≤ s.size → allZero (s.data.toList.take k) = false → z = false) := Lib.hid (fun k _ h => by
    rw [← hz, ← List.take_append_drop k s.data.toList]
    unfold allZero at h ⊢
    rw [List.all_append, h, Bool.false_and])
  have HKK := Lib.hid HK
  clear HK
  rw [hz]
  clear hz
  go_enter Tryz.func15, Tryz.ntmps15
  go_wp2
  go_loop [3] (fun i => ∃ k : Nat, k ≤ s.size ∧ i = .int .i64 k ∧ allZero (s.data.toList.take k) = true) (fun i => s.size - (intOf i).toNat)
  case atStart => exact ⟨0, by omega, rfl, rfl⟩
  case round =>
    obtain ⟨k, hk, rfl, hrel⟩ := hrel
    have HR := Lib.hid hrel
    clear hrel
    by_cases hlt : k < s.size
    · have HN := Lib.hid (HKK.out k hlt)
      by_cases h0 : s[k] = 0
      · have hb : (((s[k]).toNat : Int) != 0) = false := by rw [h0]; rfl
        go_wp2
        go_round
        case rel => exact ⟨k + 1, by omega, by go_num, by rw [HN.out, HR.out, h0]; rfl⟩
        case measure => simp [intOf]; omega
      · have hz : z = false := HF.out (k + 1) (by omega) (by rw [HN.out, HR.out]; simpa using h0)
        have HZ2 := Lib.hid hz
        have hb : (((s[k]).toNat : Int) != 0) = true := by
          have h1 : (s[k]).toNat ≠ 0 := fun e => h0 (UInt8.toNat_inj.1 (by rw [e]; rfl))
          have h2 : ((s[k]).toNat : Int) ≠ 0 := by omega
          simpa using h2
        clear hz h0
        go_wp2
        go_ret
        exact ⟨by rw [HZ2.out]; rfl, rfl⟩
    · obtain rfl : k = s.size := by omega
      have hz : z = true := by
        have h1 := HR.out
        have e : s.data.toList.take s.size = s.data.toList := List.take_of_length_le (by simp)
        rw [e] at h1
        rw [← HZ.out]
        exact h1
      have HZ2 := Lib.hid hz
      clear hz
      go_wp2
      go_ret
      exact ⟨by rw [HZ2.out]; rfl, rfl⟩
end Go.Proofs.YtbohpffigmllkaaGreatDoor
