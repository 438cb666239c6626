/-
  ref's Cost, of any text.
-/
import Derived.Test.YtbohpffigmllkaaGreatDoorExtCost
namespace Go.Proofs.YtbohpffigmllkaaGreatDoor
open Go.RowKit

set_option maxRecDepth 100000 in
set_option maxHeartbeats 1000000 in
theorem refCost_any (s : ByteArray) (w : World) (hs : s.size ≤ 1000) :
    Calls Tryz.prog 18 #[.string s] w fun e w' => e = .returned (.int .i64 (costN s.data.toList : Nat)) ∧ Below w.heap.size w w' := by
  have HZ := Lib.hid (fun (t : ByteArray) (wx : World) (h : t.size ≤ 1000) => refZero_any t wx (by unfold maxLen; omega))
  have HZ0 := Lib.hid (HZ.out s w hs)
  have HS := Lib.hid hs
  have HQ : Hid (costN s.data.toList = if allZero s.data.toList then 0 else 1 + partsN s.data.toList ((s.size + 63) / 64)) := Lib.hid (by unfold costN; rw [show s.data.toList.length = s.size by simp])
  obtain ⟨z, hz⟩ : ∃ z, allZero s.data.toList = z := ⟨_, rfl⟩
  rw [hz] at HZ0 HQ
  generalize costN s.data.toList = C at *
  clear hz hs
  cases z with
  | true =>
    obtain rfl := HQ.out
    go_enter Tryz.func18, Tryz.ntmps18
    go_wp2_with fail
    refine HZ0.out.mono ?_
    rintro e w1 ⟨rfl, hw⟩
    have HW : Hid (Below w.heap.size w w1) := Lib.hid (by subst hw; exact Below.refl _ _)
    clear hw
    go_wp2_with fail
    go_ret
    exact ⟨rfl, HW.out⟩
  | false =>
    have hC := HQ.out
    rw [if_neg (by decide)] at hC
    have HC := Lib.hid hC
    clear hC HQ
    go_enter Tryz.func18, Tryz.ntmps18
    go_wp2_with fail
    refine HZ0.out.mono ?_
    rintro e w1 ⟨rfl, hw⟩
    have HW : Hid (Below w.heap.size w w1) := Lib.hid (by subst hw; exact Below.refl _ _)
    have HE : Hid (s.extract (64 * 0) s.size = s) := Lib.hid (by simp [ByteArray.extract_zero_size])
    clear hw HZ0
    go_wp2_with fail
    go_loopw [0, 3] (fun x n wx => ∃ k : Nat, 64 * k ≤ s.size + 63 ∧ x = .string (s.extract (64 * k) s.size) ∧ n = .int .i64 ((1 + partsN s.data.toList k : Nat) : Int) ∧ Below w.heap.size w wx) (fun x _ _ => strSize x)
    case atStart => exact ⟨0, by omega, by rw [HE.out], rfl, HW.out⟩
    case round =>
      obtain ⟨k, hk, rfl, rfl, hb⟩ := hrel
      have HB := Lib.hid hb
      clear hb HW HE
      have hpl := partsN_le s.data.toList k
      have hsz : (s.extract (64 * k) s.size).size = s.size - 64 * k := by rw [ByteArray.size_extract]; omega
      have hs := HS.out
      by_cases hlt : 64 * k < s.size
      · have he0 : (0 : Int) < ((s.extract (64 * k) s.size).size : Int) := by rw [hsz]; omega
        have HPt := Lib.hid (HZ.out ((s.extract (64 * k) s.size).extract 0 (min 64 (s.size - 64 * k))))
        have HPz : Hid (((s.extract (64 * k) s.size).extract 0 (min 64 (s.size - 64 * k))).size ≤ 1000) := Lib.hid (by rw [ByteArray.size_extract]; omega)
        rw [part_list s k] at HPt
        have HN : Hid (partsN s.data.toList (k + 1) = partsN s.data.toList k + (if allZero ((s.data.toList.drop (64 * k)).take 64) then 0 else 1)) := Lib.hid rfl
        obtain ⟨z, hz⟩ : ∃ z, allZero ((s.data.toList.drop (64 * k)).take 64) = z := ⟨_, rfl⟩
        rw [hz] at HPt HN
        obtain ⟨m, hm⟩ : ∃ m, min 64 (s.size - 64 * k) = m := ⟨_, rfl⟩
        rw [hm] at HPt HPz
        have hmi : min ((s.extract (64 * k) s.size).size : Int) 64 = (m : Int) := by rw [hsz]; omega
        have hmz : (m : Int) ≤ ((s.extract (64 * k) s.size).size : Int) := by rw [hsz]; omega
        have HX : Hid ((s.extract (64 * k) s.size).extract m (s.extract (64 * k) s.size).size = s.extract (64 * (k + 1)) s.size) := Lib.hid (by
          rw [ext_ext']
          apply ByteArray.ext
          rw [ByteArray.data_extract, ByteArray.data_extract]
          by_cases h6 : 64 * (k + 1) ≤ s.size
          · congr 1; omega
          · rw [Array.extract_empty_of_size_le_start (by show s.size ≤ _; omega), Array.extract_empty_of_size_le_start (by show s.size ≤ _; omega)])
        have HX2 : Hid ((s.extract (64 * (k + 1)) s.size).size < (s.extract (64 * k) s.size).size) := Lib.hid (by rw [ByteArray.size_extract, hsz]; omega)
        have HKl : Hid (64 * (k + 1) ≤ s.size + 63) := Lib.hid (by omega)
        have hk20 : k ≤ 100 := by omega
        clear hsz hz hm hk hlt hs
        generalize s.extract (64 * k) s.size = R at *
        obtain ⟨R2, hR2⟩ : ∃ R2, s.extract (64 * (k + 1)) s.size = R2 := ⟨_, rfl⟩
        rw [hR2] at HX HX2
        have HR2 := Lib.hid hR2
        clear hR2
        obtain ⟨pk, hpk⟩ : ∃ pk, partsN s.data.toList k = pk := ⟨_, rfl⟩
        rw [hpk] at HN hpl ⊢
        clear hpk
        go_wp2_with fail
        refine (HPt.out _ HPz.out).mono ?_
        rintro e w5 ⟨rfl, hw⟩
        have HB5 : Hid (Below w.heap.size w w5) := Lib.hid (by subst hw; exact HB.out)
        clear hw HPt
        cases z with
        | true =>
          have hN := HN.out
          rw [if_pos rfl] at hN
          have HN1 := Lib.hid hN
          clear hN HN
          go_wp2_with fail
          go_roundw
          case rel => exact ⟨k + 1, HKl.out, by rw [HR2.out, HX.out], by rw [HN1.out]; go_num, HB5.out⟩
          case measure => show (R.extract m R.size).size < R.size; rw [HX.out]; exact HX2.out
        | false =>
          have hN := HN.out
          rw [if_neg (by decide)] at hN
          have HN1 := Lib.hid hN
          clear hN HN
          go_wp2_with fail
          go_roundw
          case rel => exact ⟨k + 1, HKl.out, by rw [HR2.out, HX.out], by rw [HN1.out]; go_num, HB5.out⟩
          case measure => show (R.extract m R.size).size < R.size; rw [HX.out]; exact HX2.out
      · have he1 : ¬ (0 : Int) < ((s.extract (64 * k) s.size).size : Int) := by rw [hsz]; omega
        have e : k = (s.size + 63) / 64 := by omega
        have hC := HC.out
        rw [← e] at hC
        have HCC := Lib.hid hC
        clear e hlt hk hsz hC
        generalize s.extract (64 * k) s.size = R at *
        go_wp2_with fail
        go_ret
        exact ⟨by rw [HCC.out]; rfl, HB.out⟩
end Go.Proofs.YtbohpffigmllkaaGreatDoor
