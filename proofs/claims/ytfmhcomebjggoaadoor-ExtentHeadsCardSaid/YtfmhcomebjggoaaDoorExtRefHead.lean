/-
  The document's Head of an extent: its bytes.
-/
import Derived.Test.YtfmhcomebjggoaaDoorExtParse
import Derived.Test.YtfmhcomebjggoaaDoorCrcRef
import Derived.Test.YtfmhcomebjggoaaDoorPackRefNum
import Derived.Test.YtfmhcomebjggoaaDoorStreamFits
namespace Go.Proofs.YtfmhcomebjggoaaDoor
open Go.RowKit

theorem bl_size (r : List UInt8) : (⟨r.toArray⟩ : ByteArray).size = r.length := by simp [ByteArray.size]
theorem bl_app (r l : List UInt8) : (⟨r.toArray⟩ : ByteArray) ++ ⟨l.toArray⟩ = ⟨(r ++ l).toArray⟩ := by
  apply ByteArray.ext
  apply Array.toList_inj.mp
  simp [ByteArray.data_append]
theorem bl_of (x : ByteArray) : (⟨x.data.toList.toArray⟩ : ByteArray) = x := by
  apply ByteArray.ext
  simp
theorem txt_byB (x : ByteArray) (h : x.size = 32) : txt (byB x) = x.data.toList := by
  have hl : x.data.toList.length = 32 := by rw [← h]; simp
  refine List.ext_getElem? fun j => ?_
  unfold txt byB
  by_cases hj : j < 32
  · rw [List.getElem?_map, List.getElem?_range hj]
    show some (UInt8.ofNat (x.data.toList.getD j 0).toNat) = _
    rw [List.getD_eq_getElem?_getD, List.getElem?_eq_getElem (by omega)]
    simp
  · rw [List.getElem?_eq_none (by simp; omega), List.getElem?_eq_none (by omega)]
/-- a sector of an extent -/
def partB (D : ByteArray) (k : Nat) : ByteArray := D.extract (64 * k) (64 * k + 64)
theorem partB_size (D : ByteArray) (h : D.size = 256) (k : Nat) (hk : k < 4) : (partB D k).size = 64 := by
  unfold partB
  rw [ByteArray.size_extract]
  omega
/-- its sum, 0 if it is all noughts -/
def smOf (D : ByteArray) (k : Nat) : Nat := if allZero (partB D k).data.toList then 0 else C.Crc.sum (partB D k).data.toList
theorem smOf_lt (D : ByteArray) (k : Nat) : smOf D k < 4294967296 := by
  unfold smOf
  split
  · decide
  · exact crc_lt _
theorem add_bl (wx : World) (r l : List UInt8) (h : r.length + l.length ≤ maxLen) : (Op.stringOp .add ⟨r.toArray⟩ ⟨l.toArray⟩).run Tryd.prog wx = .ok (.string ⟨(r ++ l).toArray⟩) wx := by
  rw [← bl_app]
  exact run_string_add_sum wx _ _ (by rw [bl_size, bl_size]; exact h)
/-- how long a string is -/
def strLen : Value → Nat
  | .string s => s.size
  | _ => 0
set_option maxRecDepth 100000 in
set_option maxHeartbeats 4000000 in
theorem refHead_any (a : Nat → Nat) (ha : ∀ j, a j < 65536) (D S : ByteArray) (hD : D.size = 256) (hS : S.size = 32)
    (hO : ∀ wx : World, Calls Tryd.prog 7 #[.string D] wx fun e w' => e = .returned (.string S) ∧ Below wx.heap.size wx w') (g cap : Nat) (w : World) (hr : w.rangeAt g 0 (atL a)) (hg : g < w.heap.size) :
    Calls Tryd.prog 6 #[.slice (some ⟨g, 0, none⟩) 4 cap, .string D] w fun e w' => e = .returned (.string (sealS (headT a (smOf D) (byB S)))) ∧ Below w.heap.size w w' := by
  have HOf := Lib.hid hO
  have HR := Lib.hid hr
  have HG := Lib.hid hg
  have HA := Lib.hid ha
  have HDs := Lib.hid hD
  have HSn : Hid (S.data.toList.length = 32) := Lib.hid (by rw [← hS]; simp)
  have HN : Hid (∀ (a : Nat) (m : Int) wx, a < 18446744073709551616 → Calls Tryd.prog 21 #[.int .u64 a, .int .i64 m] wx fun e w' => e = .returned (.string ⟨(enc a (wid m)).toArray⟩) ∧ Below wx.heap.size wx w') := Lib.hid fun a m wx ha => refNum_any a m wx ha
  have HX : Hid (sealS (headT a (smOf D) (byB S)) = ⟨(padTo (headT a (smOf D) (byB S)) ++ enc (C.Crc.sum (padTo (headT a (smOf D) (byB S)))) 4).toArray⟩) := Lib.hid rfl
  have HY : Hid (headT a (smOf D) (byB S) = [69] ++ atsT a 4 ++ smsT (smOf D) 4 ++ S.data.toList) := Lib.hid (by unfold headT; rw [txt_byB S hS])
  have HP : Hid (padTo (headT a (smOf D) (byB S)) = [69] ++ atsT a 4 ++ smsT (smOf D) 4 ++ S.data.toList ++ List.replicate 3 0) := Lib.hid (by unfold padTo; rw [headT_len, HY.out])
  have HPl : Hid ((padTo (headT a (smOf D) (byB S))).length = 60) := Lib.hid (padTo_len _ (headT_60 _ _ _))
  generalize sealS (headT a (smOf D) (byB S)) = RES at *
  generalize padTo (headT a (smOf D) (byB S)) = PT at *
  clear hO hr hg ha hD hS HY
  go_enter Tryd.func6, Tryd.ntmps6
  go_wp2_with fail
  go_loopw [5, 12] (fun s i wx => ∃ k : Nat, k ≤ 4 ∧ i = .int .i64 (k : Int) ∧ s = .string ⟨([69] ++ atsT a k).toArray⟩ ∧ Below w.heap.size w wx) (fun _ i _ => 4 - (intOf i).toNat)
  case atStart => exact ⟨0, by omega, rfl, rfl, Below.refl _ _⟩
  case round =>
    obtain ⟨k, hk, rfl, rfl, hb⟩ := hrel
    have HB := Lib.hid hb
    clear hb
    have hl : ([69] ++ atsT a k).length = 1 + 2 * k := by simp [atsT_len]; omega
    by_cases hlt : k < 4
    · have i0 : (k : Int) < 4 := by omega
      have i1 : (0 : Int) ≤ (k : Int) := by omega
      have hc : wr.cell? ⟨g, k, none⟩ = some (.int .i64 (a k : Nat)) := by
        have h := range_below HR.out HG.out HB.out k _ (atL_at a k hlt)
        rwa [Nat.zero_add] at h
      have u2 := u32_as_u64 (a k) (by have := HA.out k; omega)
      have HNum := Lib.hid fun wx => HN.out (a k) 2 wx (by have := HA.out k; omega)
      rw [wid2] at HNum
      have c1 := fun wx => add_bl wx ([69] ++ atsT a k) (enc (a k) 2) (by rw [hl, enc_len]; unfold maxLen; omega)
      have e : [69] ++ atsT a k ++ enc (a k) 2 = [69] ++ atsT a (k + 1) := by rw [List.append_assoc]; rfl
      rw [e] at c1
      have HK := Lib.hid hlt
      have HT : Hid ((⟨([69] ++ atsT a (k + 1)).toArray⟩ : ByteArray) = ⟨([69] ++ atsT a (k + 1)).toArray⟩) := Lib.hid rfl
      clear hlt hk hl e
      generalize (⟨([69] ++ atsT a k).toArray⟩ : ByteArray) = O at *
      obtain ⟨O2, hO2⟩ : ∃ O2 : ByteArray, ⟨([69] ++ atsT a (k + 1)).toArray⟩ = O2 := ⟨_, rfl⟩
      rw [hO2] at c1
      have HO2 := Lib.hid hO2
      clear hO2 HT
      generalize (⟨(enc (a k) 2).toArray⟩ : ByteArray) = E at *
      generalize a k = q at *
      go_wp2_with fail
      refine (HNum.out _).mono ?_
      rintro e w5 ⟨rfl, hb5⟩
      have HB5 := Lib.hid (HB.out.trans (hb5.mono HB.out.size))
      clear hb5 hc
      go_wp2_with fail
      go_roundw
      case rel => exact ⟨k + 1, by have := HK.out; omega, by go_num, by rw [HO2.out], HB5.out⟩
      case measure => simp [intOf]; have := HK.out; omega
    · have i0 : ¬ (k : Int) < 4 := by omega
      obtain rfl : k = 4 := by omega
      have HE : Hid (([69] ++ atsT a 4 : List UInt8) = [69] ++ atsT a 4 ++ smsT (smOf D) 0) := Lib.hid (by unfold smsT; rw [List.append_nil])
      obtain ⟨O0, hO0⟩ : ∃ O0 : ByteArray, ⟨([69] ++ atsT a 4).toArray⟩ = O0 := ⟨_, rfl⟩
      have HO0 := Lib.hid hO0
      rw [hO0]
      clear hO0 hl hlt hk
      go_wp2_with fail
      go_loopw [5, 8] (fun s i wx => ∃ k : Nat, k ≤ 4 ∧ i = .int .i64 (k : Int) ∧ s = .string ⟨([69] ++ atsT a 4 ++ smsT (smOf D) k).toArray⟩ ∧ Below w.heap.size w wx) (fun _ i _ => 4 - (intOf i).toNat)
      case atStart => exact ⟨0, by omega, rfl, by rw [← HO0.out, ← HE.out], HB.out⟩
      case round =>
        obtain ⟨k, hk, rfl, rfl, hb⟩ := hrel
        have HB := Lib.hid hb
        clear hb HE HO0
        have hl : ([69] ++ atsT a 4 ++ smsT (smOf D) k).length = 9 + 4 * k := by simp [atsT_len, smsT_len]; omega
        have hd := HDs.out
        by_cases hlt : k < 4
        · have i0 : (k : Int) < 4 := by omega
          obtain ⟨J, hJ⟩ : ∃ J, 64 * k = J := ⟨_, rfl⟩
          have j0 : 64 * (k : Int) = (J : Int) := by omega
          have j1 : (J : Int) + 64 ≤ (D.size : Int) := by omega
          have j2 : ((J : Int) + 64).toNat = J + 64 := by omega
          have j3 : (J : Int) ≤ (J : Int) + 64 := by omega
          have j4 : (0 : Int) ≤ (J : Int) := by omega
          have j5 : (J : Int) ≤ 1000 := by omega
          have hp : D.extract J (J + 64) = partB D k := by unfold partB; rw [hJ]
          have HP64 := Lib.hid (partB_size D HDs.out k hlt)
          have HZ := Lib.hid fun wx => refZero_any (partB D k) wx (by rw [HP64.out]; decide)
          have HC := Lib.hid fun wx => C.ref_any (partB D k) wx (by rw [HP64.out]; decide)
          have HQ : Hid (smOf D k = if allZero (partB D k).data.toList then 0 else C.Crc.sum (partB D k).data.toList) := Lib.hid rfl
          have HS1 : Hid ([69] ++ atsT a 4 ++ smsT (smOf D) k ++ enc (smOf D k) 4 = [69] ++ atsT a 4 ++ smsT (smOf D) (k + 1)) := Lib.hid (by rw [List.append_assoc]; rfl)
          have c1 := fun wx => add_bl wx ([69] ++ atsT a 4 ++ smsT (smOf D) k) (enc (smOf D k) 4) (by rw [hl, enc_len]; unfold maxLen; omega)
          rw [HS1.out] at c1
          have HK := Lib.hid hlt
          obtain ⟨O2, hO2⟩ : ∃ O2 : ByteArray, ⟨([69] ++ atsT a 4 ++ smsT (smOf D) (k + 1)).toArray⟩ = O2 := ⟨_, rfl⟩
          rw [hO2] at c1
          have HO2 := Lib.hid hO2
          have HN0 : Hid ((⟨(enc 0 4).toArray⟩ : ByteArray) = ⟨#[0, 0, 0, 0]⟩) := Lib.hid (by decide)
          have hlt' := crc_lt (partB D k).data.toList
          generalize (⟨([69] ++ atsT a 4 ++ smsT (smOf D) k).toArray⟩ : ByteArray) = O at *
          obtain ⟨z, hz⟩ : ∃ z, allZero (partB D k).data.toList = z := ⟨_, rfl⟩
          rw [hz] at HZ HQ
          generalize C.Crc.sum (partB D k).data.toList = K at *
          have u3 := u32_as_u64 K hlt'
          generalize partB D k = P at *
          clear hO2 hJ hz HS1 hl hlt hk
          cases z with
          | true =>
            have e0 := HQ.out
            rw [if_pos rfl] at e0
            rw [e0, HN0.out] at c1
            clear e0
            go_wp2_with fail
            refine (HZ.out _).mono ?_
            rintro e w5 ⟨rfl, rfl⟩
            go_wp2_with fail
            go_roundw
            case rel => exact ⟨k + 1, by have := HK.out; omega, by go_num, by rw [HO2.out], HB.out⟩
            case measure => simp [intOf]; have := HK.out; omega
          | false =>
            have e0 := HQ.out
            rw [if_neg (by decide)] at e0
            rw [e0] at c1
            have HNum := Lib.hid fun wx => HN.out K 4 wx (by omega)
            rw [wid4] at HNum
            generalize (⟨(enc K 4).toArray⟩ : ByteArray) = E at *
            clear e0
            go_wp2_with fail
            refine (HZ.out _).mono ?_
            rintro e w5 ⟨rfl, rfl⟩
            go_wp2_with fail
            refine (HC.out _).mono ?_
            rintro e w6 ⟨rfl, rfl⟩
            go_wp2_with fail
            refine (HNum.out _).mono ?_
            rintro e w7 ⟨rfl, hb7⟩
            have HB7 := Lib.hid (HB.out.trans (hb7.mono HB.out.size))
            clear hb7
            go_wp2_with fail
            go_roundw
            case rel => exact ⟨k + 1, by have := HK.out; omega, by go_num, by rw [HO2.out], HB7.out⟩
            case measure => simp [intOf]; have := HK.out; omega
        · have i0 : ¬ (k : Int) < 4 := by omega
          obtain rfl : k = 4 := by omega
          have c1 := fun wx => add_bl wx ([69] ++ atsT a 4 ++ smsT (smOf D) 4) S.data.toList (by rw [hl, HSn.out]; decide)
          rw [bl_of S] at c1
          have HL57 : Hid (([69] ++ atsT a 4 ++ smsT (smOf D) 4 ++ S.data.toList).length = 57) := Lib.hid (by rw [List.length_append, hl, HSn.out])
          generalize [69] ++ atsT a 4 ++ smsT (smOf D) 4 ++ S.data.toList = H57 at *
          generalize (⟨([69] ++ atsT a 4 ++ smsT (smOf D) 4).toArray⟩ : ByteArray) = O at *
          have HE : Hid (H57 = H57 ++ List.replicate 0 0) := Lib.hid (by simp)
          obtain ⟨O7, hO7⟩ : ∃ O7 : ByteArray, ⟨H57.toArray⟩ = O7 := ⟨_, rfl⟩
          have HO7 := Lib.hid hO7
          rw [hO7] at c1
          clear hO7 hl hlt hk hd
          go_wp2_with fail
          refine (HOf.out _).mono ?_
          rintro e w5 ⟨rfl, hb5⟩
          have HB5 := Lib.hid (HB.out.trans (hb5.mono HB.out.size))
          clear hb5 HB
          go_wp2_with fail
          go_loop [5] (fun s => ∃ j : Nat, j ≤ 3 ∧ s = .string ⟨(H57 ++ List.replicate j 0).toArray⟩) (fun s => 60 - strLen s)
          case atStart => exact ⟨0, by omega, by rw [← HO7.out, ← HE.out]⟩
          case round =>
            obtain ⟨j, hj, rfl⟩ := hrel
            have hl : (H57 ++ List.replicate j 0).length = 57 + j := by rw [List.length_append, HL57.out, List.length_replicate]
            have hz : (⟨(H57 ++ List.replicate j 0).toArray⟩ : ByteArray).size = 57 + j := by rw [bl_size, hl]
            by_cases hlt : j < 3
            · have c2 := fun wx => add_bl wx (H57 ++ List.replicate j 0) [0] (by rw [hl]; show 57 + j + 1 ≤ maxLen; unfold maxLen; omega)
              have e : H57 ++ List.replicate j 0 ++ [0] = H57 ++ List.replicate (j + 1) 0 := by rw [List.append_assoc, List.replicate_succ']
              rw [e] at c2
              have hz2 : (⟨(H57 ++ List.replicate (j + 1) 0).toArray⟩ : ByteArray).size = 57 + (j + 1) := by rw [bl_size, List.length_append, HL57.out, List.length_replicate]
              obtain ⟨O2, hO2⟩ : ∃ O2 : ByteArray, ⟨(H57 ++ List.replicate (j + 1) 0).toArray⟩ = O2 := ⟨_, rfl⟩
              rw [hO2] at c2 hz2
              have HO2 := Lib.hid hO2
              have c3 : ∀ wx : World, (Op.stringOp .add ⟨(H57 ++ List.replicate j 0).toArray⟩ ⟨#[0]⟩).run Tryd.prog wx = .ok (.string O2) wx := c2
              have i1 : (57 : Int) + (j : Int) < 60 := by omega
              clear hO2 e c2 hl
              generalize (⟨(H57 ++ List.replicate j 0).toArray⟩ : ByteArray) = O3 at *
              have hzi : (O3.size : Int) < 60 := by omega
              have HZ2 := Lib.hid hz2
              have HZ1 := Lib.hid hz
              clear hz2 hz
              go_wp2_with fail
              go_round
              case rel => exact ⟨j + 1, by omega, by rw [HO2.out]⟩
              case measure => show 60 - O2.size < 60 - O3.size; have := HZ2.out; have := HZ1.out; omega
            · obtain rfl : j = 3 := by omega
              rw [← HP.out] at hz hl ⊢
              have hlt' := crc_lt PT
              have HSum := Lib.hid (C.ref_any ⟨PT.toArray⟩ w5 (by rw [bl_size, hl]; decide))
              have e : (⟨PT.toArray⟩ : ByteArray).data.toList = PT := by simp
              rw [e] at HSum
              have c4 := fun wx => add_bl wx PT (enc (C.Crc.sum PT) 4) (by rw [hl, enc_len]; decide)
              rw [← HX.out] at c4
              generalize C.Crc.sum PT = K at *
              have u3 := u32_as_u64 K hlt'
              have HNum := Lib.hid fun wx => HN.out K 4 wx (by omega)
              rw [wid4] at HNum
              generalize (⟨(enc K 4).toArray⟩ : ByteArray) = E at *
              generalize (⟨PT.toArray⟩ : ByteArray) = O3 at *
              have hzi : ¬ (O3.size : Int) < 60 := by omega
              clear e hl hz hlt hj
              go_wp2_with fail
              refine HSum.out.mono ?_
              rintro e w6 ⟨rfl, rfl⟩
              go_wp2_with fail
              refine (HNum.out _).mono ?_
              rintro e w7 ⟨rfl, hb7⟩
              have HB7 := Lib.hid (HB5.out.trans (hb7.mono HB5.out.size))
              clear hb7
              go_wp2_with fail
              go_ret
              exact ⟨rfl, HB7.out⟩
end Go.Proofs.YtfmhcomebjggoaaDoor
