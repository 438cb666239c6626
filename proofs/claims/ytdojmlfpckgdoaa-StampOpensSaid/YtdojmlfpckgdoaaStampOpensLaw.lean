/-
  StampOpens: for every stamp, sector and way of its ends the law answers true.
-/
import Derived.Test.YtdojmlfpckgdoaaStampMath
import Derived.Test.YtdojmlfpckgdoaaCut
import Derived.Deep.DeepCutAuto
namespace Go.Proofs.Ytdojmlfpckgdoaa
open Go.RowKit
/-- what is opened, by the program and by the document: the same -/
theorem open_both (a b : Nat) (ha : a < 4294967296) (hb : b < 4294967296) : ∃ (G : ByteArray → ByteArray) (K : ByteArray → Bool),
    (∀ (u : ByteArray) (wx : World), Calls Try.prog 31 #[.agg #[.int .u32 a, .int .u32 b], .string u] wx fun e w' => e = .returned (.tuple #[.string (G u), .bool (K u)]) ∧ Below wx.heap.size wx w') ∧
    (∀ (u : ByteArray) (wx : World), Calls Try.prog 35 #[.int .u32 a, .int .u32 b, .string u] wx fun e w' => e = .returned (.tuple #[.string (G u), .bool (K u)]) ∧ Below wx.heap.size wx w') := by
  classical
  refine ⟨fun u => if isFrame a b u then textIn u else ⟨#[]⟩, fun u => if isFrame a b u then true else false, fun u wx => ?_, fun u wx => ?_⟩
  · refine (open_any a b u wx ha hb).mono ?_
    rintro e w' ⟨h1, h2, h3⟩
    refine ⟨?_, h3⟩
    by_cases h : isFrame a b u
    · simp [h1 h, h]
    · simp [h2 h, h]
  · refine (refOpen_any a b u wx ha hb).mono ?_
    rintro e w' ⟨h1, h2, h3⟩
    refine ⟨?_, h3⟩
    by_cases h : isFrame a b u
    · simp [h1 h, h]
    · simp [h2 h, h]
set_option maxHeartbeats 2000000 in
theorem stampOpens_walk (a b : Nat) (s : ByteArray) (n : Int) (ha : a < 4294967296) (hb : b < 4294967296) (w : World) (t : ByteArray) (ht : t.size ≤ 70) (hcut : ∀ w : World, Calls Try.prog 24 #[.string s, .int .i64 70] w fun e w' => e = .returned (.string t) ∧ w = w') :
    Calls Try.prog 8 #[.int .u32 a, .int .u32 b, .string s, .int .i64 n] w fun e w' => e = .returned (.bool true) ∧ Below w.heap.size w w' := by
  have HC := Lib.hid hcut
  clear hcut
  have HN1 : Hid (∀ wx : World, Calls Try.prog 34 #[.int .u64 a, .int .i64 4] wx fun e w' => e = .returned (.string ⟨(enc a 4).toArray⟩) ∧ Below wx.heap.size wx w') := Lib.hid fun wx => refNum_any a 4 wx (by omega)
  have HN2 : Hid (∀ wx : World, Calls Try.prog 34 #[.int .u64 b, .int .i64 4] wx fun e w' => e = .returned (.string ⟨(enc b 4).toArray⟩) ∧ Below wx.heap.size wx w') := Lib.hid fun wx => refNum_any b 4 wx (by omega)
  have z1 : (⟨(enc a 4).toArray⟩ : ByteArray).size = 4 := by show (enc a 4).length = 4; rw [enc_len]
  have z2 : (⟨(enc b 4).toArray⟩ : ByteArray).size = 4 := by show (enc b 4).length = 4; rw [enc_len]
  have u1 := u32_as_u64 a ha
  have u2 := u32_as_u64 b hb
  generalize (⟨(enc a 4).toArray⟩ : ByteArray) = EA at *
  generalize (⟨(enc b 4).toArray⟩ : ByteArray) = EB at *
  have hc : ∀ wx : World, (Op.stringOp .add EA EB).run Try.prog wx = .ok (.string (EA ++ EB)) wx := fun wx => run_string_add_sum wx EA EB (by omega)
  have z3 : (EA ++ EB).size = 8 := by rw [ByteArray.size_append]; omega
  generalize EA ++ EB = OW at *
  obtain ⟨G, KK, hO, hR⟩ := open_both a b ha hb
  have HO := Lib.hid hO
  have HR := Lib.hid hR
  clear hO hR
  by_cases h64 : t.size = 64
  · have hi : (t.size : Int) = 64 := by omega
    have hc2 : ∀ wx : World, (Op.stringOp .add OW (t.extract 8 64)).run Try.prog wx = .ok (.string (OW ++ t.extract 8 64)) wx := fun wx => run_string_add_sum wx _ _ (by rw [ByteArray.size_extract]; omega)
    have z4 : (OW ++ t.extract 8 64).size = 64 := by rw [ByteArray.size_append, ByteArray.size_extract]; omega
    have hc3 : ∀ wx : World, (Op.stringOp .add (t.extract 0 56) OW).run Try.prog wx = .ok (.string (t.extract 0 56 ++ OW)) wx := fun wx => run_string_add_sum wx _ _ (by rw [ByteArray.size_extract]; omega)
    have hc4 : ∀ wx : World, (Op.stringOp .add ((OW ++ t.extract 8 64).extract 0 56) OW).run Try.prog wx = .ok (.string ((OW ++ t.extract 8 64).extract 0 56 ++ OW)) wx := fun wx => run_string_add_sum wx _ _ (by rw [ByteArray.size_extract]; omega)
    go_enter Try.func8, Try.ntmps8
    go_wp2_with fail
    refine (HC.out _).mono ?_
    rintro e w' ⟨rfl, rfl⟩
    go_wp2_with fail
    refine (stampAwake _).mono ?_
    rintro e w1 ⟨rfl, hb⟩
    have HB := Lib.hid hb
    clear hb
    go_wp2_with fail
    refine (HN1.out _).mono ?_
    rintro e w2 ⟨rfl, hb⟩
    have HB2 := Lib.hid (HB.out.trans (hb.mono HB.out.size))
    clear hb
    go_wp2_with fail
    refine (HN2.out _).mono ?_
    rintro e w3 ⟨rfl, hb⟩
    have HB3 := Lib.hid (HB2.out.trans (hb.mono HB2.out.size))
    clear hb
    clear HB HB2 HN1 HN2
    go_upto_region 7 with fail
    all_goals
      go_wp2_with fail
      all_goals
        refine (HO.out _ _).mono ?_
        rintro e w4 ⟨rfl, hb⟩
        have HB4 := Lib.hid (HB3.out.trans (hb.mono HB3.out.size))
        clear hb
        go_wp2_with fail
        refine (HR.out _ _).mono ?_
        rintro e w5 ⟨rfl, hb⟩
        have HB5 := Lib.hid (HB4.out.trans (hb.mono HB4.out.size))
        clear hb
        go_wp2_with fail
        go_ret
        exact ⟨rfl, HB5.out⟩
  · have hi : ¬ (t.size : Int) = 64 := by omega
    have hc2 : ∀ wx : World, (Op.stringOp .add OW (t.extract 8 t.size)).run Try.prog wx = .ok (.string (OW ++ t.extract 8 t.size)) wx := fun wx => run_string_add_sum wx _ _ (by rw [ByteArray.size_extract]; omega)
    have z4 : 8 ≤ t.size → (OW ++ t.extract 8 t.size).size = t.size := fun h => by rw [ByteArray.size_append, ByteArray.size_extract]; omega
    by_cases h8 : 8 ≤ t.size
    · have hi8 : (8 : Int) ≤ (t.size : Int) := by omega
      have z5 := z4 h8
      clear z4
      go_enter Try.func8, Try.ntmps8
      go_wp2_with fail
      refine (HC.out _).mono ?_
      rintro e w' ⟨rfl, rfl⟩
      go_wp2_with fail
      refine (stampAwake _).mono ?_
      rintro e w1 ⟨rfl, hb⟩
      have HB := Lib.hid hb
      clear hb
      go_wp2_with fail
      refine (HN1.out _).mono ?_
      rintro e w2 ⟨rfl, hb⟩
      have HB2 := Lib.hid (HB.out.trans (hb.mono HB.out.size))
      clear hb
      go_wp2_with fail
      refine (HN2.out _).mono ?_
      rintro e w3 ⟨rfl, hb⟩
      have HB3 := Lib.hid (HB2.out.trans (hb.mono HB2.out.size))
      clear hb
      clear HB HB2 HN1 HN2
      go_upto_region 7 with fail
      all_goals
        go_wp2_with fail
        all_goals
          refine (HO.out _ _).mono ?_
          rintro e w4 ⟨rfl, hb⟩
          have HB4 := Lib.hid (HB3.out.trans (hb.mono HB3.out.size))
          clear hb
          go_wp2_with fail
          refine (HR.out _ _).mono ?_
          rintro e w5 ⟨rfl, hb⟩
          have HB5 := Lib.hid (HB4.out.trans (hb.mono HB4.out.size))
          clear hb
          go_wp2_with fail
          go_ret
          exact ⟨rfl, HB5.out⟩
    · have hi8 : ¬ (8 : Int) ≤ (t.size : Int) := by omega
      clear z4
      go_enter Try.func8, Try.ntmps8
      go_wp2_with fail
      refine (HC.out _).mono ?_
      rintro e w' ⟨rfl, rfl⟩
      go_wp2_with fail
      refine (stampAwake _).mono ?_
      rintro e w1 ⟨rfl, hb⟩
      have HB := Lib.hid hb
      clear hb
      go_wp2_with fail
      refine (HN1.out _).mono ?_
      rintro e w2 ⟨rfl, hb⟩
      have HB2 := Lib.hid (HB.out.trans (hb.mono HB.out.size))
      clear hb
      go_wp2_with fail
      refine (HN2.out _).mono ?_
      rintro e w3 ⟨rfl, hb⟩
      have HB3 := Lib.hid (HB2.out.trans (hb.mono HB2.out.size))
      clear hb
      clear HB HB2 HN1 HN2
      go_upto_region 7 with fail
      all_goals
        go_wp2_with fail
        all_goals
          refine (HO.out _ _).mono ?_
          rintro e w4 ⟨rfl, hb⟩
          have HB4 := Lib.hid (HB3.out.trans (hb.mono HB3.out.size))
          clear hb
          go_wp2_with fail
          refine (HR.out _ _).mono ?_
          rintro e w5 ⟨rfl, hb⟩
          have HB5 := Lib.hid (HB4.out.trans (hb.mono HB4.out.size))
          clear hb
          go_wp2_with fail
          go_ret
          exact ⟨rfl, HB5.out⟩
end Go.Proofs.Ytdojmlfpckgdoaa
