/-
  StampOf: for every text the law answers true.
-/
import Derived.Test.YtdojmlfpckgdoaaStampRef
import Derived.Test.YtdojmlfpckgdoaaCut
namespace Go.Proofs.Ytdojmlfpckgdoaa
open Go.RowKit
theorem enc_num (l : List UInt8) (n : Nat) (h : l.length = n) : enc (num l) n = l := by
  have hl := num_lt l
  rw [h] at hl
  have e := num_eq (enc (num l) n) l (by rw [enc_len, h])
  rw [num_enc, Nat.mod_eq_of_lt hl] at e
  simpa using e
theorem of_back (t : ByteArray) (h : 8 ≤ t.size) : (⟨(enc (num (t.data.toList.take 4)) 4).toArray⟩ : ByteArray) ++ ⟨(enc (num ((t.data.toList.drop 4).take 4)) 4).toArray⟩ = t.extract 0 8 := by
  have hl : t.data.toList.length = t.size := by simp
  rw [enc_num _ 4 (by rw [List.length_take]; omega), enc_num _ 4 (by rw [List.length_take, List.length_drop]; omega)]
  apply ByteArray.ext
  apply Array.toList_inj.mp
  rw [ByteArray.data_append, Array.toList_append, ByteArray.data_extract, Array.toList_extract, List.extract_eq_take_drop]
  show t.data.toList.take 4 ++ (t.data.toList.drop 4).take 4 = (t.data.toList.drop 0).take (8 - 0)
  rw [List.drop_zero, ← List.take_add]
set_option maxHeartbeats 2000000 in
theorem stampOf_any (s : ByteArray) (hs : s.size ≤ maxLen) (w : World) :
    Calls Try.prog 10 #[.string s] w fun e w' => e = .returned (.bool true) ∧ Below w.heap.size w w' := by
  obtain ⟨t, ht, hcut⟩ := cut_law s 70 hs (by omega)
  have HC := Lib.hid hcut
  clear hcut hs
  by_cases hz : t.size < 8
  · go_enter Try.func10, Try.ntmps10
    go_wp2_with fail
    refine (HC.out _).mono ?_
    rintro e w' ⟨rfl, rfl⟩
    go_wp2_with fail
    refine (stampAwake _).mono ?_
    rintro e w1 ⟨rfl, hb⟩
    have HB := Lib.hid hb
    clear hb
    go_wp2_with fail
    refine (of_short t _ hz).mono ?_
    rintro e w2 ⟨rfl, hb2⟩
    have HB2 := Lib.hid (HB.out.trans (hb2.mono HB.out.size))
    clear hb2
    have hi : (t.size : Int) < 8 := by omega
    go_wp2_with fail
    go_ret
    exact ⟨rfl, HB2.out.alloc HB2.out.size _⟩
  · have HO := Lib.hid fun wx => of_any t wx (by omega)
    have HE := Lib.hid (of_back t (by omega))
    have hA := num_u32 t.data.toList
    have hB := num_u32 (t.data.toList.drop 4)
    generalize num (t.data.toList.take 4) = A at *
    generalize num ((t.data.toList.drop 4).take 4) = B at *
    go_enter Try.func10, Try.ntmps10
    go_wp2_with fail
    refine (HC.out _).mono ?_
    rintro e w' ⟨rfl, rfl⟩
    go_wp2_with fail
    refine (stampAwake _).mono ?_
    rintro e w1 ⟨rfl, hb⟩
    have HB := Lib.hid hb
    clear hb
    go_wp2_with fail
    refine (HO.out _).mono ?_
    rintro e w2 ⟨rfl, hb2⟩
    have HB2 := Lib.hid (HB.out.trans (hb2.mono HB.out.size))
    clear hb2
    have hi : ¬ (t.size : Int) < 8 := by omega
    go_wp2_with fail
    obtain ⟨p0, p1⟩ := pair_cells w2 (.int .u32 A) (.int .u32 B) 56
    have HBW : Hid (Below w.heap.size w (w2.alloc (.cells #[.int .u32 A, .int .u32 B] 56)).drew) := Lib.hid (HB2.out.alloc HB2.out.size _).drew
    have hlt : w2.heap.size < (w2.alloc (.cells #[.int .u32 A, .int .u32 B] 56)).drew.heap.size := by show w2.heap.size < (w2.alloc _).heap.size; simp
    have HX := Lib.hid HB2.out.size
    generalize w2.alloc (.cells #[.int .u32 A, .int .u32 B] 56) = W at *
    generalize w2.heap.size = x at *
    have HN1 : Hid (∀ wx : World, Calls Try.prog 34 #[.int .u64 A, .int .i64 4] wx fun e w' => e = .returned (.string ⟨(enc A 4).toArray⟩) ∧ Below wx.heap.size wx w') := Lib.hid fun wx => refNum_any A 4 wx (by omega)
    have HN2 : Hid (∀ wx : World, Calls Try.prog 34 #[.int .u64 B, .int .i64 4] wx fun e w' => e = .returned (.string ⟨(enc B 4).toArray⟩) ∧ Below wx.heap.size wx w') := Lib.hid fun wx => refNum_any B 4 wx (by omega)
    have z1 : (⟨(enc A 4).toArray⟩ : ByteArray).size = 4 := by show (enc A 4).length = 4; rw [enc_len]
    have z2 : (⟨(enc B 4).toArray⟩ : ByteArray).size = 4 := by show (enc B 4).length = 4; rw [enc_len]
    have u1 := u32_as_u64 A hA
    have u2 := u32_as_u64 B hB
    generalize (⟨(enc A 4).toArray⟩ : ByteArray) = EA at *
    generalize (⟨(enc B 4).toArray⟩ : ByteArray) = EB at *
    have hc : ∀ wx : World, (Op.stringOp .add EA EB).run Try.prog wx = .ok (.string (EA ++ EB)) wx := fun wx => run_string_add_sum wx EA EB (by omega)
    have hq : ((EA ++ EB).toList == (t.extract 0 8).toList) = true := by rw [HE.out]; simp
    clear HB HB2
    go_cut [2] (fun r wx => r = .bool true ∧ Below w.heap.size w wx)
    case first =>
      go_region_held3 (fun wx => wx.cell? ⟨x, 0, none⟩ = some (.int .u32 A) ∧ wx.cell? ⟨x, 1, none⟩ = some (.int .u32 B))
        (first | exact ⟨p0, p1⟩ | exact HK1.out | exact HK2.out)
        (first
          | (go_at_call 34; (with_reducible refine (HN1.out W.drew).mono ?_); rintro e w3 ⟨rfl, hb3⟩; (have HB3 := Lib.hid (HBW.out.trans (hb3.mono HBW.out.size))); (have HK1 : Hid (w3.cell? ⟨x, 0, none⟩ = some (.int .u32 A) ∧ w3.cell? ⟨x, 1, none⟩ = some (.int .u32 B)) := Lib.hid ⟨by rw [hb3.cell hlt]; exact p0, by rw [hb3.cell hlt]; exact p1⟩); (have HL3 := Lib.hid (Nat.lt_of_lt_of_le hlt hb3.size)); clear hb3)
          | (go_at_call 34; (with_reducible refine (HN2.out w3).mono ?_); rintro e w4 ⟨rfl, hb4⟩; (have HB4 := Lib.hid (HB3.out.trans (hb4.mono HB3.out.size))); (have HK2 : Hid (w4.cell? ⟨x, 0, none⟩ = some (.int .u32 A) ∧ w4.cell? ⟨x, 1, none⟩ = some (.int .u32 B)) := Lib.hid ⟨by rw [hb4.cell HL3.out]; exact HK1.out.1, by rw [hb4.cell HL3.out]; exact HK1.out.2⟩); clear hb4))
      all_goals
        go_wp2_with fail
        go_meet
        exact ⟨rfl, HB4.out⟩
    case rest =>
      obtain ⟨rfl, hB'⟩ := hcut
      have HBB := Lib.hid hB'
      clear hB'
      go_wp2_with fail
      go_ret
      exact ⟨rfl, HBB.out⟩
end Go.Proofs.Ytdojmlfpckgdoaa
