/-
  RedoBytes: for every op the law answers true.
-/
import Derived.Test.YtdeohkkpmjgaoaaRedoRefP
import Derived.Test.YtdeohkkpmjgaoaaPackMath
import Derived.Test.YtdeohkkpmjgaoaaCut
import Derived.Laws.BitsAllLaws
namespace Go.Proofs.Ytdeohkkpmjgaoaa
open Go.RowKit

theorem maskN (k : Int) (n : Nat) (hn : n < 4294967296) : ∃ p : Nat, bits .and .i64 k (n : Int) = (p : Int) ∧ p ≤ n := by
  have h : (BitVec.ofInt 64 k &&& BitVec.ofInt 64 n).toNat ≤ n := by
    rw [BitVec.toNat_and]
    refine Nat.le_trans Nat.and_le_right ?_
    rw [BitVec.toNat_ofInt]
    omega
  refine ⟨(BitVec.ofInt 64 k &&& BitVec.ofInt 64 n).toNat, ?_, h⟩
  show IntKind.i64.wrap ((BitVec.ofInt 64 k &&& BitVec.ofInt 64 n).toNat : Int) = _
  generalize (BitVec.ofInt 64 k &&& BitVec.ofInt 64 n).toNat = y at *
  simp only [IntKind.wrap, IntKind.bits, IntKind.signed]
  simp
  omega
theorem roOf_text (o : RO) (h : o.fits) : roOf ⟨o.text.toArray⟩ = o := by
  obtain ⟨k, id, at', n, data⟩ := o
  have hk : k < 256 := h.k
  have hid : id < 4294967296 := h.id
  have hat : at' < 65536 := h.at'
  have hn : n < 65536 := h.n
  obtain ⟨T, hT⟩ : ∃ T, RO.text ⟨k, id, at', n, data⟩ = T := ⟨_, rfl⟩
  have hT' : enc k 1 ++ (enc id 4 ++ (enc at' 2 ++ (enc n 2 ++ data.data.toList))) = T := hT
  have d1 : T.drop 1 = enc id 4 ++ (enc at' 2 ++ (enc n 2 ++ data.data.toList)) := by rw [← hT']; exact List.drop_left' (enc_len _ _)
  have d5 : T.drop 5 = enc at' 2 ++ (enc n 2 ++ data.data.toList) := by rw [show (5 : Nat) = 1 + 4 from rfl, ← List.drop_drop, d1]; exact List.drop_left' (enc_len _ _)
  have d7 : T.drop 7 = enc n 2 ++ data.data.toList := by rw [show (7 : Nat) = 5 + 2 from rfl, ← List.drop_drop, d5]; exact List.drop_left' (enc_len _ _)
  have d9 : T.drop 9 = data.data.toList := by rw [show (9 : Nat) = 7 + 2 from rfl, ← List.drop_drop, d7]; exact List.drop_left' (enc_len _ _)
  have t0 : T.take 1 = enc k 1 := by rw [← hT']; exact List.take_left' (enc_len _ _)
  have t1 : (T.drop 1).take 4 = enc id 4 := by rw [d1]; exact List.take_left' (enc_len _ _)
  have t5 : (T.drop 5).take 2 = enc at' 2 := by rw [d5]; exact List.take_left' (enc_len _ _)
  have t7 : (T.drop 7).take 2 = enc n 2 := by rw [d7]; exact List.take_left' (enc_len _ _)
  have hd : (⟨T.toArray⟩ : ByteArray).extract 9 (⟨T.toArray⟩ : ByteArray).size = data := by
    refine ByteArray.ext (Array.toList_inj.mp ?_)
    rw [cut_list]
    exact d9
  rw [hT]
  unfold roOf
  rw [hd]
  show RO.mk (num (T.take 1)) (num ((T.drop 1).take 4)) (num ((T.drop 5).take 2)) (num ((T.drop 7).take 2)) data = _
  rw [t0, t1, t5, t7, num_enc, num_enc, num_enc, num_enc, Nat.mod_eq_of_lt hk, Nat.mod_eq_of_lt hid, Nat.mod_eq_of_lt hat, Nat.mod_eq_of_lt hn]
theorem text_e (o : RO) (h : o.fits) : redoE ⟨o.text.toArray⟩ = if o.k < 1 ∨ 7 < o.k then some 15 else none := by
  have hs : ¬ (⟨o.text.toArray⟩ : ByteArray).size < 9 := by
    show ¬ o.text.length < 9
    rw [o.text_len]
    omega
  unfold redoE
  rw [if_neg hs, roOf_text o h]
set_option maxRecDepth 10000 in
set_option maxHeartbeats 2000000 in
theorem redoBytes_walk (a0 : Int) (a1 : Nat) (h1 : a1 < 4294967296) (a2 a3 : Int) (a4 : ByteArray) (w4 : a4.size ≤ maxLen) (w : World) :
    Calls Try.prog 12 #[.int .i64 a0, .int .u32 a1, .int .i64 a2, .int .i64 a3, .string a4] w fun e w' => e = .returned (.bool true) ∧ Below w.heap.size w w' := by
  obtain ⟨k, hk0, hk1⟩ := maskN a0 255 (by decide)
  obtain ⟨at', ha0, ha1⟩ := maskN a2 65535 (by decide)
  obtain ⟨n, hn0, hn1⟩ := maskN a3 65535 (by decide)
  have hk0 : bits .and .i64 a0 255 = (k : Int) := hk0
  have ha0 : bits .and .i64 a2 65535 = (at' : Int) := ha0
  have hn0 : bits .and .i64 a3 65535 = (n : Int) := hn0
  have HCt := Lib.hid fun wx => cut_any a4 200 wx w4 (by omega)
  have ht : (a4.extract 0 (min 200 a4.size)).size ≤ 200 := by rw [ByteArray.size_extract]; omega
  generalize a4.extract 0 (min 200 a4.size) = t at HCt ht
  have hf : (RO.mk k a1 at' n t).fits := ⟨by show k < 256; omega, h1, by show at' < 65536; omega, by show n < 65536; omega, by show t.size ≤ 1000; omega⟩
  have HB := Lib.hid fun wx => redoBytes_any (RO.mk k a1 at' n t) hf wx
  have HT := Lib.hid fun wx => told_any (RO.mk k a1 at' n t) hf.id wx
  have HR := Lib.hid fun wx => refRedoBytes_any (RO.mk k a1 at' n t) hf wx
  have hE := text_e (RO.mk k a1 at' n t) hf
  have HP := Lib.hid fun wx => lawRedo_any ⟨(RO.mk k a1 at' n t).text.toArray⟩ wx
  have hG : gotRO ⟨(RO.mk k a1 at' n t).text.toArray⟩ = if redoE ⟨(RO.mk k a1 at' n t).text.toArray⟩ = none then RO.mk k a1 at' n t else RO.none := by
    unfold gotRO
    rw [roOf_text _ hf]
  rw [hG] at HP
  clear hG hf w4 h1 hk1 ha1 hn1 ht
  rw [hE] at HP
  clear hE
  generalize (⟨(RO.mk k a1 at' n t).text.toArray⟩ : ByteArray) = TX at *
  dsimp only [RO.cells, RO.told] at HB HT HR
  have hEg : ∀ (p q : Operand) (X Y : Array Value) (wx : World), (eqGuard .eql 93 p q (.agg X) (.agg Y)).run Try.prog wx = .ok () wx := fun p q X Y wx => op_guard p q X Y wx
  go_enter Try.func12, Try.ntmps12
  go_wp2_with fail
  refine (redoAwake _).mono ?_
  rintro e w1 ⟨rfl, hb1⟩
  have HB1 := Lib.hid hb1
  clear hb1
  go_wp2_with fail
  refine (HCt.out _).mono ?_
  rintro e w' ⟨rfl, rfl⟩
  clear HCt
  have hq := heap_alloc_new w1 (.cells #[.int .i64 k, .int .u32 a1, .int .i64 at', .int .i64 n, .string t] 93)
  have HB2 : Hid (Below w.heap.size w (w1.alloc (.cells #[.int .i64 k, .int .u32 a1, .int .i64 at', .int .i64 n, .string t] 93))) := Lib.hid (HB1.out.alloc HB1.out.size _)
  have hs2 : (w1.alloc (.cells #[.int .i64 k, .int .u32 a1, .int .i64 at', .int .i64 n, .string t] 93)).heap.size = w1.heap.size + 1 := by simp
  have HQ := Lib.hid hq
  have HS := Lib.hid hs2
  clear hq hs2
  go_upto_region 4 with fail
  generalize w1.alloc (.cells #[.int .i64 k, .int .u32 a1, .int .i64 at', .int .i64 n, .string t] 93) = w2 at *
  generalize w1.heap.size = x at *
  obtain ⟨l0, l1, l2, l3, l4⟩ := five HQ.out
  go_wp2_with fail
  refine (HB.out _).mono ?_
  rintro e w3 ⟨rfl, hb3⟩
  have hq3 : w3.heap[x]? = some (.cells #[.int .i64 k, .int .u32 a1, .int .i64 at', .int .i64 n, .string t] 93) := by rw [hb3.block _ (by have := HS.out; omega)]; exact HQ.out
  have HB3 := Lib.hid (HB2.out.trans (hb3.mono HB2.out.size))
  have HL3 : Hid (x < w3.heap.size) := Lib.hid (by have := HS.out; have := hb3.size; omega)
  have HQ3 := Lib.hid hq3
  clear hq3 hb3 l0 l1 l2 l3 l4 HQ HS HB2 HB
  go_wp2_with fail
  by_cases hk : k < 1 ∨ 7 < k
  · have HPx : Hid (∀ wx, Calls Try.prog 69 #[.string TX] wx fun e w' => e = .returned (.tuple #[.agg #[.int .i64 0, .int .u32 0, .int .i64 0, .int .i64 0, .string ⟨#[]⟩], .int .i64 15]) ∧ Below wx.heap.size wx w') := Lib.hid fun wx => by
      have h := HP.out wx
      rw [if_pos hk, if_neg (by simp)] at h
      exact h
    clear HP
    refine (HPx.out _).mono ?_
    rintro e w5 ⟨rfl, hb5⟩
    have hq5 : w5.heap[x]? = some (.cells #[.int .i64 k, .int .u32 a1, .int .i64 at', .int .i64 n, .string t] 93) := by rw [hb5.block _ HL3.out]; exact HQ3.out
    have HB5 := Lib.hid (HB3.out.trans (hb5.mono HB3.out.size))
    have hl5 : x < w5.heap.size := by have := HL3.out; have := hb5.size; omega
    have hqx : (w5.alloc (.cells #[.int .i64 0, .int .u32 0, .int .i64 0, .int .i64 0, .string ⟨#[]⟩] 93)).heap[x]? = some (.cells #[.int .i64 k, .int .u32 a1, .int .i64 at', .int .i64 n, .string t] 93) := by rw [Below.heap_alloc _ _ _ hl5]; exact hq5
    have hqy := heap_alloc_new w5 (.cells #[.int .i64 0, .int .u32 0, .int .i64 0, .int .i64 0, .string ⟨#[]⟩] 93)
    have hs6 : (w5.alloc (.cells #[.int .i64 0, .int .u32 0, .int .i64 0, .int .i64 0, .string ⟨#[]⟩] 93)).heap.size = w5.heap.size + 1 := by simp
    have HB6 : Hid (Below w.heap.size w (w5.alloc (.cells #[.int .i64 0, .int .u32 0, .int .i64 0, .int .i64 0, .string ⟨#[]⟩] 93))) := Lib.hid (HB5.out.alloc HB5.out.size _)
    have HX := Lib.hid hqx
    have HY := Lib.hid hqy
    have HS6 := Lib.hid hs6
    have HL5 := Lib.hid hl5
    clear hqx hqy hq5 hb5 hs6 hl5 HQ3 HL3 HB3 HB5
    go_upto_region 6 with fail
    generalize w5.alloc (.cells #[.int .i64 0, .int .u32 0, .int .i64 0, .int .i64 0, .string ⟨#[]⟩] 93) = W at *
    generalize w5.heap.size = y at *
    have HK : Hid (∀ wx, Below W.heap.size W wx → (wx.cell? ⟨x, 0, none⟩ = some (.int .i64 k) ∧ wx.cell? ⟨x, 1, none⟩ = some (.int .u32 a1) ∧ wx.cell? ⟨x, 2, none⟩ = some (.int .i64 at') ∧ wx.cell? ⟨x, 3, none⟩ = some (.int .i64 n) ∧ wx.cell? ⟨x, 4, none⟩ = some (.string t)) ∧ (wx.cell? ⟨y, 0, none⟩ = some (.int .i64 0) ∧ wx.cell? ⟨y, 1, none⟩ = some (.int .u32 0) ∧ wx.cell? ⟨y, 2, none⟩ = some (.int .i64 0) ∧ wx.cell? ⟨y, 3, none⟩ = some (.int .i64 0) ∧ wx.cell? ⟨y, 4, none⟩ = some (.string ⟨#[]⟩))) := Lib.hid fun wx hb => by
      have h1 := HS6.out
      have h2 := HL5.out
      exact ⟨five (t := 93) (by rw [hb.block _ (by omega)]; exact HX.out), five (t := 93) (by rw [hb.block _ (by omega)]; exact HY.out)⟩
    have hk0' := HK.out _ (Below.refl _ _)
    obtain ⟨⟨l0, l1, l2, l3, l4⟩, ⟨m0, m1, m2, m3, m4⟩⟩ := hk0'
    go_wp2_with fail
    refine (HT.out _).mono ?_
    rintro e w7 ⟨rfl, hb7⟩
    have HG7 := Lib.hid hb7
    clear hb7
    go_wp2_with fail
    refine (HR.out _).mono ?_
    rintro e w8 ⟨rfl, hb8⟩
    have HG8 := Lib.hid (HG7.out.trans (hb8.mono HG7.out.size))
    have hk8 := HK.out _ HG8.out
    clear hb8 l0 l1 l2 l3 l4 m0 m1 m2 m3 m4
    obtain ⟨⟨l0, l1, l2, l3, l4⟩, ⟨m0, m1, m2, m3, m4⟩⟩ := hk8
    have hself : ∀ wx, (binOp .eql 93 (.agg #[.int .i64 0, .int .u32 0, .int .i64 0, .int .i64 0, .string ⟨#[]⟩]) (.agg #[.int .i64 0, .int .u32 0, .int .i64 0, .int .i64 0, .string ⟨#[]⟩])).run Try.prog wx = .ok (.bool true) wx := fun wx => op_self _ _ _ _ _ wx
    by_cases hlt : k < 1
    · have i0 : (k : Int) < 1 := by omega
      go_wp2_with fail
      go_ret
      exact ⟨rfl, HB6.out.trans (HG8.out.mono HB6.out.size)⟩
    · have i0 : ¬ (k : Int) < 1 := by omega
      have i1 : (7 : Int) < (k : Int) := by omega
      go_wp2_with fail
      go_ret
      exact ⟨rfl, HB6.out.trans (HG8.out.mono HB6.out.size)⟩
  · have HPx : Hid (∀ wx, Calls Try.prog 69 #[.string TX] wx fun e w' => e = .returned (.tuple #[.agg #[.int .i64 k, .int .u32 a1, .int .i64 at', .int .i64 n, .string t], .int .i64 0]) ∧ Below wx.heap.size wx w') := Lib.hid fun wx => by
      have h := HP.out wx
      rw [if_neg hk, if_pos rfl] at h
      exact h
    clear HP
    refine (HPx.out _).mono ?_
    rintro e w5 ⟨rfl, hb5⟩
    have hq5 : w5.heap[x]? = some (.cells #[.int .i64 k, .int .u32 a1, .int .i64 at', .int .i64 n, .string t] 93) := by rw [hb5.block _ HL3.out]; exact HQ3.out
    have HB5 := Lib.hid (HB3.out.trans (hb5.mono HB3.out.size))
    have hl5 : x < w5.heap.size := by have := HL3.out; have := hb5.size; omega
    have hqx : (w5.alloc (.cells #[.int .i64 k, .int .u32 a1, .int .i64 at', .int .i64 n, .string t] 93)).heap[x]? = some (.cells #[.int .i64 k, .int .u32 a1, .int .i64 at', .int .i64 n, .string t] 93) := by rw [Below.heap_alloc _ _ _ hl5]; exact hq5
    have hqy := heap_alloc_new w5 (.cells #[.int .i64 k, .int .u32 a1, .int .i64 at', .int .i64 n, .string t] 93)
    have hs6 : (w5.alloc (.cells #[.int .i64 k, .int .u32 a1, .int .i64 at', .int .i64 n, .string t] 93)).heap.size = w5.heap.size + 1 := by simp
    have HB6 : Hid (Below w.heap.size w (w5.alloc (.cells #[.int .i64 k, .int .u32 a1, .int .i64 at', .int .i64 n, .string t] 93))) := Lib.hid (HB5.out.alloc HB5.out.size _)
    have HX := Lib.hid hqx
    have HY := Lib.hid hqy
    have HS6 := Lib.hid hs6
    have HL5 := Lib.hid hl5
    clear hqx hqy hq5 hb5 hs6 hl5 HQ3 HL3 HB3 HB5
    go_upto_region 6 with fail
    generalize w5.alloc (.cells #[.int .i64 k, .int .u32 a1, .int .i64 at', .int .i64 n, .string t] 93) = W at *
    generalize w5.heap.size = y at *
    have HK : Hid (∀ wx, Below W.heap.size W wx → (wx.cell? ⟨x, 0, none⟩ = some (.int .i64 k) ∧ wx.cell? ⟨x, 1, none⟩ = some (.int .u32 a1) ∧ wx.cell? ⟨x, 2, none⟩ = some (.int .i64 at') ∧ wx.cell? ⟨x, 3, none⟩ = some (.int .i64 n) ∧ wx.cell? ⟨x, 4, none⟩ = some (.string t)) ∧ (wx.cell? ⟨y, 0, none⟩ = some (.int .i64 k) ∧ wx.cell? ⟨y, 1, none⟩ = some (.int .u32 a1) ∧ wx.cell? ⟨y, 2, none⟩ = some (.int .i64 at') ∧ wx.cell? ⟨y, 3, none⟩ = some (.int .i64 n) ∧ wx.cell? ⟨y, 4, none⟩ = some (.string t))) := Lib.hid fun wx hb => by
      have h1 := HS6.out
      have h2 := HL5.out
      exact ⟨five (t := 93) (by rw [hb.block _ (by omega)]; exact HX.out), five (t := 93) (by rw [hb.block _ (by omega)]; exact HY.out)⟩
    have hk0' := HK.out _ (Below.refl _ _)
    obtain ⟨⟨l0, l1, l2, l3, l4⟩, ⟨m0, m1, m2, m3, m4⟩⟩ := hk0'
    go_wp2_with fail
    refine (HT.out _).mono ?_
    rintro e w7 ⟨rfl, hb7⟩
    have HG7 := Lib.hid hb7
    clear hb7
    go_wp2_with fail
    refine (HR.out _).mono ?_
    rintro e w8 ⟨rfl, hb8⟩
    have HG8 := Lib.hid (HG7.out.trans (hb8.mono HG7.out.size))
    have hk8 := HK.out _ HG8.out
    clear hb8 l0 l1 l2 l3 l4 m0 m1 m2 m3 m4
    obtain ⟨⟨l0, l1, l2, l3, l4⟩, ⟨m0, m1, m2, m3, m4⟩⟩ := hk8
    have i0 : ¬ (k : Int) < 1 := by omega
    have i1 : ¬ (7 : Int) < (k : Int) := by omega
    have hself : ∀ wx, (binOp .eql 93 (.agg #[.int .i64 k, .int .u32 a1, .int .i64 at', .int .i64 n, .string t]) (.agg #[.int .i64 k, .int .u32 a1, .int .i64 at', .int .i64 n, .string t])).run Try.prog wx = .ok (.bool true) wx := fun wx => op_self _ _ _ _ _ wx
    go_wp2_with fail
    go_ret
    exact ⟨rfl, HB6.out.trans (HG8.out.mono HB6.out.size)⟩
end Go.Proofs.Ytdeohkkpmjgaoaa
