/-
  The document's Bytes: of every stream of few items.
-/
import Derived.Test.YtpgmgopcgoblhaaDoorStreamSizes
import Derived.Test.YtpgmgopcgoblhaaDoorStreamTold
import Derived.Test.YtpgmgopcgoblhaaDoorStreamRefC
import Derived.Test.YtpgmgopcgoblhaaDoorPackRefNum
namespace Go.Proofs.YtpgmgopcgoblhaaDoor
open Go.RowKit

set_option maxRecDepth 100000 in
set_option maxHeartbeats 4000000 in
theorem refBytes_any (z : Nat) (base target : List UInt8) (v : Value) (l : List It) (w : World) (hz : z < 65536) (hb : base.length = 32) (ht : target.length = 32) (hv : ItsAt w v l) (hl : l.length ≤ 6) (hd : ∀ x ∈ l, x.dt.length ≤ 256) (hp : ∀ x ∈ l, 0 ≤ x.pl ∧ x.pl < 65536) :
    Calls Tryd.prog 13 #[.agg (rfL (z : Int) ⟨base.toArray⟩ ⟨target.toArray⟩ v)] w fun e w' => e = .returned (.string ⟨(allB ⟨(z : Int), base, target, l⟩).toArray⟩) ∧ Below w.heap.size w w' := by
  obtain ⟨a, cap, rfl⟩ := hv.form
  unfold rfL
  have u1 := u32_as_u64 z (by omega)
  have u2 := u32_as_u64 l.length (by omega)
  have HN : Hid (∀ (a : Nat) (m : Int) wx, a < 18446744073709551616 → Calls Tryd.prog 16 #[.int .u64 a, .int .i64 m] wx fun e w' => e = .returned (.string ⟨(enc a (wid m)).toArray⟩) ∧ Below wx.heap.size wx w') := Lib.hid fun a m wx ha => refNum_any a m wx ha
  have HZ := Lib.hid fun wx => HN.out z 2 wx (by omega)
  have HL := Lib.hid fun wx => HN.out l.length 2 wx (by omega)
  rw [wid2] at HZ HL
  have z1 : (⟨(enc z 2).toArray⟩ : ByteArray).size = 2 := enc_len _ _
  have z2 : (⟨(enc l.length 2).toArray⟩ : ByteArray).size = 2 := enc_len _ _
  have z3 : (⟨base.toArray⟩ : ByteArray).size = 32 := hb
  have z4 : (⟨target.toArray⟩ : ByteArray).size = 32 := ht
  have HT : Hid ((⟨#[83, 66, 68, 70, 1]⟩ : ByteArray) ++ ⟨(enc z 2).toArray⟩ ++ ⟨base.toArray⟩ ++ ⟨target.toArray⟩ ++ ⟨(enc l.length 2).toArray⟩ = ⟨(headB ⟨(z : Int), base, target, l⟩).toArray⟩) := Lib.hid (by
    apply ByteArray.ext
    apply Array.toList_inj.mp
    simp [ByteArray.data_append, headB, markB])
  have HH : Hid ((⟨(headB ⟨(z : Int), base, target, l⟩).toArray⟩ : ByteArray) = ⟨(headB ⟨(z : Int), base, target, l⟩ ++ itsB (l.take 0)).toArray⟩) := Lib.hid (by simp [itsB])
  have HLen := Lib.hid (fun k => show (headB ⟨(z : Int), base, target, l⟩ ++ itsB (l.take k)).length ≤ 73 + 18 + 1536 by
    rw [List.length_append, headB_len hb ht, itsB_len]
    have := dsum_le hd k
    have : (l.take k).length ≤ l.length := by rw [List.length_take]; omega
    omega)
  have HEnd : Hid (headB ⟨(z : Int), base, target, l⟩ ++ itsB (l.take l.length) = bodyB ⟨(z : Int), base, target, l⟩) := Lib.hid (by rw [List.take_length]; rfl)
  have HAll : Hid (allB ⟨(z : Int), base, target, l⟩ = bodyB ⟨(z : Int), base, target, l⟩ ++ enc (C.Crc.sum (bodyB ⟨(z : Int), base, target, l⟩)) 4) := Lib.hid rfl
  generalize (⟨(headB ⟨(z : Int), base, target, l⟩).toArray⟩ : ByteArray) = TX at *
  generalize headB ⟨(z : Int), base, target, l⟩ = hd0 at *
  generalize allB ⟨(z : Int), base, target, l⟩ = AL at *
  generalize bodyB ⟨(z : Int), base, target, l⟩ = BO at *
  generalize (⟨(enc z 2).toArray⟩ : ByteArray) = EJ at *
  generalize (⟨(enc l.length 2).toArray⟩ : ByteArray) = EN at *
  generalize (⟨base.toArray⟩ : ByteArray) = DB at *
  generalize (⟨target.toArray⟩ : ByteArray) = DT at *
  obtain ⟨M, hM⟩ : ∃ M : ByteArray, (⟨#[83, 66, 68, 70, 1]⟩ : ByteArray) = M := ⟨_, rfl⟩
  have q0 : M.size = 5 := by rw [← hM]; rfl
  rw [hM] at HT
  have c1 : ∀ wx : World, (Op.stringOp .add M EJ).run Tryd.prog wx = .ok (.string (M ++ EJ)) wx := fun wx => run_string_add_sum wx _ _ (by omega)
  obtain ⟨T1, hT1⟩ : ∃ T1, M ++ EJ = T1 := ⟨_, rfl⟩
  have q1 : T1.size = 7 := by rw [← hT1, ByteArray.size_append]; omega
  rw [hT1] at c1 HT
  have c2 : ∀ wx : World, (Op.stringOp .add T1 DB).run Tryd.prog wx = .ok (.string (T1 ++ DB)) wx := fun wx => run_string_add_sum wx _ _ (by omega)
  obtain ⟨T2, hT2⟩ : ∃ T2, T1 ++ DB = T2 := ⟨_, rfl⟩
  have q2 : T2.size = 39 := by rw [← hT2, ByteArray.size_append]; omega
  rw [hT2] at c2 HT
  have c3 : ∀ wx : World, (Op.stringOp .add T2 DT).run Tryd.prog wx = .ok (.string (T2 ++ DT)) wx := fun wx => run_string_add_sum wx _ _ (by omega)
  obtain ⟨T3, hT3⟩ : ∃ T3, T2 ++ DT = T3 := ⟨_, rfl⟩
  have q3 : T3.size = 71 := by rw [← hT3, ByteArray.size_append]; omega
  rw [hT3] at c3 HT
  have c4 : ∀ wx : World, (Op.stringOp .add T3 EN).run Tryd.prog wx = .ok (.string TX) wx := fun wx => by
    rw [← HT.out]
    exact run_string_add_sum wx _ _ (by omega)
  have HV := Lib.hid hv
  have HL6 := Lib.hid hl
  have HD := Lib.hid hd
  have HP := Lib.hid hp
  rw [← hM] at c1
  clear hM hT1 hT2 hT3 HT q0 q1 q2 q3 z1 z2 z3 z4 hv hl hd hp hb ht
  have hblk := heap_alloc_new w (.cells #[.int .i64 z, .string DB, .string DT, .slice a l.length cap] 32)
  have hlt0 : w.heap.size < (w.alloc (.cells #[.int .i64 z, .string DB, .string DT, .slice a l.length cap] 32)).heap.size := by simp
  have HB0 : Hid (Below w.heap.size w (w.alloc (.cells #[.int .i64 z, .string DB, .string DT, .slice a l.length cap] 32))) := Lib.hid ((Below.refl _ _).alloc (Nat.le_refl _) _)
  obtain ⟨l0, l1, l2, l3, _⟩ := four hblk
  go_enter Tryd.func13, Tryd.ntmps13
  go_wp2_with fail
  generalize hW : w.alloc (.cells #[.int .i64 z, .string DB, .string DT, .slice a l.length cap] 32) = W at *
  clear hW
  have HKb : Hid (∀ wx, Below W.drew.heap.size W.drew wx → wx.cell? ⟨w.heap.size, 0, none⟩ = some (.int .i64 z) ∧ wx.cell? ⟨w.heap.size, 1, none⟩ = some (.string DB) ∧ wx.cell? ⟨w.heap.size, 2, none⟩ = some (.string DT) ∧ wx.cell? ⟨w.heap.size, 3, none⟩ = some (.slice a l.length cap)) := Lib.hid fun wx hb => by
    have h := four (t := 32) (show wx.heap[w.heap.size]? = _ by rw [hb.block w.heap.size hlt0]; exact hblk)
    exact ⟨h.1, h.2.1, h.2.2.1, h.2.2.2.1⟩
  have HKr := Lib.hid (Below.refl W.drew.heap.size W.drew)
  go_region_held3 (fun wx => wx.cell? ⟨w.heap.size, 0, none⟩ = some (.int .i64 z) ∧ wx.cell? ⟨w.heap.size, 1, none⟩ = some (.string DB) ∧ wx.cell? ⟨w.heap.size, 2, none⟩ = some (.string DT) ∧ wx.cell? ⟨w.heap.size, 3, none⟩ = some (.slice a l.length cap))
    (first | exact ⟨l0, l1, l2, l3⟩ | exact HKb.out _ HKr.out | exact HKb.out _ HG1.out | exact HKb.out _ HG2.out)
    (first
      | (go_at_call 16; (with_reducible refine (HZ.out W.drew).mono ?_); rintro e w1 ⟨rfl, hb1⟩; (have HG1 := Lib.hid hb1); clear hb1)
      | (go_at_call 16; (with_reducible refine (HL.out w1).mono ?_); rintro e w2 ⟨rfl, hb2⟩; (have HG2 := Lib.hid (HG1.out.trans (hb2.mono HG1.out.size))); clear hb2))
  have HB2 : Hid (Below w.heap.size w w2) := Lib.hid (HB0.out.drew.trans (HG2.out.mono HB0.out.drew.size))
  have y3 := (HKb.out _ HG2.out).2.2.2
  have HLt := Lib.hid (Nat.lt_of_lt_of_le hlt0 HG2.out.size)
  clear l0 l1 l2 l3 c1 c2 c3 c4 HKb HKr HG1 HG2 hblk hlt0 HZ HL
  go_wp2_with fail
  go_loopw [3, 26] (fun o i wx => ∃ k : Nat, k ≤ l.length ∧ i = .int .i64 (k : Int) ∧ o = .string ⟨(hd0 ++ itsB (l.take k)).toArray⟩ ∧ Below w.heap.size w wx) (fun _ i _ => l.length - (intOf i).toNat)
  case atStart => exact ⟨0, by omega, rfl, by rw [HH.out], HB2.out⟩
  case round =>
    obtain ⟨k, hk, rfl, rfl, hbl⟩ := hrel
    have HBl := Lib.hid hbl
    have HVr := Lib.hid (HV.out.below hbl)
    clear hbl y3
    have hlen := HLen.out k
    have hlen1 := HLen.out (k + 1)
    have hl6 := HL6.out
    by_cases hlt : k < l.length
    · have i0 : (k : Int) < (l.length : Int) := by omega
      obtain ⟨x, hx⟩ : ∃ x, l[k]? = some x := ⟨_, List.getElem?_eq_getElem hlt⟩
      obtain ⟨b, rfl, x0, x1⟩ := HVr.out.at hx
      have hp := HP.out x (List.mem_of_getElem? hx)
      have hdx := HD.out x (List.mem_of_getElem? hx)
      obtain ⟨pl, dt⟩ := x
      dsimp only at hp hdx x0 x1
      obtain ⟨p, rfl⟩ : ∃ p : Nat, pl = (p : Int) := ⟨pl.toNat, by omega⟩
      have hstep : hd0 ++ itsB (l.take (k + 1)) = (hd0 ++ itsB (l.take k)) ++ (enc p 2 ++ (if dt.isEmpty then [0] else 1 :: dt)) := by
        rw [List.take_add_one, hx]
        simp [itsB, itB]
      rw [hstep] at hlen1
      have u3 := u32_as_u64 p (by omega)
      have HNum := Lib.hid fun wx => HN.out p 2 wx (by omega)
      rw [wid2] at HNum
      have z1 : (⟨(enc p 2).toArray⟩ : ByteArray).size = 2 := enc_len _ _
      have z2 : (⟨(hd0 ++ itsB (l.take k)).toArray⟩ : ByteArray).size ≤ 2000 := by rw [ba_size]; omega
      have HTx : Hid ((⟨(hd0 ++ itsB (l.take (k + 1))).toArray⟩ : ByteArray) = (⟨(hd0 ++ itsB (l.take k)).toArray⟩ ++ ⟨(enc p 2).toArray⟩) ++ (if dt.isEmpty then ⟨#[0]⟩ else ⟨#[1]⟩ ++ ⟨dt.toArray⟩)) := Lib.hid (by
        rw [hstep]
        apply ByteArray.ext
        apply Array.toList_inj.mp
        cases dt <;> simp [ByteArray.data_append])
      obtain ⟨ON, hON⟩ : ∃ ON : ByteArray, ⟨(hd0 ++ itsB (l.take (k + 1))).toArray⟩ = ON := ⟨_, rfl⟩
      rw [hON] at HTx
      have HOn := Lib.hid hON
      clear hON
      generalize (⟨(hd0 ++ itsB (l.take k)).toArray⟩ : ByteArray) = O at *
      generalize (⟨(enc p 2).toArray⟩ : ByteArray) = E at *
      have c1 : ∀ wx : World, (Op.stringOp .add O E).run Tryd.prog wx = .ok (.string (O ++ E)) wx := fun wx => run_string_add_sum wx _ _ (by omega)
      obtain ⟨O1, hO1⟩ : ∃ O1, O ++ E = O1 := ⟨_, rfl⟩
      have z3 : O1.size ≤ 2002 := by rw [← hO1, ByteArray.size_append]; omega
      rw [hO1] at c1 HTx
      have HBa := Lib.hid (HBl.out.alloc HBl.out.size (.cells #[.int .i64 p, .string ⟨dt.toArray⟩] 55))
      have hn := heap_alloc_new wr (.cells #[.int .i64 p, .string ⟨dt.toArray⟩] 55)
      have hlt1 : wr.heap.size < (wr.alloc (.cells #[.int .i64 p, .string ⟨dt.toArray⟩] 55)).heap.size := by simp
      obtain ⟨D, hD⟩ : ∃ D : ByteArray, ⟨dt.toArray⟩ = D := ⟨_, rfl⟩
      have z4 : D.size ≤ 256 := by rw [← hD, ba_size]; exact hdx
      rw [hD] at x1 HBa hn hlt1 HTx
      clear hx hlen hlen1 hdx hstep hO1
      have HDe := Lib.hid hD
      clear hD
      go_wp2_with fail
      refine (HNum.out _).mono ?_
      rintro e w5 ⟨rfl, hb5⟩
      have HB5 := Lib.hid (HBa.out.trans (hb5.mono HBa.out.size))
      obtain ⟨n0, n1, _⟩ := pair2 (t := 55) (show w5.heap[wr.heap.size]? = _ by rw [hb5.block _ hlt1]; exact hn)
      have hk9 : (k : Int) < 100000 := by omega
      clear hb5 hn hlt1 x0 x1 HBa HNum
      cases dt with
      | nil =>
        have hem : D.toList.isEmpty = true := by rw [ByteArray.toList_eq, ← HDe.out]; rfl
        have c2 : ∀ wx : World, (Op.stringOp .add O1 ⟨#[0]⟩).run Tryd.prog wx = .ok (.string ON) wx := fun wx => by
          have q := HTx.out
          simp only [List.isEmpty_nil, if_true] at q
          rw [q]
          exact run_string_add_sum wx _ _ (by show O1.size + 1 ≤ _; omega)
        clear HTx
        go_wp2_with fail
        go_roundw
        case rel => exact ⟨k + 1, by omega, by go_num, by rw [HOn.out], HB5.out⟩
        case measure => simp [intOf]; omega
      | cons c d =>
        have hem : D.toList.isEmpty = false := by rw [ByteArray.toList_eq, ← HDe.out]; rfl
        obtain ⟨D1, hD1⟩ : ∃ D1, (⟨#[1]⟩ : ByteArray) ++ D = D1 := ⟨_, rfl⟩
        have z5 : D1.size ≤ 257 := by rw [← hD1, ByteArray.size_append]; show 1 + D.size ≤ 257; omega
        have c2 : ∀ wx : World, (Op.stringOp .add ⟨#[1]⟩ D).run Tryd.prog wx = .ok (.string D1) wx := fun wx => by
          rw [← hD1]
          exact run_string_add_sum wx _ _ (by show 1 + D.size ≤ _; omega)
        have c3 : ∀ wx : World, (Op.stringOp .add O1 D1).run Tryd.prog wx = .ok (.string ON) wx := fun wx => by
          rw [HTx.out, if_neg (by simp), hD1]
          exact run_string_add_sum wx _ _ (by omega)
        clear HTx hD1
        go_wp2_with fail
        go_roundw
        case rel => exact ⟨k + 1, by omega, by go_num, by rw [HOn.out], HB5.out⟩
        case measure => simp [intOf]; omega
    · obtain rfl : k = l.length := by omega
      have i0 : ¬ (l.length : Int) < (l.length : Int) := by omega
      rw [HEnd.out] at hlen ⊢
      have hlt := crc_lt BO
      have HSum := Lib.hid (C.ref_any ⟨BO.toArray⟩ wr (by rw [ba_size]; unfold maxLen; omega))
      have e : (⟨BO.toArray⟩ : ByteArray).data.toList = BO := by simp
      rw [e] at HSum
      have HA : Hid ((⟨AL.toArray⟩ : ByteArray) = ⟨BO.toArray⟩ ++ ⟨(enc (C.Crc.sum BO) 4).toArray⟩) := Lib.hid (by
        rw [HAll.out]
        apply ByteArray.ext
        apply Array.toList_inj.mp
        simp [ByteArray.data_append])
      generalize C.Crc.sum BO = K at *
      have u3 := u32_as_u64 K hlt
      have HNum := Lib.hid (fun wx => HN.out K 4 wx (by omega))
      rw [wid4] at HNum
      have z1 : (⟨(enc K 4).toArray⟩ : ByteArray).size = 4 := enc_len _ _
      have z2 : (⟨BO.toArray⟩ : ByteArray).size ≤ 2000 := by rw [ba_size]; omega
      generalize (⟨(enc K 4).toArray⟩ : ByteArray) = EK at *
      generalize (⟨BO.toArray⟩ : ByteArray) = O at *
      obtain ⟨ON, hON⟩ : ∃ ON : ByteArray, ⟨AL.toArray⟩ = ON := ⟨_, rfl⟩
      rw [hON] at HA
      have HON := Lib.hid hON
      clear hON
      have c1 : ∀ wx : World, (Op.stringOp .add O EK).run Tryd.prog wx = .ok (.string ON) wx := fun wx => by
        rw [HA.out]
        exact run_string_add_sum wx _ _ (by omega)
      clear e hlen hlen1 HA hlt HEnd HAll
      go_wp2_with fail
      refine HSum.out.mono ?_
      rintro e w5 ⟨rfl, rfl⟩
      go_wp2_with fail
      refine (HNum.out _).mono ?_
      rintro e w6 ⟨rfl, hb6⟩
      have HB6 := Lib.hid (HBl.out.trans (hb6.mono HBl.out.size))
      clear hb6
      go_wp2_with fail
      go_ret
      exact ⟨by rw [HON.out]; rfl, HB6.out⟩
end Go.Proofs.YtpgmgopcgoblhaaDoor
