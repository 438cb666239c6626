/-
  The document's own Parse of any bytes: a contract.
-/
import Derived.Test.YtpgmgopcgoblhaaDoorStreamRefS
import Derived.Deep.CutBlock
namespace Go.Proofs.YtpgmgopcgoblhaaDoor
open Go.RowKit

theorem undrew {W w2 : World} (h : Below W.drew.heap.size W.drew w2) : Below W.heap.size W w2 := ⟨h.os, h.tape, h.output, h.size, h.block⟩
/-- the calls, thing by thing -/
structure Takes (BD : List UInt8) (y1 y2 y3 y4 y5 y6 : RX) (d1 d4 d5 : List UInt8) (n2 n3 n6 : Nat) : Prop where
  t1 : ∀ wx, Calls Tryd.prog 31 #[.agg #[.string ⟨BD.toArray⟩, .int .i64 0], .int .i64 4] wx fun r w' => r = .returned (.tuple #[.agg (inL y1), .string ⟨d1.toArray⟩]) ∧ Below wx.heap.size wx w'
  t2 : ∀ wx, Calls Tryd.prog 32 #[.agg (inL y1), .int .i64 1] wx fun r w' => r = .returned (.tuple #[.agg (inL y2), .int .u64 (n2 : Nat)]) ∧ Below wx.heap.size wx w'
  t3 : ∀ wx, Calls Tryd.prog 32 #[.agg (inL y2), .int .i64 2] wx fun r w' => r = .returned (.tuple #[.agg (inL y3), .int .u64 (n3 : Nat)]) ∧ Below wx.heap.size wx w'
  t4 : ∀ wx, Calls Tryd.prog 31 #[.agg (inL y3), .int .i64 32] wx fun r w' => r = .returned (.tuple #[.agg (inL y4), .string ⟨d4.toArray⟩]) ∧ Below wx.heap.size wx w'
  t5 : ∀ wx, Calls Tryd.prog 31 #[.agg (inL y4), .int .i64 32] wx fun r w' => r = .returned (.tuple #[.agg (inL y5), .string ⟨d5.toArray⟩]) ∧ Below wx.heap.size wx w'
  t6 : ∀ wx, Calls Tryd.prog 32 #[.agg (inL y5), .int .i64 2] wx fun r w' => r = .returned (.tuple #[.agg (inL y6), .int .u64 (n6 : Nat)]) ∧ Below wx.heap.size wx w'
  c1 : y1.2 = 0 ∧ d1 ≠ markB → bodyP BD = .error 1
  c2 : ¬ (y1.2 = 0 ∧ d1 ≠ markB) → y2.2 = 0 ∧ n2 ≠ 1 → bodyP BD = .error 1
  rest : ¬ (y1.2 = 0 ∧ d1 ≠ markB) → ¬ (y2.2 = 0 ∧ n2 ≠ 1) → match rLoop n6 y6 [] with
    | none => bodyP BD = .error 1
    | some (x, xs) => if (rdD x).2 ≠ 0 then bodyP BD = .error (rdD x).2 else bodyP BD = .ok ⟨n3, d4, d5, xs⟩
  n3lt : n3 < 65536
  n6lt : n6 < 65536
theorem num2_le (l : List UInt8) (h : l.length ≤ 2) : num l < 65536 := by
  have h1 := num_lt l
  have h2 : 256 ^ l.length ≤ 256 ^ 2 := Nat.pow_le_pow_right (by decide) h
  omega
theorem takes (BD : List UInt8) : ∃ y1 y2 y3 y4 y5 y6 d1 d4 d5 n2 n3 n6, Takes BD y1 y2 y3 y4 y5 y6 d1 d4 d5 n2 n3 n6 :=
  ⟨(q1 BD).1, (q2 BD).1, (q3 BD).1, (q4 BD).1, (q5 BD).1, (q6 BD).1, (q1 BD).2, (q4 BD).2, (q5 BD).2, num (q2 BD).2, num (q3 BD).2, num (q6 BD).2,
    ⟨fun wx => refText_any (BD, 0) 4 wx, fun wx => refNumber_any (q1 BD).1 1 1 wx rfl, fun wx => refNumber_any (q2 BD).1 2 2 wx rfl, fun wx => refText_any (q3 BD).1 32 wx, fun wx => refText_any (q4 BD).1 32 wx, fun wx => refNumber_any (q5 BD).1 2 2 wx rfl,
      first_bad BD, second_bad BD, rest_is BD, num2_le _ (rdT_len _ _), num2_le _ (rdT_len _ _)⟩⟩
set_option maxRecDepth 100000 in
set_option maxHeartbeats 8000000 in
theorem refParse_any (t : List UInt8) (w : World) (ht : t.length < 1000000) :
    Calls Tryd.prog 18 #[.string ⟨t.toArray⟩] w fun e w' => RPost t w e w' := by
  obtain ⟨i0, hi, hz0, hz1, hz2⟩ := info_parts infoRI
  have HI0 := Lib.hid hi
  have HI1 := Lib.hid hz0
  have HI2 := Lib.hid hz1
  have HI3 := Lib.hid hz2
  have HTl := Lib.hid ht
  have hr0 : (w.alloc (.cells rf0 32)).heap[w.heap.size]? = some (.cells rf0 32) := heap_alloc_new _ _
  have hb0 : Below w.heap.size w (w.alloc (.cells rf0 32)) := (Below.refl _ w).alloc (Nat.le_refl _) _
  obtain ⟨W, hW⟩ : ∃ W, w.alloc (.cells rf0 32) = W := ⟨_, rfl⟩
  rw [hW] at hr0 hb0
  have HR0 := Lib.hid hr0
  have HB0 := Lib.hid hb0
  have HWe := Lib.hid hW
  obtain ⟨r0, r1, r2, r3, rz⟩ := four hr0
  obtain ⟨D, hD⟩ : ∃ D : ByteArray, ⟨t.toArray⟩ = D := ⟨_, rfl⟩
  have hDs : D.size = t.length := by rw [← hD, ba_size]
  rw [hD]
  clear hi hz0 hz1 hz2 ht hr0 hb0 hW
  by_cases h4 : t.length < 4
  · have hP : allP t = .error 2 := by unfold allP; rw [if_pos h4]
    have HP := Lib.hid hP
    have i0' : (D.size : Int) < 4 := by omega
    obtain ⟨k1, k2⟩ := res_set HB0.out HR0.out (.int .i64 0) (.string ⟨#[]⟩) (.string ⟨#[]⟩) (.slice none 0 0)
    obtain ⟨f0, f1, f2, f3, _⟩ := four k2
    have HK := Lib.hid k1
    clear hP h4 hD hDs k1 k2
    go_enter Tryd.func18, Tryd.ntmps18
    go_upto_region 1 with fail
    rw [HWe.out]
    go_wp2_with fail
    refine bodyPost_ret (v := .tuple #[.agg rf0, .int .i64 2]) ?_ rfl (rp_err HK.out HP.out (by decide))
    simp [results, Tryd.results18, go_sem, f0, f1, f2, f3]
  · obtain ⟨m, hm⟩ : ∃ m, t.length - 4 = m := ⟨_, rfl⟩
    have i0' : ¬ (D.size : Int) < 4 := by omega
    have m1 : IntKind.i64.wrap ((D.size : Int) - 4) = (m : Int) := by rw [IntWalk.i64_in _ (by have := HTl.out; omega)]; omega
    have m1' : wrap64 ((D.size : Int) - 4) = (m : Int) := by have := HTl.out; unfold wrap64; omega
    have k0 : (m : Int) ≤ (D.size : Int) := by omega
    have k1 : m ≤ D.size := by omega
    have hml : (t.take m).length = m := by rw [List.length_take]; omega
    obtain ⟨A, hA⟩ : ∃ A : ByteArray, D.extract 0 m = A := ⟨_, rfl⟩
    have hAl : A = ⟨(t.take m).toArray⟩ := by rw [← hA, ← hD, ba_take]
    have hAs : A.size = m := by rw [hAl, ba_size]; exact hml
    obtain ⟨E, hE⟩ : ∃ E : ByteArray, D.extract m D.size = E := ⟨_, rfl⟩
    have hEl : E = ⟨(t.drop m).toArray⟩ := by rw [← hE, ← hD, ba_drop]
    have hOp : openE t = if num (t.drop m) ≠ C.Crc.sum (t.take m) then some 11 else none := by unfold openE; rw [if_neg h4, hm]
    have HOp := Lib.hid hOp
    have HM := Lib.hid hm
    have HAe := Lib.hid hA
    have HEe := Lib.hid hE
    have HAl := Lib.hid hAl
    have hsum := C.ref_any A W.drew (by rw [hAs]; have := HTl.out; unfold maxLen; omega)
    rw [show A.data.toList = t.take m by rw [hAl]] at hsum
    obtain ⟨BD, hBD⟩ : ∃ BD, t.take m = BD := ⟨_, rfl⟩
    rw [hBD] at hsum HOp hAl HAl
    have hlt := crc_lt BD
    obtain ⟨K, hK⟩ : ∃ K, C.Crc.sum BD = K := ⟨_, rfl⟩
    rw [hK] at hsum HOp hlt
    have u3 := u32_as_u64 K hlt
    have HSum := Lib.hid hsum
    have HNum := Lib.hid (fun wx => refNum_any K 4 wx (by omega))
    have hdl : (t.drop m).length = 4 := by rw [List.length_drop]; omega
    have hsame : (enc K 4 = t.drop m) ↔ num (t.drop m) = K := by
      constructor
      · intro h
        rw [← h, num_enc, Nat.mod_eq_of_lt (by omega)]
      · intro h
        rw [← h, enc_num _ 4 hdl]
    have HSame := Lib.hid hsame
    have HBD := Lib.hid hBD
    have hEt : E.toList = t.drop m := by rw [ByteArray.toList_eq, hEl]
    have hAs2 : (A.size : Int) = (m : Int) := by omega
    have HDs := Lib.hid hDs
    clear hD hml hE hEl hOp hsum hBD hK hlt hdl hsame hm h4 hA hAl hAs hDs
    go_enter Tryd.func18, Tryd.ntmps18
    go_upto_region 1 with fail
    rw [HWe.out]
    go_upto_region 4 with fail
    rw [HAe.out]
    by_cases hc : num (t.drop m) = K
    · have hP : openE t = none := by rw [HOp.out, if_neg (by simpa using hc)]
      have HP := Lib.hid hP
      have hne : (enc K (wid 4) == (D.extract m D.size).toList) = true := by
        rw [HEe.out, hEt]
        show (enc K 4 == t.drop m) = true
        rw [HSame.out.2 hc]
        simp
      clear hP hc hEt
      go_region_with (first
        | (refine HSum.out.mono ?_; rintro e w1 ⟨rfl, rfl⟩)
        | (refine (HNum.out _).mono ?_; rintro e w2 ⟨rfl, hb2⟩))
      have HB2 := Lib.hid (HB0.out.trans (Below.mono (B' := w.heap.size) (undrew hb2) HB0.out.size))
      have hr2 : w2.heap[w.heap.size]? = some (.cells rf0 32) := by rw [hb2.block _ (blk_lt HR0.out)]; exact HR0.out
      have HR2 := Lib.hid hr2
      clear hb2 hr2 r0 r1 r2 r3 rz HNum HSum
      have HPa : Hid (allP t = match bodyP BD with
        | .error e => .error e
        | .ok s => if chk s = 0 then .ok s else .error (chk s)) := Lib.hid (by rw [allP_open, HP.out, HM.out, HBD.out]; rfl)
      go_upto_region 6 with fail
      clear hne
      rw [HAl.out]
      obtain ⟨y1, y2, y3, y4, y5, y6, d1, d4, d5, n2, n3, n6, T⟩ := takes BD
      have HT := Lib.hid T
      clear T
      go_wp2_with fail
      refine (HT.out.t1 _).mono ?_
      rintro e w3 ⟨rfl, hb3⟩
      have H3 : Hid (RQ w w3.heap.size y1 (w3.alloc (.cells (inL y1) 70))) := Lib.hid (by
        have hb := HB2.out.trans (hb3.mono HB2.out.size)
        have hr : w3.heap[w.heap.size]? = some (.cells rf0 32) := by rw [hb3.block _ (blk_lt HR2.out)]; exact HR2.out
        exact ⟨hb.alloc hb.size _, by rw [Below.heap_alloc _ _ _ (blk_lt hr)]; exact hr, heap_alloc_new _ _, blk_lt hr⟩)
      clear hb3 HB2 HR2
      go_upto_region 7 with fail
      obtain ⟨W3, hW3⟩ : ∃ W3, w3.alloc (.cells (inL y1) 70) = W3 := ⟨_, rfl⟩
      obtain ⟨X, hX⟩ : ∃ X, w3.heap.size = X := ⟨_, rfl⟩
      rw [hW3, hX] at H3
      have hW3' : w3.alloc (.cells #[.string ⟨y1.1.toArray⟩, .int .i64 y1.2] 70) = W3 := hW3
      rw [hW3', hX]
      clear hW3 hW3' hX
      obtain ⟨x0, x1, xz⟩ := two' H3.out.xb
      obtain ⟨r0, r1, r2, r3, rz⟩ := four H3.out.res
      obtain ⟨z1, hz1⟩ : ∃ z1, decide (y1.2 = 0 ∧ d1 ≠ markB) = z1 := ⟨_, rfl⟩
      have HZ1 := Lib.hid hz1
      clear hz1
      go_cut [49] (fun s49 wx => W3 = wx ∧ s49 = .bool z1)
      case first =>
        clear r0 r1 r2 r3 rz
        by_cases he : y1.2 = 0
        · by_cases hd : d1 = markB
          · have hz : z1 = false := by rw [← HZ1.out]; exact decide_eq_false (fun q => q.2 hd)
            have HZ := Lib.hid hz
            have e0 : (y1.2 == 0) = true := by simpa using he
            have e1 : (d1 == [83, 66, 68, 70]) = true := by rw [hd]; decide
            clear hz hd he
            go_wp2_with fail
            go_meet
            exact ⟨rfl, by rw [HZ.out]⟩
          · have hz : z1 = true := by rw [← HZ1.out]; exact decide_eq_true ⟨he, hd⟩
            have HZ := Lib.hid hz
            have e0 : (y1.2 == 0) = true := by simpa using he
            have e1 : (d1 == [83, 66, 68, 70]) = false := by
              have : ¬ d1 = [83, 66, 68, 70] := hd
              simpa using this
            clear hz hd he
            go_wp2_with fail
            go_meet
            exact ⟨rfl, by rw [HZ.out]⟩
        · have hz : z1 = false := by rw [← HZ1.out]; exact decide_eq_false (fun q => he q.1)
          have HZ := Lib.hid hz
          have e0 : (y1.2 == 0) = false := by simpa using he
          clear hz he
          go_wp2_with fail
          go_meet
          exact ⟨rfl, by rw [HZ.out]⟩
      case rest =>
        obtain ⟨rfl, rfl⟩ := hcut
        cases z1
        · have HC1 : Hid (¬ (y1.2 = 0 ∧ d1 ≠ markB)) := Lib.hid (of_decide_eq_false HZ1.out)
          clear HZ1 r0 r1 r2 r3 rz
          go_wp2_with fail
          refine (HT.out.t2 _).mono ?_
          rintro e w4 ⟨rfl, hb4⟩
          have H4' := Lib.hid (H3.out.step hb4)
          clear hb4 H3 x0 x1 xz
          obtain ⟨x0, x1, xz⟩ := two' H4'.out.xb
          have H4 := Lib.hid (H4'.out.set y2)
          clear H4'
          go_upto_region 10 with fail
          generalize (w4.setCell ⟨X, 0, none⟩ (.string ⟨y2.1.toArray⟩)).setCell ⟨X, 1, none⟩ (.int .i64 y2.2) = W4 at *
          clear x0 x1 xz
          obtain ⟨x0, x1, xz⟩ := two' H4.out.xb
          obtain ⟨z2, hz2⟩ : ∃ z2, decide (y2.2 = 0 ∧ n2 ≠ 1) = z2 := ⟨_, rfl⟩
          have HZ2 := Lib.hid hz2
          clear hz2
          go_cut [62] (fun s62 wx => W4 = wx ∧ s62 = .bool z2)
          case first =>
            by_cases he : y2.2 = 0
            · have e0 : (y2.2 == 0) = true := by simpa using he
              by_cases hd : n2 = 1
              · have hz : z2 = false := by rw [← HZ2.out]; exact decide_eq_false (fun q => q.2 hd)
                have HZ := Lib.hid hz
                subst hd
                clear hz he
                go_wp2_with fail
                go_meet
                exact ⟨rfl, by rw [HZ.out]⟩
              · have hz : z2 = true := by rw [← HZ2.out]; exact decide_eq_true ⟨he, hd⟩
                have HZ := Lib.hid hz
                have e1 : (((n2 : Nat) : Int) != 1) = true := by
                  have : ((n2 : Nat) : Int) ≠ 1 := by omega
                  simpa using this
                clear hz hd he
                go_wp2_with fail
                go_meet
                exact ⟨rfl, by rw [HZ.out]⟩
            · have hz : z2 = false := by rw [← HZ2.out]; exact decide_eq_false (fun q => he q.1)
              have HZ := Lib.hid hz
              have e0 : (y2.2 == 0) = false := by simpa using he
              clear hz he
              go_wp2_with fail
              go_meet
              exact ⟨rfl, by rw [HZ.out]⟩
          case rest =>
            obtain ⟨rfl, rfl⟩ := hcut
            cases z2
            · have HC2 : Hid (¬ (y2.2 = 0 ∧ n2 ≠ 1)) := Lib.hid (of_decide_eq_false HZ2.out)
              have HRest := Lib.hid (HT.out.rest HC1.out HC2.out)
              obtain ⟨G, hG⟩ : ∃ G, rLoop n6 y6 [] = G := ⟨_, rfl⟩
              rw [hG] at HRest
              have HGn := Lib.hid hG
              have h5 : RS w X W4.heap.size y2 0 ⟨#[]⟩ ⟨#[]⟩ (.slice none 0 0) [] (W4.alloc (.cells rf0 32)) := ⟨H4.out.step ((Below.refl _ _).alloc (Nat.le_refl _) _), heap_alloc_new _ _, ⟨rfl, Or.inl ⟨rfl, rfl⟩⟩, blk_lt H4.out.xb⟩
              have H5 := Lib.hid h5
              clear HZ2 hG h5 H4 x0 x1 xz
              go_upto_region 13 with fail
              obtain ⟨S, hS⟩ : ∃ S, W4.heap.size = S := ⟨_, rfl⟩
              obtain ⟨W5, hW5⟩ : ∃ W5, W4.alloc (.cells rf0 32) = W5 := ⟨_, rfl⟩
              have hW5' : W4.alloc (.cells #[.int .i64 0, .string ⟨#[]⟩, .string ⟨#[]⟩, .slice none 0 0] 32) = W5 := hW5
              rw [hW5, hS] at H5
              rw [hW5', hS]
              clear hW5 hW5' hS
              obtain ⟨x0, x1, xz⟩ := two' H5.out.q.xb
              go_wp2_with fail
              refine (HT.out.t3 _).mono ?_
              rintro e w6 ⟨rfl, hb6⟩
              have H6' := Lib.hid (H5.out.step hb6)
              clear hb6 H5 x0 x1 xz
              obtain ⟨x0, x1, xz⟩ := two' H6'.out.q.xb
              have H6 := Lib.hid (H6'.out.set y3)
              clear H6'
              go_upto_region 14 with fail
              generalize (w6.setCell ⟨X, 0, none⟩ (.string ⟨y3.1.toArray⟩)).setCell ⟨X, 1, none⟩ (.int .i64 y3.2) = W6 at *
              clear x0 x1 xz
              obtain ⟨s0, s1, s2, s3, sz⟩ := four H6.out.sb
              have u1 := i64_small n3 HT.out.n3lt
              have H7 := Lib.hid (H6.out.poke 0 (.int .i64 (n3 : Int)) rfl)
              clear H6
              go_upto_region 15 with fail
              generalize W6.setCell ⟨S, 0, none⟩ (.int .i64 (n3 : Int)) = W7 at *
              clear s0 s1 s2 s3 sz
              obtain ⟨x0, x1, xz⟩ := two' H7.out.q.xb
              go_wp2_with fail
              refine (HT.out.t4 _).mono ?_
              rintro e w8 ⟨rfl, hb8⟩
              have H8' := Lib.hid (H7.out.step hb8)
              clear hb8 H7 x0 x1 xz
              obtain ⟨x0, x1, xz⟩ := two' H8'.out.q.xb
              have h8 := H8'.out.set y4
              obtain ⟨s0, s1, s2, s3, sz⟩ := four h8.sb
              have H8 := Lib.hid (h8.poke 1 (.string ⟨d4.toArray⟩) rfl)
              clear H8' h8
              go_upto_region 16 with fail
              generalize ((w8.setCell ⟨X, 0, none⟩ (.string ⟨y4.1.toArray⟩)).setCell ⟨X, 1, none⟩ (.int .i64 y4.2)).setCell ⟨S, 1, none⟩ (.string ⟨d4.toArray⟩) = W8 at *
              clear s0 s1 s2 s3 sz x0 x1 xz
              obtain ⟨x0, x1, xz⟩ := two' H8.out.q.xb
              go_wp2_with fail
              refine (HT.out.t5 _).mono ?_
              rintro e w9 ⟨rfl, hb9⟩
              have H9' := Lib.hid (H8.out.step hb9)
              clear hb9 H8 x0 x1 xz
              obtain ⟨x0, x1, xz⟩ := two' H9'.out.q.xb
              have h9 := H9'.out.set y5
              obtain ⟨s0, s1, s2, s3, sz⟩ := four h9.sb
              have H9 := Lib.hid (h9.poke 2 (.string ⟨d5.toArray⟩) rfl)
              clear H9' h9
              go_upto_region 17 with fail
              generalize ((w9.setCell ⟨X, 0, none⟩ (.string ⟨y5.1.toArray⟩)).setCell ⟨X, 1, none⟩ (.int .i64 y5.2)).setCell ⟨S, 2, none⟩ (.string ⟨d5.toArray⟩) = W9 at *
              clear s0 s1 s2 s3 sz x0 x1 xz
              obtain ⟨x0, x1, xz⟩ := two' H9.out.q.xb
              go_wp2_with fail
              refine (HT.out.t6 _).mono ?_
              rintro e w10 ⟨rfl, hb10⟩
              have H10' := Lib.hid (H9.out.step hb10)
              clear hb10 H9 x0 x1 xz
              obtain ⟨x0, x1, xz⟩ := two' H10'.out.q.xb
              have H10 := Lib.hid (H10'.out.set y6)
              clear H10'
              have hn6 := HT.out.n6lt
              have HN6 := Lib.hid hn6
              go_upto_region 18 with fail
              generalize (w10.setCell ⟨X, 0, none⟩ (.string ⟨y6.1.toArray⟩)).setCell ⟨X, 1, none⟩ (.int .i64 y6.2) = W10 at *
              clear x0 x1 xz hn6 u1
              obtain ⟨B4, hB4⟩ : ∃ B4 : ByteArray, ⟨d4.toArray⟩ = B4 := ⟨_, rfl⟩
              obtain ⟨B5, hB5⟩ : ∃ B5 : ByteArray, ⟨d5.toArray⟩ = B5 := ⟨_, rfl⟩
              rw [hB4, hB5] at H10
              have HB4 := Lib.hid hB4
              have HB5 := Lib.hid hB5
              clear hB4 hB5
              have hnI : (n6 : Int) < 65536 := by have := HN6.out; omega
              go_upto_block 0 with fail
              go_cut [] (fun wx => ∃ x v acc, RS w X S x (n3 : Int) B4 B5 v acc wx ∧ G = some (x, acc) ∧ acc.length ≤ 65536)
              case first =>
                go_wp2_with fail
                go_loopw [11] (fun i wx => ∃ (k : Nat) (x : RX) (v : Value) (acc : List It), k ≤ n6 ∧ i = .int .u64 (k : Int) ∧ acc.length = k ∧ rLoop (n6 - k) x acc = G ∧ RS w X S x (n3 : Int) B4 B5 v acc wx) (fun i _ => n6 - (intOf i).toNat)
                case atStart => exact ⟨0, y6, .slice none 0 0, [], by omega, rfl, rfl, HGn.out, H10.out⟩
                case round =>
                  clear H10
                  obtain ⟨k, x, v, acc, hk, rfl, hacc, hl, hs⟩ := hrel
                  have HS := Lib.hid hs
                  have HAc := Lib.hid hacc
                  have HLp := Lib.hid hl
                  obtain ⟨x0, x1, xz⟩ := two' hs.q.xb
                  clear hs hacc hl
                  by_cases hlt : k < n6
                  · have i1 : (k : Int) < (n6 : Int) := by omega
                    by_cases he : x.2 = 0
                    · have e0 : (x.2 == 0) = true := by simpa using he
                      have HE := Lib.hid he
                      have hLp := HLp.out
                      rw [show n6 - k = (n6 - (k + 1)) + 1 by omega] at hLp
                      unfold rLoop at hLp
                      rw [if_neg (Decidable.not_not.2 he)] at hLp
                      have HN1 := Lib.hid (fun wx => refNumber_any x 2 2 wx rfl)
                      have hal := num2_le _ (rdT_len x 2)
                      obtain ⟨y, hy⟩ : ∃ y, (rdT x 2).1 = y := ⟨_, rfl⟩
                      obtain ⟨a, ha⟩ : ∃ a, num (rdT x 2).2 = a := ⟨_, rfl⟩
                      rw [hy, ha] at HN1
                      rw [hy, ha] at hLp
                      rw [ha] at hal
                      have u2 := i64_small a hal
                      have HN2 := Lib.hid (fun wx => refNumber_any y 1 1 wx rfl)
                      obtain ⟨z, hz⟩ : ∃ z, (rdT y 1).1 = z := ⟨_, rfl⟩
                      obtain ⟨b, hb⟩ : ∃ b, num (rdT y 1).2 = b := ⟨_, rfl⟩
                      rw [hz, hb] at HN2
                      rw [hz, hb] at hLp
                      have HT3 := Lib.hid (fun wx => refText_any z 256 wx)
                      obtain ⟨z3, hz3⟩ : ∃ z3, (rdT z 256).1 = z3 := ⟨_, rfl⟩
                      obtain ⟨dd, hdd⟩ : ∃ dd, (rdT z 256).2 = dd := ⟨_, rfl⟩
                      rw [hz3, hdd] at HT3
                      rw [hz3, hdd] at hLp
                      have HLn := Lib.hid hLp
                      unfold inX inOf at HN1 HN2 HT3
                      have hlo := HS.out.row.lt
                      have HLo := Lib.hid hlo
                      clear he hLp hy ha hz hb hz3 hdd hal hlo
                      go_upto_region 21 with fail
                      go_wp2_with fail
                      refine (HN1.out _).mono ?_
                      rintro e w11 ⟨rfl, hb11⟩
                      have H11 := Lib.hid (HS.out.step hb11)
                      have H12 := Lib.hid (H11.out.step ((Below.refl _ w11).alloc (Nat.le_refl _) (.cells (inL y) 70)))
                      have hY : (w11.alloc (.cells (inL y) 70)).heap[w11.heap.size]? = some (.cells (inL y) 70) := heap_alloc_new _ _
                      have hsz := hb11.size
                      have HSz := Lib.hid hsz
                      clear hb11 x0 x1 xz H11 hsz
                      go_upto_region 22 with fail
                      obtain ⟨W12, hW12⟩ : ∃ W12, w11.alloc (.cells (inL y) 70) = W12 := ⟨_, rfl⟩
                      rw [hW12] at H12 hY
                      have hW12' : w11.alloc (.cells #[.string ⟨y.1.toArray⟩, .int .i64 y.2] 70) = W12 := hW12
                      rw [hW12']
                      obtain ⟨p0, p1, pz⟩ := two' hY
                      clear hW12 hW12'
                      go_wp2_with fail
                      refine (HN2.out _).mono ?_
                      rintro e w13 ⟨rfl, hb13⟩
                      have H13 := Lib.hid (H12.out.step hb13)
                      have hs13 : w11.heap.size < w13.heap.size := Nat.lt_of_lt_of_le (blk_lt hY) hb13.size
                      have H14 := Lib.hid (H13.out.step ((Below.refl _ w13).alloc (Nat.le_refl _) (.cells (inL z) 70)))
                      have hZ : (w13.alloc (.cells (inL z) 70)).heap[w13.heap.size]? = some (.cells (inL z) 70) := heap_alloc_new _ _
                      have HS13 := Lib.hid hs13
                      clear hb13 p0 p1 pz hY H12 H13 hs13
                      go_upto_region 23 with fail
                      obtain ⟨W14, hW14⟩ : ∃ W14, w13.alloc (.cells (inL z) 70) = W14 := ⟨_, rfl⟩
                      rw [hW14] at H14 hZ
                      have hW14' : w13.alloc (.cells #[.string ⟨z.1.toArray⟩, .int .i64 z.2] 70) = W14 := hW14
                      rw [hW14']
                      have HZs : Hid (w13.heap.size < W14.heap.size) := Lib.hid (blk_lt hZ)
                      have H15 := Lib.hid (H14.out.step ((Below.refl _ W14).alloc (Nat.le_refl _) (.cells #[.int .i64 (a : Int), .string ⟨#[]⟩] 55)))
                      have hI : (W14.alloc (.cells #[.int .i64 (a : Int), .string ⟨#[]⟩] 55)).heap[W14.heap.size]? = some (.cells #[.int .i64 (a : Int), .string ⟨#[]⟩] 55) := heap_alloc_new _ _
                      have hZ' : (W14.alloc (.cells #[.int .i64 (a : Int), .string ⟨#[]⟩] 55)).heap[w13.heap.size]? = some (.cells (inL z) 70) := by rw [Below.heap_alloc _ _ _ (blk_lt hZ)]; exact hZ
                      have HIz := Lib.hid (And.intro hI hZ')
                      clear hW14 hW14' hZ hI hZ' H14
                      go_upto_region 24 with fail
                      generalize hW15 : W14.alloc (.cells #[.int .i64 (a : Int), .string ⟨#[]⟩] 55) = W15 at *
                      clear hW15
                      obtain ⟨q0, q1, qz⟩ := two' HIz.out.2
                      obtain ⟨j0, j1, jz⟩ := two' HIz.out.1
                      have HXI : Hid (X < S ∧ S < wr.heap.size ∧ wr.heap.size ≤ w11.heap.size ∧ w11.heap.size < w13.heap.size ∧ w13.heap.size < W14.heap.size) := Lib.hid ⟨HS.out.lt, blk_lt HS.out.sb, HSz.out, HS13.out, HZs.out⟩
                      have hk9 : (k : Int) < 65536 := by have := HN6.out; omega
                      by_cases hbad : z.2 = 0 ∧ 1 < b
                      · have hG : G = none := by rw [← HLn.out, if_pos hbad]
                        have HPe : Hid (allP t = .error 1) := Lib.hid (by
                          have h := HRest.out
                          rw [hG] at h
                          rw [HPa.out, h])
                        have e1 : (z.2 == 0) = true := by simpa using hbad.1
                        have i2 : (1 : Int) < (b : Int) := by omega
                        obtain ⟨r0, r1, r2, r3, rz⟩ := four H15.out.q.res
                        obtain ⟨k1, k2⟩ := res_set H15.out.q.below H15.out.q.res (.int .i64 0) (.string ⟨#[]⟩) (.string ⟨#[]⟩) (.slice none 0 0)
                        obtain ⟨f0, f1, f2, f3, _⟩ := four k2
                        have HK := Lib.hid k1
                        clear hG hbad k1 k2 j0 j1 jz
                        go_wp2_with fail
                        refine bodyPost_ret (v := .tuple #[.agg rf0, .int .i64 1]) ?_ rfl (rp_err HK.out HPe.out (by decide))
                        simp [results, Tryd.results18, go_sem, f0, f1, f2, f3]
                      · have hLn := HLn.out
                        rw [if_neg hbad] at hLn
                        obtain ⟨c24, hc24⟩ : ∃ c24, decide (z.2 = 0 ∧ 1 < b) = c24 := ⟨_, rfl⟩
                        by_cases hb1 : b = 1
                        · subst hb1
                          rw [if_pos rfl] at hLn
                          have HLm := Lib.hid hLn
                          clear hLn hbad hc24
                          have i2 : decide ((1 : Int) < ((1 : Nat) : Int)) = false := by decide
                          have HQI := HIz
                          clear j0 j1 jz
                          by_cases hz2 : z.2 = 0
                          · have e1 : (z.2 == 0) = true := by simpa using hz2
                            clear hz2
                            go_upto_region 27 with fail
                            clear e1
                            go_wp2_with fail
                            refine (HT3.out _).mono ?_
                            rintro e w16 ⟨rfl, hb16⟩
                            have h16 := H15.out.step hb16
                            have hq16 : w16.heap[w13.heap.size]? = some (.cells (inL z) 70) := by rw [hb16.block _ (blk_lt HQI.out.2)]; exact HQI.out.2
                            have hi16 : w16.heap[W14.heap.size]? = some (.cells #[.int .i64 (a : Int), .string ⟨#[]⟩] 55) := by rw [hb16.block _ (blk_lt HQI.out.1)]; exact HQI.out.1
                            clear q0 q1 qz
                            obtain ⟨q0, q1, qz⟩ := two' hq16
                            obtain ⟨j0, j1, jz⟩ := two' hi16
                            obtain ⟨DD, hDD⟩ : ∃ DD : ByteArray, ⟨dd.toArray⟩ = DD := ⟨_, rfl⟩
                            rw [hDD]
                            have hfar : ∀ g, v.ownBlock = some g → g < wr.heap.size := fun g hg => (HLo.out g hg).2
                            have hx := HXI.out
                            have h17 := ((h16.far w13.heap.size 0 (.string ⟨z3.1.toArray⟩) (by omega) (fun g hg => by have := hfar g hg; omega)).far w13.heap.size 1 (.int .i64 z3.2) (by omega) (fun g hg => by have := hfar g hg; omega)).far W14.heap.size 1 (.string DD) (by omega) (fun g hg => by have := hfar g hg; omega)
                            have hq17 : (((w16.setCell ⟨w13.heap.size, 0, none⟩ (.string ⟨z3.1.toArray⟩)).setCell ⟨w13.heap.size, 1, none⟩ (.int .i64 z3.2)).setCell ⟨W14.heap.size, 1, none⟩ (.string DD)).heap[w13.heap.size]? = some (.cells (inL z3) 70) := by
                              rw [Below.heap_setCell _ _ _ _ (by show w13.heap.size ≠ W14.heap.size; omega)]
                              exact blk_set (k := 1) (v := .int .i64 z3.2) (blk_set (k := 0) (v := .string ⟨z3.1.toArray⟩) hq16)
                            have hi17 : (((w16.setCell ⟨w13.heap.size, 0, none⟩ (.string ⟨z3.1.toArray⟩)).setCell ⟨w13.heap.size, 1, none⟩ (.int .i64 z3.2)).setCell ⟨W14.heap.size, 1, none⟩ (.string DD)).heap[W14.heap.size]? = some (.cells #[.int .i64 (a : Int), .string DD] 55) := by
                              refine blk_set (k := 1) (v := .string DD) (C := #[.int .i64 (a : Int), .string ⟨#[]⟩]) ?_
                              rw [Below.heap_setCell _ _ _ _ (by show W14.heap.size ≠ w13.heap.size; omega), Below.heap_setCell _ _ _ _ (by show W14.heap.size ≠ w13.heap.size; omega)]
                              exact hi16
                            have H17 := Lib.hid h17
                            have HQb := Lib.hid hq17
                            have HIb := Lib.hid hi17
                            have j1' : ((w16.setCell ⟨w13.heap.size, 0, none⟩ (.string ⟨z3.1.toArray⟩)).setCell ⟨w13.heap.size, 1, none⟩ (.int .i64 z3.2)).cell? ⟨W14.heap.size, 1, none⟩ = some (.string ⟨#[]⟩) := by
                              rw [World.cell?_of_block (w := w16) (by rw [Below.heap_setCell _ _ _ _ (by show W14.heap.size ≠ w13.heap.size; omega), Below.heap_setCell _ _ _ _ (by show W14.heap.size ≠ w13.heap.size; omega)])]
                              exact j1
                            clear hb16 h16 hq16 hi16 hfar hx h17 hq17 hi17 H15 HQI j0 j1
                            go_upto_region 28 with fail
                            generalize ((w16.setCell ⟨w13.heap.size, 0, none⟩ (.string ⟨z3.1.toArray⟩)).setCell ⟨w13.heap.size, 1, none⟩ (.int .i64 z3.2)).setCell ⟨W14.heap.size, 1, none⟩ (.string DD) = W17 at *
                            clear q0 q1 qz j1' jz
                            subst hDD

                            obtain ⟨q0, q1, qz⟩ := two' HQb.out
                            obtain ⟨x0, x1, xz⟩ := two' H17.out.q.xb
                            have h18 := H17.out.set z3
                            have hI18 : ((W17.setCell ⟨X, 0, none⟩ (.string ⟨z3.1.toArray⟩)).setCell ⟨X, 1, none⟩ (.int .i64 z3.2)).heap[W14.heap.size]? = some (.cells #[.int .i64 (a : Int), .string ⟨dd.toArray⟩] 55) := by
                              have h1 := H17.out.lt
                              have h2 := HXI.out
                              rw [Below.heap_setCell _ _ _ _ (by show W14.heap.size ≠ X; omega), Below.heap_setCell _ _ _ _ (by show W14.heap.size ≠ X; omega)]
                              exact HIb.out
                            have H18 := Lib.hid h18
                            have HI18 := Lib.hid hI18
                            clear h18 hI18 H17
                            go_upto_region 29 with fail
                            generalize (W17.setCell ⟨X, 0, none⟩ (.string ⟨z3.1.toArray⟩)).setCell ⟨X, 1, none⟩ (.int .i64 z3.2) = W18 at *
                            clear q0 q1 qz x0 x1 xz
                            obtain ⟨i0'', i1'', _⟩ := two' HI18.out
                            obtain ⟨s0, s1, s2, s3, sz⟩ := four H18.out.sb
                            have H19 := Lib.hid (H18.out.step ((Below.refl _ W18).alloc (Nat.le_refl _) (.cells #[.int .i64 (a : Int), .string ⟨dd.toArray⟩] 55)))
                            have HOw : Hid ((W18.alloc (.cells #[.int .i64 (a : Int), .string ⟨dd.toArray⟩] 55)).ownsRow (S + 1) 55 2 v k (itCells acc)) := Lib.hid (by have := H19.out.row; rw [HAc.out] at this; exact this)
                            have HNw : Hid (∀ j u, [Value.int .i64 (a : Int), .string ⟨dd.toArray⟩][j]? = some u → (W18.alloc (.cells #[.int .i64 (a : Int), .string ⟨dd.toArray⟩] 55)).cell? ((⟨W18.heap.size, 0, none⟩ : Addr).add j) = some u) := Lib.hid (by
                              intro j u hu
                              rw [Addr.add_mid, Nat.zero_add, World.cell?_alloc_new, ← hu]
                              simp)
                            have HOn : Hid (∀ u ∈ [Value.int .i64 (a : Int), .string ⟨dd.toArray⟩], u.oneCell' = true) := Lib.hid (by
                              intro u hu
                              simp at hu
                              rcases hu with rfl | rfl <;> rfl)
                            have HLk : Hid (k + 1 ≤ 65536) := Lib.hid (by have := HN6.out; omega)
                            have HSz2 : Hid (S + 1 ≤ (W18.alloc (.cells #[.int .i64 (a : Int), .string ⟨dd.toArray⟩] 55)).heap.size) := Lib.hid (blk_lt H19.out.sb)
                            have hl13 : (acc ++ [(⟨(a : Int), dd⟩ : It)]).length = k + 1 := by rw [List.length_append, HAc.out]; rfl
                            have HL13 := Lib.hid hl13
                            have HNext : Hid (∀ v2 w1, w1.ownsRow (S + 1) 55 2 v2 (k + 1) (itCells acc ++ [.int .i64 (a : Int), .string ⟨dd.toArray⟩]) → (W18.alloc (.cells #[.int .i64 (a : Int), .string ⟨dd.toArray⟩] 55)).grownBy w1 v.ownBlock → (w1.cell? ⟨S, 3, none⟩ = some v ∧ w1.frozen? ⟨S, 3, none⟩ = false) ∧ RS w X S z3 (n3 : Int) B4 B5 v2 (acc ++ [(⟨(a : Int), dd⟩ : It)]) (w1.setCell ⟨S, 3, none⟩ v2)) := Lib.hid (by
                              intro v2 w1 h1 hg
                              exact H19.out.rowTo hg (by rw [HL13.out, itCells_snoc]; exact h1))
                            clear hl13 H18
                            go_wp2_with (at_builtin; refine wpList_append_lies _ rfl _ _ 30 rfl (S + 1) 55 i0 (.agg #[.int .i64 0, .string ⟨#[]⟩]) 2 24 Tryd.underlying30 HI0.out HI1.out HI2.out HI3.out rfl (by decide) v k (itCells acc) rfl HOw.out ⟨W18.heap.size, 0, none⟩ 1 1 [.int .i64 (a : Int), .string ⟨dd.toArray⟩] rfl rfl HNw.out HOn.out (by decide) (by have := HLk.out; unfold maxLen; omega) (by have := HLk.out; omega) HSz2.out _ rfl ?_)
                            intro g1 cap1 w19 hs1 hg1 _ _
                            obtain ⟨⟨n1', n2'⟩, n3'⟩ := HNext.out _ _ hs1 hg1
                            have HN3 := Lib.hid n3'
                            clear hs1 hg1 n3' HNext HOw HNw s0 s1 s2 s3 sz i0'' i1''
                            go_wp2_with fail
                            go_roundw
                            case rel => exact ⟨k + 1, z3, _, acc ++ [(⟨(a : Int), dd⟩ : It)], by omega, by go_num, HL13.out, HLm.out, HN3.out⟩
                            case measure => simp [intOf]; omega
                          · have e1 : (z.2 == 0) = false := by simpa using hz2
                            clear hz2
                            go_upto_region 27 with fail
                            clear e1
                            go_wp2_with fail
                            refine (HT3.out _).mono ?_
                            rintro e w16 ⟨rfl, hb16⟩
                            have h16 := H15.out.step hb16
                            have hq16 : w16.heap[w13.heap.size]? = some (.cells (inL z) 70) := by rw [hb16.block _ (blk_lt HQI.out.2)]; exact HQI.out.2
                            have hi16 : w16.heap[W14.heap.size]? = some (.cells #[.int .i64 (a : Int), .string ⟨#[]⟩] 55) := by rw [hb16.block _ (blk_lt HQI.out.1)]; exact HQI.out.1
                            clear q0 q1 qz
                            obtain ⟨q0, q1, qz⟩ := two' hq16
                            obtain ⟨j0, j1, jz⟩ := two' hi16
                            obtain ⟨DD, hDD⟩ : ∃ DD : ByteArray, ⟨dd.toArray⟩ = DD := ⟨_, rfl⟩
                            rw [hDD]
                            have hfar : ∀ g, v.ownBlock = some g → g < wr.heap.size := fun g hg => (HLo.out g hg).2
                            have hx := HXI.out
                            have h17 := ((h16.far w13.heap.size 0 (.string ⟨z3.1.toArray⟩) (by omega) (fun g hg => by have := hfar g hg; omega)).far w13.heap.size 1 (.int .i64 z3.2) (by omega) (fun g hg => by have := hfar g hg; omega)).far W14.heap.size 1 (.string DD) (by omega) (fun g hg => by have := hfar g hg; omega)
                            have hq17 : (((w16.setCell ⟨w13.heap.size, 0, none⟩ (.string ⟨z3.1.toArray⟩)).setCell ⟨w13.heap.size, 1, none⟩ (.int .i64 z3.2)).setCell ⟨W14.heap.size, 1, none⟩ (.string DD)).heap[w13.heap.size]? = some (.cells (inL z3) 70) := by
                              rw [Below.heap_setCell _ _ _ _ (by show w13.heap.size ≠ W14.heap.size; omega)]
                              exact blk_set (k := 1) (v := .int .i64 z3.2) (blk_set (k := 0) (v := .string ⟨z3.1.toArray⟩) hq16)
                            have hi17 : (((w16.setCell ⟨w13.heap.size, 0, none⟩ (.string ⟨z3.1.toArray⟩)).setCell ⟨w13.heap.size, 1, none⟩ (.int .i64 z3.2)).setCell ⟨W14.heap.size, 1, none⟩ (.string DD)).heap[W14.heap.size]? = some (.cells #[.int .i64 (a : Int), .string DD] 55) := by
                              refine blk_set (k := 1) (v := .string DD) (C := #[.int .i64 (a : Int), .string ⟨#[]⟩]) ?_
                              rw [Below.heap_setCell _ _ _ _ (by show W14.heap.size ≠ w13.heap.size; omega), Below.heap_setCell _ _ _ _ (by show W14.heap.size ≠ w13.heap.size; omega)]
                              exact hi16
                            have H17 := Lib.hid h17
                            have HQb := Lib.hid hq17
                            have HIb := Lib.hid hi17
                            have j1' : ((w16.setCell ⟨w13.heap.size, 0, none⟩ (.string ⟨z3.1.toArray⟩)).setCell ⟨w13.heap.size, 1, none⟩ (.int .i64 z3.2)).cell? ⟨W14.heap.size, 1, none⟩ = some (.string ⟨#[]⟩) := by
                              rw [World.cell?_of_block (w := w16) (by rw [Below.heap_setCell _ _ _ _ (by show W14.heap.size ≠ w13.heap.size; omega), Below.heap_setCell _ _ _ _ (by show W14.heap.size ≠ w13.heap.size; omega)])]
                              exact j1
                            clear hb16 h16 hq16 hi16 hfar hx h17 hq17 hi17 H15 HQI j0 j1
                            go_upto_region 28 with fail
                            generalize ((w16.setCell ⟨w13.heap.size, 0, none⟩ (.string ⟨z3.1.toArray⟩)).setCell ⟨w13.heap.size, 1, none⟩ (.int .i64 z3.2)).setCell ⟨W14.heap.size, 1, none⟩ (.string DD) = W17 at *
                            clear q0 q1 qz j1' jz
                            subst hDD

                            obtain ⟨q0, q1, qz⟩ := two' HQb.out
                            obtain ⟨x0, x1, xz⟩ := two' H17.out.q.xb
                            have h18 := H17.out.set z3
                            have hI18 : ((W17.setCell ⟨X, 0, none⟩ (.string ⟨z3.1.toArray⟩)).setCell ⟨X, 1, none⟩ (.int .i64 z3.2)).heap[W14.heap.size]? = some (.cells #[.int .i64 (a : Int), .string ⟨dd.toArray⟩] 55) := by
                              have h1 := H17.out.lt
                              have h2 := HXI.out
                              rw [Below.heap_setCell _ _ _ _ (by show W14.heap.size ≠ X; omega), Below.heap_setCell _ _ _ _ (by show W14.heap.size ≠ X; omega)]
                              exact HIb.out
                            have H18 := Lib.hid h18
                            have HI18 := Lib.hid hI18
                            clear h18 hI18 H17
                            go_upto_region 29 with fail
                            generalize (W17.setCell ⟨X, 0, none⟩ (.string ⟨z3.1.toArray⟩)).setCell ⟨X, 1, none⟩ (.int .i64 z3.2) = W18 at *
                            clear q0 q1 qz x0 x1 xz
                            obtain ⟨i0'', i1'', _⟩ := two' HI18.out
                            obtain ⟨s0, s1, s2, s3, sz⟩ := four H18.out.sb
                            have H19 := Lib.hid (H18.out.step ((Below.refl _ W18).alloc (Nat.le_refl _) (.cells #[.int .i64 (a : Int), .string ⟨dd.toArray⟩] 55)))
                            have HOw : Hid ((W18.alloc (.cells #[.int .i64 (a : Int), .string ⟨dd.toArray⟩] 55)).ownsRow (S + 1) 55 2 v k (itCells acc)) := Lib.hid (by have := H19.out.row; rw [HAc.out] at this; exact this)
                            have HNw : Hid (∀ j u, [Value.int .i64 (a : Int), .string ⟨dd.toArray⟩][j]? = some u → (W18.alloc (.cells #[.int .i64 (a : Int), .string ⟨dd.toArray⟩] 55)).cell? ((⟨W18.heap.size, 0, none⟩ : Addr).add j) = some u) := Lib.hid (by
                              intro j u hu
                              rw [Addr.add_mid, Nat.zero_add, World.cell?_alloc_new, ← hu]
                              simp)
                            have HOn : Hid (∀ u ∈ [Value.int .i64 (a : Int), .string ⟨dd.toArray⟩], u.oneCell' = true) := Lib.hid (by
                              intro u hu
                              simp at hu
                              rcases hu with rfl | rfl <;> rfl)
                            have HLk : Hid (k + 1 ≤ 65536) := Lib.hid (by have := HN6.out; omega)
                            have HSz2 : Hid (S + 1 ≤ (W18.alloc (.cells #[.int .i64 (a : Int), .string ⟨dd.toArray⟩] 55)).heap.size) := Lib.hid (blk_lt H19.out.sb)
                            have hl13 : (acc ++ [(⟨(a : Int), dd⟩ : It)]).length = k + 1 := by rw [List.length_append, HAc.out]; rfl
                            have HL13 := Lib.hid hl13
                            have HNext : Hid (∀ v2 w1, w1.ownsRow (S + 1) 55 2 v2 (k + 1) (itCells acc ++ [.int .i64 (a : Int), .string ⟨dd.toArray⟩]) → (W18.alloc (.cells #[.int .i64 (a : Int), .string ⟨dd.toArray⟩] 55)).grownBy w1 v.ownBlock → (w1.cell? ⟨S, 3, none⟩ = some v ∧ w1.frozen? ⟨S, 3, none⟩ = false) ∧ RS w X S z3 (n3 : Int) B4 B5 v2 (acc ++ [(⟨(a : Int), dd⟩ : It)]) (w1.setCell ⟨S, 3, none⟩ v2)) := Lib.hid (by
                              intro v2 w1 h1 hg
                              exact H19.out.rowTo hg (by rw [HL13.out, itCells_snoc]; exact h1))
                            clear hl13 H18
                            go_wp2_with (at_builtin; refine wpList_append_lies _ rfl _ _ 30 rfl (S + 1) 55 i0 (.agg #[.int .i64 0, .string ⟨#[]⟩]) 2 24 Tryd.underlying30 HI0.out HI1.out HI2.out HI3.out rfl (by decide) v k (itCells acc) rfl HOw.out ⟨W18.heap.size, 0, none⟩ 1 1 [.int .i64 (a : Int), .string ⟨dd.toArray⟩] rfl rfl HNw.out HOn.out (by decide) (by have := HLk.out; unfold maxLen; omega) (by have := HLk.out; omega) HSz2.out _ rfl ?_)
                            intro g1 cap1 w19 hs1 hg1 _ _
                            obtain ⟨⟨n1', n2'⟩, n3'⟩ := HNext.out _ _ hs1 hg1
                            have HN3 := Lib.hid n3'
                            clear hs1 hg1 n3' HNext HOw HNw s0 s1 s2 s3 sz i0'' i1''
                            go_wp2_with fail
                            go_roundw
                            case rel => exact ⟨k + 1, z3, _, acc ++ [(⟨(a : Int), dd⟩ : It)], by omega, by go_num, HL13.out, HLm.out, HN3.out⟩
                            case measure => simp [intOf]; omega
                        · rw [if_neg hb1] at hLn
                          have HLm := Lib.hid hLn
                          have e2 : (((b : Nat) : Int) == 1) = false := by
                            have : ((b : Nat) : Int) ≠ 1 := by omega
                            simpa using this
                          have H17 := H15
                          have HQb : Hid (W15.heap[w13.heap.size]? = some (.cells (inL z) 70)) := Lib.hid HIz.out.2
                          have HIb : Hid (W15.heap[W14.heap.size]? = some (.cells #[.int .i64 (a : Int), .string ⟨#[]⟩] 55)) := Lib.hid HIz.out.1
                          clear hLn hc24 j0 j1 jz H15 HIz
                          by_cases hz2 : z.2 = 0
                          · have e1 : (z.2 == 0) = true := by simpa using hz2
                            have i2 : decide ((1 : Int) < (b : Int)) = false := decide_eq_false (fun q => hbad ⟨hz2, by omega⟩)
                            clear hz2 hbad hb1
                            go_upto_region 28 with fail
                            clear e1 e2 i2 q0 q1 qz
                            obtain ⟨q0, q1, qz⟩ := two' HQb.out
                            obtain ⟨x0, x1, xz⟩ := two' H17.out.q.xb
                            have h18 := H17.out.set z
                            have hI18 : ((W15.setCell ⟨X, 0, none⟩ (.string ⟨z.1.toArray⟩)).setCell ⟨X, 1, none⟩ (.int .i64 z.2)).heap[W14.heap.size]? = some (.cells #[.int .i64 (a : Int), .string ⟨#[]⟩] 55) := by
                              have h1 := H17.out.lt
                              have h2 := HXI.out
                              rw [Below.heap_setCell _ _ _ _ (by show W14.heap.size ≠ X; omega), Below.heap_setCell _ _ _ _ (by show W14.heap.size ≠ X; omega)]
                              exact HIb.out
                            have H18 := Lib.hid h18
                            have HI18 := Lib.hid hI18
                            clear h18 hI18 H17
                            go_upto_region 29 with fail
                            generalize (W15.setCell ⟨X, 0, none⟩ (.string ⟨z.1.toArray⟩)).setCell ⟨X, 1, none⟩ (.int .i64 z.2) = W18 at *
                            clear q0 q1 qz x0 x1 xz
                            obtain ⟨i0'', i1'', _⟩ := two' HI18.out
                            obtain ⟨s0, s1, s2, s3, sz⟩ := four H18.out.sb
                            have H19 := Lib.hid (H18.out.step ((Below.refl _ W18).alloc (Nat.le_refl _) (.cells #[.int .i64 (a : Int), .string ⟨#[]⟩] 55)))
                            have HOw : Hid ((W18.alloc (.cells #[.int .i64 (a : Int), .string ⟨#[]⟩] 55)).ownsRow (S + 1) 55 2 v k (itCells acc)) := Lib.hid (by have := H19.out.row; rw [HAc.out] at this; exact this)
                            have HNw : Hid (∀ j u, [Value.int .i64 (a : Int), .string ⟨#[]⟩][j]? = some u → (W18.alloc (.cells #[.int .i64 (a : Int), .string ⟨#[]⟩] 55)).cell? ((⟨W18.heap.size, 0, none⟩ : Addr).add j) = some u) := Lib.hid (by
                              intro j u hu
                              rw [Addr.add_mid, Nat.zero_add, World.cell?_alloc_new, ← hu]
                              simp)
                            have HOn : Hid (∀ u ∈ [Value.int .i64 (a : Int), .string ⟨#[]⟩], u.oneCell' = true) := Lib.hid (by
                              intro u hu
                              simp at hu
                              rcases hu with rfl | rfl <;> rfl)
                            have HLk : Hid (k + 1 ≤ 65536) := Lib.hid (by have := HN6.out; omega)
                            have HSz2 : Hid (S + 1 ≤ (W18.alloc (.cells #[.int .i64 (a : Int), .string ⟨#[]⟩] 55)).heap.size) := Lib.hid (blk_lt H19.out.sb)
                            have hl13 : (acc ++ [(⟨(a : Int), []⟩ : It)]).length = k + 1 := by rw [List.length_append, HAc.out]; rfl
                            have HL13 := Lib.hid hl13
                            have HNext : Hid (∀ v2 w1, w1.ownsRow (S + 1) 55 2 v2 (k + 1) (itCells acc ++ [.int .i64 (a : Int), .string ⟨#[]⟩]) → (W18.alloc (.cells #[.int .i64 (a : Int), .string ⟨#[]⟩] 55)).grownBy w1 v.ownBlock → (w1.cell? ⟨S, 3, none⟩ = some v ∧ w1.frozen? ⟨S, 3, none⟩ = false) ∧ RS w X S z (n3 : Int) B4 B5 v2 (acc ++ [(⟨(a : Int), []⟩ : It)]) (w1.setCell ⟨S, 3, none⟩ v2)) := Lib.hid (by
                              intro v2 w1 h1 hg
                              exact H19.out.rowTo hg (by rw [HL13.out, itCells_snoc]; exact h1))
                            clear hl13 H18
                            go_wp2_with (at_builtin; refine wpList_append_lies _ rfl _ _ 30 rfl (S + 1) 55 i0 (.agg #[.int .i64 0, .string ⟨#[]⟩]) 2 24 Tryd.underlying30 HI0.out HI1.out HI2.out HI3.out rfl (by decide) v k (itCells acc) rfl HOw.out ⟨W18.heap.size, 0, none⟩ 1 1 [.int .i64 (a : Int), .string ⟨#[]⟩] rfl rfl HNw.out HOn.out (by decide) (by have := HLk.out; unfold maxLen; omega) (by have := HLk.out; omega) HSz2.out _ rfl ?_)
                            intro g1 cap1 w19 hs1 hg1 _ _
                            obtain ⟨⟨n1', n2'⟩, n3'⟩ := HNext.out _ _ hs1 hg1
                            have HN3 := Lib.hid n3'
                            clear hs1 hg1 n3' HNext HOw HNw s0 s1 s2 s3 sz i0'' i1''
                            go_wp2_with fail
                            go_roundw
                            case rel => exact ⟨k + 1, z, _, acc ++ [(⟨(a : Int), []⟩ : It)], by omega, by go_num, HL13.out, HLm.out, HN3.out⟩
                            case measure => simp [intOf]; omega
                          · have e1 : (z.2 == 0) = false := by simpa using hz2
                            clear hz2 hbad hb1
                            go_upto_region 28 with fail
                            clear e1 e2 q0 q1 qz
                            obtain ⟨q0, q1, qz⟩ := two' HQb.out
                            obtain ⟨x0, x1, xz⟩ := two' H17.out.q.xb
                            have h18 := H17.out.set z
                            have hI18 : ((W15.setCell ⟨X, 0, none⟩ (.string ⟨z.1.toArray⟩)).setCell ⟨X, 1, none⟩ (.int .i64 z.2)).heap[W14.heap.size]? = some (.cells #[.int .i64 (a : Int), .string ⟨#[]⟩] 55) := by
                              have h1 := H17.out.lt
                              have h2 := HXI.out
                              rw [Below.heap_setCell _ _ _ _ (by show W14.heap.size ≠ X; omega), Below.heap_setCell _ _ _ _ (by show W14.heap.size ≠ X; omega)]
                              exact HIb.out
                            have H18 := Lib.hid h18
                            have HI18 := Lib.hid hI18
                            clear h18 hI18 H17
                            go_upto_region 29 with fail
                            generalize (W15.setCell ⟨X, 0, none⟩ (.string ⟨z.1.toArray⟩)).setCell ⟨X, 1, none⟩ (.int .i64 z.2) = W18 at *
                            clear q0 q1 qz x0 x1 xz
                            obtain ⟨i0'', i1'', _⟩ := two' HI18.out
                            obtain ⟨s0, s1, s2, s3, sz⟩ := four H18.out.sb
                            have H19 := Lib.hid (H18.out.step ((Below.refl _ W18).alloc (Nat.le_refl _) (.cells #[.int .i64 (a : Int), .string ⟨#[]⟩] 55)))
                            have HOw : Hid ((W18.alloc (.cells #[.int .i64 (a : Int), .string ⟨#[]⟩] 55)).ownsRow (S + 1) 55 2 v k (itCells acc)) := Lib.hid (by have := H19.out.row; rw [HAc.out] at this; exact this)
                            have HNw : Hid (∀ j u, [Value.int .i64 (a : Int), .string ⟨#[]⟩][j]? = some u → (W18.alloc (.cells #[.int .i64 (a : Int), .string ⟨#[]⟩] 55)).cell? ((⟨W18.heap.size, 0, none⟩ : Addr).add j) = some u) := Lib.hid (by
                              intro j u hu
                              rw [Addr.add_mid, Nat.zero_add, World.cell?_alloc_new, ← hu]
                              simp)
                            have HOn : Hid (∀ u ∈ [Value.int .i64 (a : Int), .string ⟨#[]⟩], u.oneCell' = true) := Lib.hid (by
                              intro u hu
                              simp at hu
                              rcases hu with rfl | rfl <;> rfl)
                            have HLk : Hid (k + 1 ≤ 65536) := Lib.hid (by have := HN6.out; omega)
                            have HSz2 : Hid (S + 1 ≤ (W18.alloc (.cells #[.int .i64 (a : Int), .string ⟨#[]⟩] 55)).heap.size) := Lib.hid (blk_lt H19.out.sb)
                            have hl13 : (acc ++ [(⟨(a : Int), []⟩ : It)]).length = k + 1 := by rw [List.length_append, HAc.out]; rfl
                            have HL13 := Lib.hid hl13
                            have HNext : Hid (∀ v2 w1, w1.ownsRow (S + 1) 55 2 v2 (k + 1) (itCells acc ++ [.int .i64 (a : Int), .string ⟨#[]⟩]) → (W18.alloc (.cells #[.int .i64 (a : Int), .string ⟨#[]⟩] 55)).grownBy w1 v.ownBlock → (w1.cell? ⟨S, 3, none⟩ = some v ∧ w1.frozen? ⟨S, 3, none⟩ = false) ∧ RS w X S z (n3 : Int) B4 B5 v2 (acc ++ [(⟨(a : Int), []⟩ : It)]) (w1.setCell ⟨S, 3, none⟩ v2)) := Lib.hid (by
                              intro v2 w1 h1 hg
                              exact H19.out.rowTo hg (by rw [HL13.out, itCells_snoc]; exact h1))
                            clear hl13 H18
                            go_wp2_with (at_builtin; refine wpList_append_lies _ rfl _ _ 30 rfl (S + 1) 55 i0 (.agg #[.int .i64 0, .string ⟨#[]⟩]) 2 24 Tryd.underlying30 HI0.out HI1.out HI2.out HI3.out rfl (by decide) v k (itCells acc) rfl HOw.out ⟨W18.heap.size, 0, none⟩ 1 1 [.int .i64 (a : Int), .string ⟨#[]⟩] rfl rfl HNw.out HOn.out (by decide) (by have := HLk.out; unfold maxLen; omega) (by have := HLk.out; omega) HSz2.out _ rfl ?_)
                            intro g1 cap1 w19 hs1 hg1 _ _
                            obtain ⟨⟨n1', n2'⟩, n3'⟩ := HNext.out _ _ hs1 hg1
                            have HN3 := Lib.hid n3'
                            clear hs1 hg1 n3' HNext HOw HNw s0 s1 s2 s3 sz i0'' i1''
                            go_wp2_with fail
                            go_roundw
                            case rel => exact ⟨k + 1, z, _, acc ++ [(⟨(a : Int), []⟩ : It)], by omega, by go_num, HL13.out, HLm.out, HN3.out⟩
                            case measure => simp [intOf]; omega
                    · have e0 : (x.2 == 0) = false := by simpa using he
                      have hG : G = some (x, acc) := by
                        rw [← HLp.out, show n6 - k = (n6 - (k + 1)) + 1 by omega]
                        unfold rLoop
                        rw [if_pos he]
                      have HF : Hid (∃ x v acc, RS w X S x (n3 : Int) B4 B5 v acc wr ∧ G = some (x, acc) ∧ acc.length ≤ 65536) := Lib.hid ⟨x, v, acc, HS.out, hG, by have := HAc.out; have := HN6.out; omega⟩
                      clear he hG
                      go_wp2_with fail
                      go_meet
                      exact HF.out
                  · have i1 : ¬ (k : Int) < (n6 : Int) := by omega
                    have hG : G = some (x, acc) := by
                      rw [← HLp.out, show n6 - k = 0 by omega]
                      rfl
                    have HF : Hid (∃ x v acc, RS w X S x (n3 : Int) B4 B5 v acc wr ∧ G = some (x, acc) ∧ acc.length ≤ 65536) := Lib.hid ⟨x, v, acc, HS.out, hG, by have := HAc.out; have := HN6.out; omega⟩
                    clear hG
                    go_wp2_with fail
                    go_meet
                    exact HF.out
              case rest =>
                obtain ⟨x, v, acc, hs, hG, hlen⟩ := hcut
                have HS := Lib.hid hs
                have HRe : Hid (if (rdD x).2 ≠ 0 then bodyP BD = .error (rdD x).2 else bodyP BD = .ok ⟨n3, d4, d5, acc⟩) := Lib.hid (by
                  have h := HRest.out
                  rw [hG] at h
                  exact h)
                have HDn := Lib.hid (fun wx => refDone_any x wx)
                obtain ⟨y, hy⟩ : ∃ y, rdD x = y := ⟨_, rfl⟩
                rw [hy] at HRe HDn
                unfold inX inOf at HDn
                obtain ⟨x0, x1, xz⟩ := two' hs.q.xb
                have HLn := Lib.hid hlen
                clear hs hG hlen hy H10
                go_wp2_with fail
                refine (HDn.out _).mono ?_
                rintro e w20 ⟨rfl, hb20⟩
                have h20 := HS.out.step hb20
                clear hb20 x0 x1 xz
                obtain ⟨x0, x1, xz⟩ := two' h20.q.xb
                have H21 := Lib.hid (h20.set y)
                clear h20 HS
                go_upto_region 31 with fail
                generalize (w20.setCell ⟨X, 0, none⟩ (.string ⟨y.1.toArray⟩)).setCell ⟨X, 1, none⟩ (.int .i64 y.2) = W21 at *
                clear x0 x1 xz
                obtain ⟨x0, x1, xz⟩ := two' H21.out.q.xb
                by_cases he : y.2 = 0
                · have e0 : (y.2 != 0) = false := by simp [he]
                  have hre := HRe.out
                  rw [if_neg (Decidable.not_not.2 he)] at hre
                  have hRd := bodyP_back hre
                  have HPb : Hid (allP t = if chk ⟨n3, d4, d5, acc⟩ = 0 then .ok ⟨n3, d4, d5, acc⟩ else .error (chk ⟨n3, d4, d5, acc⟩)) := Lib.hid (by rw [HPa.out, hre])
                  have hits := its_ownR H21.out.row
                  obtain ⟨va, vc, rfl⟩ := hits.form
                  have HIts := Lib.hid hits
                  have HCk := Lib.hid (fun wx h => refCheck_any (n3 : Int) B4 B5 (.slice va acc.length vc) acc wx h (by have := HLn.out; omega) (fun u hu => by rcases (hRd.its u hu).2.2 with h | h <;> (rw [h]; unfold maxLen; omega)) d4 d5)
                  unfold rfL at HCk
                  obtain ⟨s0, s1, s2, s3, sz⟩ := four H21.out.sb
                  have HCc := Lib.hid (HCk.out W21 hits)
                  obtain ⟨ck, hck⟩ : ∃ ck, chk ⟨n3, d4, d5, acc⟩ = ck := ⟨_, rfl⟩
                  rw [hck] at HCc HPb
                  clear he hre hRd hits hck HRe HCk
                  go_wp2_with fail
                  refine HCc.out.mono ?_
                  rintro e w22 ⟨rfl, hb22⟩
                  have H22 := Lib.hid (H21.out.step hb22)
                  have HIt2 := Lib.hid (HIts.out.below hb22)
                  have hlt' := H21.out.row.lt
                  have HLt := Lib.hid hlt'
                  clear hb22 s0 s1 s2 s3 sz hlt' x0 x1 xz
                  obtain ⟨r0, r1, r2, r3, rz⟩ := four H22.out.q.res
                  by_cases hc0 : ck = 0
                  · subst hc0
                    have HP0 := HPb
                    rw [if_pos rfl] at HP0
                    obtain ⟨s0, s1, s2, s3, sz⟩ := four H22.out.sb
                    obtain ⟨k1, k2⟩ := res_set H22.out.q.below H22.out.q.res (.int .i64 (n3 : Int)) (.string B4) (.string B5) (.slice va acc.length vc)
                    obtain ⟨f0, f1, f2, f3, _⟩ := four k2
                    have HFi : Hid (ItsAt ((((w22.setCell ⟨w.heap.size, 0, none⟩ (.int .i64 (n3 : Int))).setCell ⟨w.heap.size, 1, none⟩ (.string B4)).setCell ⟨w.heap.size, 2, none⟩ (.string B5)).setCell ⟨w.heap.size, 3, none⟩ (.slice va acc.length vc)) (.slice va acc.length vc) acc) := Lib.hid (its_grew HIt2.out (((((Grew.refl (S := fun z => z = w.heap.size) w22).setCell _ _ (fun _ => rfl)).setCell _ _ (fun _ => rfl)).setCell _ _ (fun _ => rfl)).setCell _ _ (fun _ => rfl)) (fun z hz e => by have h1 := (HLt.out z hz).1; have h2 := H22.out.lt; have h3 := H22.out.q.lt; omega))
                    have HK := Lib.hid k1
                    clear k1 k2
                    go_wp2_with fail
                    refine bodyPost_ret (v := .tuple #[.agg (rfL (n3 : Int) B4 B5 (.slice va acc.length vc)), .int .i64 0]) ?_ rfl ⟨HK.out, Or.inr ⟨⟨n3, d4, d5, acc⟩, _, HP0.out, ?_, HFi.out⟩⟩
                    · simp [results, Tryd.results18, go_sem, f0, f1, f2, f3, rfL]
                    · show _ = Ending.returned (.tuple #[.agg (rfL (n3 : Int) ⟨d4.toArray⟩ ⟨d5.toArray⟩ (.slice va acc.length vc)), .int .i64 0])
                      rw [HB4.out, HB5.out]
                  · have HP0 := HPb
                    rw [if_neg hc0] at HP0
                    have e1 : (ck != 0) = true := by simpa using hc0
                    have HC0 := Lib.hid hc0
                    obtain ⟨k1, k2⟩ := res_set H22.out.q.below H22.out.q.res (.int .i64 0) (.string ⟨#[]⟩) (.string ⟨#[]⟩) (.slice none 0 0)
                    obtain ⟨f0, f1, f2, f3, _⟩ := four k2
                    have HK := Lib.hid k1
                    clear hc0 k1 k2
                    go_wp2_with fail
                    refine bodyPost_ret (v := .tuple #[.agg rf0, .int .i64 ck]) ?_ rfl (rp_err HK.out HP0.out HC0.out)
                    simp [results, Tryd.results18, go_sem, f0, f1, f2, f3]
                · have e0 : (y.2 != 0) = true := by simpa using he
                  have HPe : Hid (allP t = .error y.2) := Lib.hid (by
                    have h := HRe.out
                    rw [if_pos he] at h
                    rw [HPa.out, h])
                  have HE := Lib.hid he
                  obtain ⟨r0, r1, r2, r3, rz⟩ := four H21.out.q.res
                  obtain ⟨k1, k2⟩ := res_set H21.out.q.below H21.out.q.res (.int .i64 0) (.string ⟨#[]⟩) (.string ⟨#[]⟩) (.slice none 0 0)
                  obtain ⟨f0, f1, f2, f3, _⟩ := four k2
                  have HK := Lib.hid k1
                  have xs : ((((W21.setCell ⟨w.heap.size, 0, none⟩ (.int .i64 0)).setCell ⟨w.heap.size, 1, none⟩ (.string ⟨#[]⟩)).setCell ⟨w.heap.size, 2, none⟩ (.string ⟨#[]⟩)).setCell ⟨w.heap.size, 3, none⟩ (.slice none 0 0)).cell? ⟨X, 1, none⟩ = some (.int .i64 y.2) := by
                    have h1 := H21.out.q.lt
                    have hn : X ≠ w.heap.size := by omega
                    rw [World.cell?_of_block (w := W21) (by rw [Below.heap_setCell _ _ _ _ hn, Below.heap_setCell _ _ _ _ hn, Below.heap_setCell _ _ _ _ hn, Below.heap_setCell _ _ _ _ hn])]
                    exact x1
                  clear he k1 k2
                  go_upto_region 32 with fail
                  go_region
                  all_goals
                    go_wp2_with fail
                    refine bodyPost_ret (v := .tuple #[.agg rf0, .int .i64 y.2]) ?_ rfl (rp_err HK.out.drew HPe.out HE.out)
                    simp [results, Tryd.results18, go_sem, f0, f1, f2, f3]
            · have HC2 : Hid (y2.2 = 0 ∧ n2 ≠ 1) := Lib.hid (of_decide_eq_true HZ2.out)
              have HPe : Hid (allP t = .error 1) := Lib.hid (by rw [HPa.out, HT.out.c2 HC1.out HC2.out])
              obtain ⟨r0, r1, r2, r3, rz⟩ := four H4.out.res
              obtain ⟨k1, k2⟩ := res_set H4.out.below H4.out.res (.int .i64 0) (.string ⟨#[]⟩) (.string ⟨#[]⟩) (.slice none 0 0)
              obtain ⟨f0, f1, f2, f3, _⟩ := four k2
              have HK := Lib.hid k1
              clear HZ2 x0 x1 xz k1 k2
              go_wp2_with fail
              refine bodyPost_ret (v := .tuple #[.agg rf0, .int .i64 1]) ?_ rfl (rp_err HK.out HPe.out (by decide))
              simp [results, Tryd.results18, go_sem, f0, f1, f2, f3]
        · have HC1 : Hid (y1.2 = 0 ∧ d1 ≠ markB) := Lib.hid (of_decide_eq_true HZ1.out)
          have HPe : Hid (allP t = .error 1) := Lib.hid (by rw [HPa.out, HT.out.c1 HC1.out])
          obtain ⟨k1, k2⟩ := res_set H3.out.below H3.out.res (.int .i64 0) (.string ⟨#[]⟩) (.string ⟨#[]⟩) (.slice none 0 0)
          obtain ⟨f0, f1, f2, f3, _⟩ := four k2
          have HK := Lib.hid k1
          clear HZ1 x0 x1 xz k1 k2
          go_wp2_with fail
          refine bodyPost_ret (v := .tuple #[.agg rf0, .int .i64 1]) ?_ rfl (rp_err HK.out HPe.out (by decide))
          simp [results, Tryd.results18, go_sem, f0, f1, f2, f3]
    · have hP : openE t = some 11 := by rw [HOp.out, if_pos hc]
      have hPa : allP t = .error 11 := by rw [allP_open, hP]
      have HP := Lib.hid hPa
      have hne : (enc K (wid 4) == (D.extract m D.size).toList) = false := by
        rw [HEe.out, hEt]
        show (enc K 4 == t.drop m) = false
        have : enc K 4 ≠ t.drop m := fun e => hc (HSame.out.1 e)
        simpa using this
      clear hP hPa hc hEt
      go_region_with (first
        | (refine HSum.out.mono ?_; rintro e w1 ⟨rfl, rfl⟩)
        | (refine (HNum.out _).mono ?_; rintro e w2 ⟨rfl, hb2⟩))
      have hr2 : w2.heap[w.heap.size]? = some (.cells rf0 32) := by rw [hb2.block _ (blk_lt HR0.out)]; exact HR0.out
      obtain ⟨r0, r1, r2, r3, rz⟩ := four hr2
      obtain ⟨k1, k2⟩ := res_set (HB0.out.trans (Below.mono (B' := w.heap.size) (undrew hb2) HB0.out.size)) hr2 (.int .i64 0) (.string ⟨#[]⟩) (.string ⟨#[]⟩) (.slice none 0 0)
      obtain ⟨f0, f1, f2, f3, _⟩ := four k2
      have HK := Lib.hid k1
      clear hb2 hr2 k1 k2
      go_wp2_with fail
      refine bodyPost_ret (v := .tuple #[.agg rf0, .int .i64 11]) ?_ rfl (rp_err HK.out HP.out (by decide))
      simp [results, Tryd.results18, go_sem, f0, f1, f2, f3]
end Go.Proofs.YtpgmgopcgoblhaaDoor
