/-
  StreamParses: for every text, with its sum behind it or without, the law answers true.
-/
import Derived.Test.YtpgmgopcgoblhaaDoorStreamRefP
import Derived.Test.YtpgmgopcgoblhaaDoorStreamSame
import Derived.Test.YtpgmgopcgoblhaaDoorStreamAwake
import Derived.Test.YtpgmgopcgoblhaaDoorCut
namespace Go.Proofs.YtpgmgopcgoblhaaDoor
open Go.RowKit

theorem ba_of (T : ByteArray) : T = ⟨T.data.toList.toArray⟩ := by cases T; rfl
set_option maxRecDepth 100000 in
set_option maxHeartbeats 4000000 in
theorem streamParses_walk (s : ByteArray) (hs : s.size ≤ maxLen) (sum : Bool) (w : World) :
    Calls Tryd.prog 4 #[.string s, .bool sum] w fun e w' => e = .returned (.bool true) ∧ Below w.heap.size w w' := by
  obtain ⟨t, ht, hcut⟩ := cut_law s 900 hs (by decide)
  have HCu := Lib.hid hcut
  have HTs := Lib.hid ht
  have HAw := Lib.hid streamAwake
  have HAl := alloc_st
  have HSt := Lib.hid (fun wx => st0_cells wx)
  obtain ⟨Z, hZ⟩ : ∃ Z, st0.toArray = Z := ⟨_, rfl⟩
  rw [hZ] at HAl HSt
  clear hcut ht hs hZ
  go_enter Tryd.func4, Tryd.ntmps4
  go_wp2_with fail
  refine (HCu.out _).mono ?_
  rintro e w1 ⟨rfl, rfl⟩
  go_wp2_with fail
  refine (HAw.out _).mono ?_
  rintro e w2 ⟨rfl, hb2⟩
  have HB2 := Lib.hid hb2
  clear hb2
  go_upto_if 13 with fail
  go_cut [0] (fun s0 wx => ∃ T : ByteArray, T.size ≤ 904 ∧ s0 = .string T ∧ Below w.heap.size w wx)
  case first =>
    cases sum
    · go_wp2_with fail
      go_meet
      exact ⟨t, by have := HTs.out; omega, rfl, HB2.out⟩
    · have HSum := Lib.hid (C.ref_any t w2 (by have := HTs.out; unfold maxLen; omega))
      have hlt := crc_lt t.data.toList
      obtain ⟨K, hK⟩ : ∃ K, C.Crc.sum t.data.toList = K := ⟨_, rfl⟩
      rw [hK] at HSum hlt
      have u3 := u32_as_u64 K hlt
      have HNum := Lib.hid (refNum_any K 4 w2 (by omega))
      have hez : (⟨(enc K (wid 4)).toArray⟩ : ByteArray).size = 4 := by rw [ba_size, enc_len]; rfl
      obtain ⟨E, hE⟩ : ∃ E : ByteArray, ⟨(enc K (wid 4)).toArray⟩ = E := ⟨_, rfl⟩
      rw [hE] at HNum hez
      have HEz := Lib.hid hez
      have hadd : ∀ wx : World, (Op.stringOp .add t E).run Tryd.prog wx = .ok (.string (t ++ E)) wx := fun wx => run_string_add_sum wx t E (by have := HTs.out; omega)
      clear hlt hK hE hez
      go_wp2_with fail
      refine HSum.out.mono ?_
      rintro e w3 ⟨rfl, rfl⟩
      go_wp2_with fail
      refine HNum.out.mono ?_
      rintro e w3 ⟨rfl, hb3⟩
      have HB3 := Lib.hid (HB2.out.trans (hb3.mono HB2.out.size))
      clear hb3
      go_wp2_with fail
      go_meet
      exact ⟨t ++ E, by have := HTs.out; have := HEz.out; rw [ByteArray.size_append]; omega, rfl, HB3.out⟩
  case rest =>
    obtain ⟨T, hT, rfl, hb⟩ := hcut
    obtain ⟨l, hl⟩ : ∃ l, T.data.toList = l := ⟨_, rfl⟩
    have hTl : T = ⟨l.toArray⟩ := by rw [← hl]
    have hll : l.length ≤ 904 := by rw [← hl]; simpa using hT
    subst hTl
    have HB := Lib.hid hb
    have HLl := Lib.hid hll
    have HLp := Lib.hid (fun wx => lawParse_any l wx (by omega))
    have HRp := Lib.hid (fun wx => refParse_any l wx (by omega))
    clear hT hl hb hll HB2
    obtain ⟨D, hD⟩ : ∃ D : ByteArray, ⟨l.toArray⟩ = D := ⟨_, rfl⟩
    rw [hD] at HLp HRp ⊢
    have HD := Lib.hid hD
    clear hD
    go_wp2_with fail
    refine (HLp.out _).mono ?_
    rintro e w4 ⟨hb4, N, o, rfl, hN, hP⟩
    have HB4 := Lib.hid (HB.out.trans (hb4.mono HB.out.size))
    have hS := HSt.out w4
    have HXo := Lib.hid hP.one
    have HIN : Hid ((Tryd.prog.info? 28).map (·.size) = some N.toArray.size) := Lib.hid (by rw [List.size_toArray, hN]; kernel_rfl)
    have HIL : Hid ((Tryd.prog.info? 28).map (·.size) = some N.length) := Lib.hid (by rw [hN]; kernel_rfl)
    have HTh : Hid ((w4.alloc (.cells Z 28)).there w4.heap.size 0 N.toArray.size) := Lib.hid (hS.there 0 _ (by simp [hN]))
    have hb5 : Below w4.heap.size w4 ((w4.alloc (.cells Z 28)).setCells w4.heap.size 0 N) := below_row ((Below.refl _ w4).alloc (Nat.le_refl _) _) N (Nat.le_refl _)
    have hC5 := hS.fill (N := N) hN
    have HB5 := Lib.hid (HB4.out.trans (hb5.mono HB4.out.size))
    have HC5 := Lib.hid hC5
    have hP5 : Parsed l N o ((w4.alloc (.cells Z 28)).setCells w4.heap.size 0 N) := by
      rcases hP with h | ⟨s, v, h1, h2, h3, h4⟩
      · exact Or.inl h
      · exact Or.inr ⟨s, v, h1, h2, h3, h4.below hb5⟩
    have HP5 := Lib.hid hP5
    have HNl := Lib.hid hN
    clear hb4 hS hb5 hC5 hP hN hP5
    obtain ⟨E1, hE1⟩ : ∃ E1, Option.getD o 0 = E1 := ⟨_, rfl⟩
    rw [hE1]
    have HE1 := Lib.hid hE1
    clear hE1
    go_upto_region 7 with (first
      | (refine wpList_alloc rfl 28 rfl _ (HAl _) ?_)
      | (with_reducible refine wpList_store_mid rfl 28 _ _ rfl w4.heap.size 0 N.toArray rfl rfl HTh.out HIN.out HXo.out ?_))
    generalize (w4.alloc (.cells Z 28)).setCells w4.heap.size 0 N = W5 at *
    obtain ⟨X, hX⟩ : ∃ X, w4.heap.size = X := ⟨_, rfl⟩
    rw [hX] at HC5 ⊢
    clear hX HTh
    go_wp2_with fail
    refine (HRp.out _).mono ?_
    rintro e w6 ⟨hb6, hR⟩
    have HB6 := Lib.hid (HB5.out.trans (hb6.mono HB5.out.size))
    have HC6 := Lib.hid (HC5.out.below hb6)
    have hP6 : Parsed l N o w6 := by
      rcases HP5.out with h | ⟨s, v, h1, h2, h3, h4⟩
      · exact Or.inl h
      · exact Or.inr ⟨s, v, h1, h2, h3, h4.below hb6⟩
    clear hb6 HC5 HP5
    rcases hR with ⟨k, hk, hk0, rfl⟩ | ⟨s, v, hk, rfl, hits⟩
    · rcases hP6 with ⟨k', h1, h2, h3⟩ | ⟨s, v, h1, _⟩
      · rw [hk] at h1
        injection h1 with h1
        subst h1 h2 h3
        have x0 : (w6.alloc (.cells rf0 32)).cell? ⟨X, 0, none⟩ = some (.int .i64 0) := ((HC6.out.alloc _).2 0 (by decide)).1
        have x65 : (w6.alloc (.cells rf0 32)).cell? ⟨X, 65, none⟩ = some (.slice none 0 0) := ((HC6.out.alloc _).2 65 (by decide)).1
        have e0 : (k != 0) = true := by simpa using hk0
        have HB7 : Hid (Below w.heap.size w (w6.alloc (.cells rf0 32))) := Lib.hid (HB6.out.alloc HB6.out.size _)
        have hE : E1 = k := by simpa using HE1.out.symm
        subst hE
        have e1 : (E1 == E1) = true := by simp
        clear hk hk0
        generalize st0.toArray = Z0 at *
        go_wp2_with fail
        go_ret
        exact ⟨rfl, HB7.out⟩
      · rw [hk] at h1
        cases h1
    · rcases hP6 with ⟨k', h1, h2, h3⟩ | ⟨s', v', h1, h2, h3, h4⟩
      · rw [hk] at h1
        cases h1
      · rw [hk] at h1
        injection h1 with h1
        subst h1 h2 h3
        obtain ⟨hA, hRd, _, _⟩ := allP_back hk
        obtain ⟨va, vc, rfl⟩ := hits.form
        have hDt : (⟨(allB s).toArray⟩ : ByteArray) = D := by rw [hA]; exact HD.out
        have hbl : (bodyB s).length < 800000 := by rw [hRd.bytes, List.length_take]; have := HLl.out; omega
        have hE : E1 = 0 := by simpa using HE1.out.symm
        subst hE
        have HBy : Hid (∀ wx, ItsAt wx v' s.items → Calls Tryd.prog 12 #[.agg (stL s.size s.base s.target v').toArray] wx fun e w' => e = .returned (.string D) ∧ Below wx.heap.size wx w') := Lib.hid (fun wx hi => by
          rw [← hDt]
          have hlo := hRd.lo
          obtain ⟨z, hz⟩ : ∃ z : Nat, s.size = (z : Int) := ⟨s.size.toNat, by omega⟩
          have hhi := hRd.hi
          have e : (⟨(z : Int), s.base, s.target, s.items⟩ : St) = s := by rw [← hz]
          have t := stBytes_any z s.base s.target v' s.items wx (by omega) hRd.base hRd.target hi hRd.many (fun x hx => ⟨(hRd.its x hx).1, (hRd.its x hx).2.1⟩) (by rw [e]; exact hbl)
          rw [e, ← hz] at t
          exact t)
        have HSa : Hid (∀ wx, ItsAt wx v' s.items → ItsAt wx (.slice va s.items.length vc) s.items → Calls Tryd.prog 14 #[.agg (stL s.size s.base s.target v').toArray, .agg (rfL s.size ⟨s.base.toArray⟩ ⟨s.target.toArray⟩ (.slice va s.items.length vc))] wx fun e w' => e = .returned (.int .i64 0) ∧ Below wx.heap.size wx w') := Lib.hid (fun wx h1 h2 => same_any s.size s.base s.target v' _ s.items wx hRd.base hRd.target h1 h2 (by have := hRd.many; omega))
        unfold rfL at HSa ⊢
        have h7 : Below w6.heap.size w6 (w6.alloc (.cells #[.int .i64 s.size, .string ⟨s.base.toArray⟩, .string ⟨s.target.toArray⟩, .slice va s.items.length vc] 32)) := (Below.refl _ w6).alloc (Nat.le_refl _) _
        have HB7 := Lib.hid (HB6.out.trans (h7.mono HB6.out.size))
        have HC7 := Lib.hid (HC6.out.below h7)
        have HI1 := Lib.hid (h4.below h7)
        have HI2 := Lib.hid (hits.below h7)
        have hx7 := heap_alloc_new w6 (.cells #[.int .i64 s.size, .string ⟨s.base.toArray⟩, .string ⟨s.target.toArray⟩, .slice va s.items.length vc] 32)
        have HX7 := Lib.hid hx7
        obtain ⟨N, hN⟩ : ∃ N, stL s.size s.base s.target v' = N := ⟨_, rfl⟩
        rw [hN] at HBy HSa HC7 HNl HIL ⊢
        obtain ⟨DB, hDB⟩ : ∃ DB : ByteArray, ⟨s.base.toArray⟩ = DB := ⟨_, rfl⟩
        obtain ⟨DT, hDT⟩ : ∃ DT : ByteArray, ⟨s.target.toArray⟩ = DT := ⟨_, rfl⟩
        rw [hDB, hDT] at HSa HB7 HC7 HI1 HI2 HX7 ⊢
        clear hk hits h4 hA hRd hDt hbl h7 hx7 hN hDB hDT HC6 HIN HXo
        go_upto_region 8 with fail
        generalize w6.alloc (.cells #[.int .i64 s.size, .string DB, .string DT, .slice va s.items.length vc] 32) = W7 at *
        obtain ⟨Y, hY⟩ : ∃ Y, w6.heap.size = Y := ⟨_, rfl⟩
        rw [hY] at HX7 ⊢
        obtain ⟨y0, y1, y2, y3, _⟩ := four HX7.out
        have hr7 := Cells.all HNl.out HC7.out
        clear hY
        go_wp2_with (with_reducible refine wpList_load_g (by kernel_rfl) 28 _ rfl X 0 rfl N _ hr7 Tryd.underlying28 rfl HIL.out ?_)
        refine (HSa.out _ HI1.out HI2.out).mono ?_
        rintro e w8 ⟨rfl, hb8⟩
        have HB8 := Lib.hid (HB7.out.trans (hb8.mono HB7.out.size))
        have hr8 := Cells.all HNl.out (HC7.out.below hb8)
        have HI8 := Lib.hid (HI1.out.below hb8)
        clear hb8 hr7 y0 y1 y2 y3
        go_wp2_with (with_reducible refine wpList_load_g (by kernel_rfl) 28 _ rfl X 0 rfl N _ hr8 Tryd.underlying28 rfl HIL.out ?_)
        refine (HBy.out _ HI8.out).mono ?_
        rintro e w9 ⟨rfl, hb9⟩
        have HB9 := Lib.hid (HB8.out.trans (hb9.mono HB8.out.size))
        clear hb9
        go_wp2_with fail
        go_ret
        exact ⟨rfl, HB9.out⟩
end Go.Proofs.YtpgmgopcgoblhaaDoor
