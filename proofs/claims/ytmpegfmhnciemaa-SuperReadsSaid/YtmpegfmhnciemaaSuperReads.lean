/-
  SuperReads: for every two texts, two supers, and numbers the law answers true.
-/
import Derived.Test.YtmpegfmhnciemaaSuperReadsA
import Derived.Deep.Cut
namespace Go.Proofs.Ytmpegfmhnciemaa
open Go.RowKit

theorem and_ten {a0 a1 a2 a3 a4 b0 b1 b2 b3 b4 : Prop} (h : a0 ∧ a1 ∧ a2 ∧ a3 ∧ a4) (k : b0 ∧ b1 ∧ b2 ∧ b3 ∧ b4) : a0 ∧ a1 ∧ a2 ∧ a3 ∧ a4 ∧ b0 ∧ b1 ∧ b2 ∧ b3 ∧ b4 := ⟨h.1, h.2.1, h.2.2.1, h.2.2.2.1, h.2.2.2.2, k⟩
set_option maxRecDepth 100000 in
set_option maxHeartbeats 20000000 in
theorem superReads_walk (a b : ByteArray) (x0 x1 x2 x3 x4 y0 y1 y2 y3 y4 which sectors : Int) (w : World) (ha : a.size ≤ maxLen) (hb : b.size ≤ maxLen) :
    Calls Try.prog 6 #[.string a, .string b, .agg #[.int .i64 x0, .int .i64 x1, .int .i64 x2, .int .i64 x3, .int .i64 x4], .agg #[.int .i64 y0, .int .i64 y1, .int .i64 y2, .int .i64 y3, .int .i64 y4], .int .i64 which, .int .i64 sectors] w fun e w' => e = .returned (.bool true) ∧ Below w.heap.size w w' := by
  obtain ⟨T0, z0, hcut0⟩ := cut_law a 64 ha (by decide)
  obtain ⟨T1, z1, hcut1⟩ := cut_law b 64 hb (by decide)
  obtain ⟨s, hs, hfew⟩ := supFew_any x0 x1 x2 x3 x4
  obtain ⟨s', hs', hfew'⟩ := supFew_any y0 y1 y2 y3 y4
  obtain ⟨n, n2, n4, q, hq4, hq, hn⟩ := few_n sectors
  obtain ⟨p1, hp1', hp1⟩ := maskN which 1 (by decide)
  obtain ⟨p2, hp2', hp2⟩ := maskN which 2 (by decide)
  have hw1 : bits .and .i64 which 1 = (p1 : Int) := hp1'
  have hw2 : bits .and .i64 which 2 = (p2 : Int) := hp2'
  obtain ⟨q2, hq2⟩ : ∃ q2, q % 4095 = q2 := ⟨_, rfl⟩
  have hq0 : (q : Int) % 4095 = (q2 : Int) := by omega
  have hq3 : (q2 : Int) ≤ 4094 := by omega
  have HN : Hid (2 ≤ n ∧ n ≤ 4096 ∧ (2 : Int) + (q2 : Int) = (n : Int)) := Lib.hid ⟨n2, n4, by omega⟩
  clear hq2
  have HC0 : Hid (∀ w : World, Calls Try.prog 29 #[.string a, .int .i64 64] w fun e w' => e = .returned (.string T0) ∧ w = w') := Lib.hid hcut0
  have HC1 : Hid (∀ w : World, Calls Try.prog 29 #[.string b, .int .i64 64] w fun e w' => e = .returned (.string T1) ∧ w = w') := Lib.hid hcut1
  have HZ := Lib.hid (And.intro z0 z1)
  have HF := Lib.hid hfew
  have HF' := Lib.hid hfew'
  have HSs := Lib.hid (And.intro hs hs')
  clear hp1' hp2' n2 n4 hn hcut0 hcut1 z0 z1 hfew hfew' hs hs' ha hb
  obtain ⟨p3, hp3', hp3⟩ := maskN (which / 4) 1 (by decide)
  obtain ⟨p4, hp4', hp4⟩ := maskN (which / 8) 1 (by decide)
  have hw3 : bits .and .i64 (which / 4) 1 = (p3 : Int) := hp3'
  have hw4 : bits .and .i64 (which / 8) 1 = (p4 : Int) := hp4'
  have hb3 : (0 : Int) ≤ (p3 : Int) ∧ (p3 : Int) < 2 := by omega
  have hb4 : (0 : Int) ≤ (p4 : Int) ∧ (p4 : Int) < 2 := by omega
  clear hp3' hp4'
  have s1 : (w.alloc (.cells #[.int .i64 x0, .int .i64 x1, .int .i64 x2, .int .i64 x3, .int .i64 x4] 47)).heap.size = w.heap.size + 1 := by simp
  have HX0 : Hid (Holds w.heap.size (.cells #[.int .i64 x0, .int .i64 x1, .int .i64 x2, .int .i64 x3, .int .i64 x4] 47) ((w.alloc (.cells #[.int .i64 x0, .int .i64 x1, .int .i64 x2, .int .i64 x3, .int .i64 x4] 47)).alloc (.cells #[.int .i64 y0, .int .i64 y1, .int .i64 y2, .int .i64 y3, .int .i64 y4] 47))) := Lib.hid ((Holds.new w _).alloc _)
  have HY0 : Hid (Holds (w.heap.size + 1) (.cells #[.int .i64 y0, .int .i64 y1, .int .i64 y2, .int .i64 y3, .int .i64 y4] 47) ((w.alloc (.cells #[.int .i64 x0, .int .i64 x1, .int .i64 x2, .int .i64 x3, .int .i64 x4] 47)).alloc (.cells #[.int .i64 y0, .int .i64 y1, .int .i64 y2, .int .i64 y3, .int .i64 y4] 47))) := Lib.hid (by have := Holds.new (w.alloc (.cells #[.int .i64 x0, .int .i64 x1, .int .i64 x2, .int .i64 x3, .int .i64 x4] 47)) (.cells #[.int .i64 y0, .int .i64 y1, .int .i64 y2, .int .i64 y3, .int .i64 y4] 47); rw [s1] at this; exact this)
  have HB0 : Hid (Below w.heap.size w ((w.alloc (.cells #[.int .i64 x0, .int .i64 x1, .int .i64 x2, .int .i64 x3, .int .i64 x4] 47)).alloc (.cells #[.int .i64 y0, .int .i64 y1, .int .i64 y2, .int .i64 y3, .int .i64 y4] 47))) := Lib.hid (((Below.refl _ _).alloc (Nat.le_refl _) _).alloc (by rw [s1]; omega) _)
  clear s1
  go_enter Try.func6, Try.ntmps6
  go_wp2_with fail
  generalize (w.alloc (.cells #[.int .i64 x0, .int .i64 x1, .int .i64 x2, .int .i64 x3, .int .i64 x4] 47)).alloc (.cells #[.int .i64 y0, .int .i64 y1, .int .i64 y2, .int .i64 y3, .int .i64 y4] 47) = w0 at *
  refine (supAwake w0).mono ?_
  rintro e w1 ⟨rfl, hb1⟩
  have HX1 := Lib.hid (HX0.out.below hb1)
  have HY1 := Lib.hid (HY0.out.below hb1)
  have HB1 := Lib.hid (HB0.out.trans (hb1.mono HB0.out.size))
  have HRs : Hid (RS w w1.heap.size (.cells #[.int .i64 x0, .int .i64 x1, .int .i64 x2, .int .i64 x3, .int .i64 x4] 47) (.cells #[.int .i64 y0, .int .i64 y1, .int .i64 y2, .int .i64 y3, .int .i64 y4] 47) T0 T1 (w1.alloc (.cells #[.string T0, .string T1] 9))) := Lib.hid (by
    have h := Holds.new w1 (.cells #[.string T0, .string T1] 9)
    have h2 := HY1.out.lt
    obtain ⟨t0, t1, t2⟩ := twoAt h
    exact ⟨t0, t1, t2, HZ.out.1, HZ.out.2, h2, HX1.out.alloc _, HY1.out.alloc _, HB1.out.alloc HB1.out.size _⟩)
  clear hb1 HX0 HY0 HB0 HX1 HY1 HB1
  go_upto_region 5 with (first | (go_at_call 29; (with_reducible refine (HC0.out _).mono ?_); rintro e wz ⟨rfl, rfl⟩) | (go_at_call 29; (with_reducible refine (HC1.out _).mono ?_); rintro e wz ⟨rfl, rfl⟩))
  generalize w1.alloc (.cells #[.string T0, .string T1] 9) = w2 at *
  generalize w1.heap.size = L at *
  clear HC0 HC1 HZ
  go_upto_if 33 with fail
  have HBy := Lib.hid fun wx => refSupBytes_any s HSs.out.1 wx
  have HBy' := Lib.hid fun wx => refSupBytes_any s' HSs.out.2 wx
  have hp3 : p3 < 2 := by omega
  have hp4 : p4 < 2 := by omega
  have HP := Lib.hid (And.intro hp3 hp4)
  clear hp3 hp4
  go_cut [] (fun wx => ∃ U0 U1, RS w L (.cells #[.int .i64 x0, .int .i64 x1, .int .i64 x2, .int .i64 x3, .int .i64 x4] 47) (.cells #[.int .i64 y0, .int .i64 y1, .int .i64 y2, .int .i64 y3, .int .i64 y4] 47) U0 U1 wx)
  case first =>
    by_cases hp : p1 = 1
    · have hq1 : ((p1 : Int) == 1) = true := by rw [beq_iff_eq]; omega
      obtain ⟨l0, l1, l2, l3, l4⟩ := fiveAt HRs.out.x
      go_wp2_with fail
      refine (HF.out _).mono ?_
      rintro e w3 ⟨rfl, hb3⟩
      have HR3 := Lib.hid (HRs.out.step hb3)
      clear l0 l1 l2 l3 l4 hb3 HRs
      go_wp2_with fail
      refine (HBy.out _).mono ?_
      rintro e w4 ⟨rfl, hb4⟩
      have hr4 := HR3.out.step hb4
      have HR4 := Lib.hid (hr4.setp p3 HP.out.1 s.frame (by rw [s.frame_size]; decide))
      obtain ⟨T, hT⟩ := hr4.cellp p3 HP.out.1
      have hf := hr4.f p3
      clear hb4 hr4 HR3
      go_wp2_with fail
      go_meet
      exact HR4.out
    · have hq1 : ((p1 : Int) == 1) = false := by rw [beq_eq_false_iff_ne]; omega
      go_wp2_with fail
      go_meet
      exact ⟨T0, T1, HRs.out⟩
  case rest =>
    obtain ⟨U0, U1, hrs⟩ := hcut
    have HR2 := Lib.hid hrs
    clear hrs HRs HF HBy hw1 hw3 hb3
    go_upto_region 7 with fail
    go_upto_if 44 with fail
    go_cut [] (fun wx => ∃ U0 U1, RS w L (.cells #[.int .i64 x0, .int .i64 x1, .int .i64 x2, .int .i64 x3, .int .i64 x4] 47) (.cells #[.int .i64 y0, .int .i64 y1, .int .i64 y2, .int .i64 y3, .int .i64 y4] 47) U0 U1 wx)
    case first =>
      by_cases hp : p2 = 2
      · have hq1 : ((p2 : Int) == 2) = true := by rw [beq_iff_eq]; omega
        obtain ⟨l0, l1, l2, l3, l4⟩ := fiveAt HR2.out.y
        go_wp2_with fail
        refine (HF'.out _).mono ?_
        rintro e w3 ⟨rfl, hb3⟩
        have HR3 := Lib.hid (HR2.out.step hb3)
        clear l0 l1 l2 l3 l4 hb3 HR2
        go_wp2_with fail
        refine (HBy'.out _).mono ?_
        rintro e w4 ⟨rfl, hb5⟩
        have hr4 := HR3.out.step hb5
        have HR4 := Lib.hid (hr4.setp p4 HP.out.2 s'.frame (by rw [s'.frame_size]; decide))
        obtain ⟨T, hT⟩ := hr4.cellp p4 HP.out.2
        have hf := hr4.f p4
        clear hb5 hr4 HR3
        go_wp2_with fail
        go_meet
        exact HR4.out
      · have hq1 : ((p2 : Int) == 2) = false := by rw [beq_eq_false_iff_ne]; omega
        go_wp2_with fail
        go_meet
        exact ⟨U0, U1, HR2.out⟩
    case rest =>
      obtain ⟨V0, V1, hrs⟩ := hcut
      have HR5 := Lib.hid hrs
      clear hrs HR2 HF' HBy' hw2 hw4 hb4 HSs HP
      clear hp1 hp2 hp3 hp4 hq hq4 hq0
      go_wp2_with fail
      refine (new_any (2 + (q2 : Int)) wc).mono ?_
      rintro e w5 ⟨m, rfl, hM⟩
      obtain ⟨d, bs, bt, hm⟩ := hM.is
      have hdl : diskLen (2 + (q2 : Int)) = n := by have := HN.out; unfold diskLen; omega
      rw [hdl] at hm
      have hlc := cell_lt HR5.out.r0
      have hlw := HR5.out.lt
      have hdd := hM.at'
      have hof := hM.fresh
      have HRd0 : Hid (Rd w L (.cells #[.int .i64 x0, .int .i64 x1, .int .i64 x2, .int .i64 x3, .int .i64 x4] 47) (.cells #[.int .i64 y0, .int .i64 y1, .int .i64 y2, .int .i64 y3, .int .i64 y4] 47) m.d n m.own V0 V1 0 m V0 V1 w5) := Lib.hid ⟨rfl, by rw [hm]; rfl, rfl, by rw [hm]; exact live_new _ _ _ _, hdd, rfl, rfl, fun e => absurd e (by decide), fun e => absurd e (by decide), HR5.out.grew (hM.grew fun _ => False) (fun e => e) (fun _ e => e.elim), fun e => by have := hof _ e; omega, fun k e => by have := hof k e; omega⟩
      generalize m.own = O at *
      generalize m.d = p at *
      clear hM hm hdl hlc hlw hdd hof HR5
      go_wp2_with fail
      go_loopw [57] (fun i wx => ∃ k : Nat, ∃ M U0 U1, k ≤ 2 ∧ i = .int .i64 k ∧ Rd w L (.cells #[.int .i64 x0, .int .i64 x1, .int .i64 x2, .int .i64 x3, .int .i64 x4] 47) (.cells #[.int .i64 y0, .int .i64 y1, .int .i64 y2, .int .i64 y3, .int .i64 y4] 47) p n O V0 V1 k M U0 U1 wx) (fun i _ => 2 - (intOf i).toNat)
      case atStart => exact ⟨0, m, V0, V1, by omega, rfl, HRd0.out⟩
      case round =>
        obtain ⟨k, M, X0, X1, hk, rfl, hrd⟩ := hrel
        have HRd := Lib.hid hrd
        clear hrd HRd0
        by_cases hlt : k < 2
        · have i1 : (k : Int) < 2 := by omega
          have i0 : (0 : Int) ≤ (k : Int) := by omega
          obtain ⟨T, hT, hcT, hnow⟩ := HRd.out.now hlt
          have HT := Lib.hid hT
          have HNow := Lib.hid hnow
          have HWr : Hid (Calls Try.prog 30 #[.pointer (some ⟨p, 0, none⟩), .int .i64 (k : Int), .string T] wr fun e w' => e = .returned (.int .i64 0) ∧ DiskAt (M.wrote k (txtf T)) w' ∧ Grew O wr w') := Lib.hid (by
            have := lawWrite_live p M HRd.out.d k (by rw [HRd.out.n]; have := HN.out.1; omega) T HT.out HRd.out.live wr HRd.out.at'
            rw [HRd.out.own] at this
            exact this)
          have HLt := Lib.hid hlt
          clear hT hnow hk hlt HRd
          go_wp2_with fail
          refine HWr.out.mono ?_
          rintro e wy ⟨rfl, hd, hg⟩
          have HPd := Lib.hid (HNow.out wy hd hg)
          clear hd hg HWr HNow hcT
          go_wp2_with fail
          go_loopw [] (fun wx => ∃ j : Nat, Pd w L (.cells #[.int .i64 x0, .int .i64 x1, .int .i64 x2, .int .i64 x3, .int .i64 x4] 47) (.cells #[.int .i64 y0, .int .i64 y1, .int .i64 y2, .int .i64 y3, .int .i64 y4] 47) p n O V0 V1 k M T j wx) (fun wx => 64 - lenOf ((wx.cell? ⟨L, k, none⟩).getD undef))
          case atStart => exact ⟨0, HPd.out⟩
          case round =>
            obtain ⟨j, hpd⟩ := hrel
            have HP := Lib.hid hpd
            obtain ⟨hc, hf⟩ := hpd.cell HLt.out
            have HCc := Lib.hid hc
            have hsz := tail0_size T j
            have HSc := Lib.hid (tail0_succ T j)
            clear hpd HPd
            by_cases hj : T.size + j < 64
            · have HSt := Lib.hid (HP.out.step HLt.out hj)
              have hs1 : ((tail0 T j).size : Int) < 64 := by omega
              have HM : Hid (64 - (tail0 T (j + 1)).size < 64 - (tail0 T j).size) := Lib.hid (by rw [tail0_size, tail0_size]; omega)
              have hrun : ∀ wx : World, (Op.stringOp .add (tail0 T j) ⟨#[0]⟩).run Try.prog wx = .ok (.string (tail0 T (j + 1))) wx := fun wx => by
                rw [HSc.out]
                exact run_string_add_sum wx _ _ (by show (tail0 T j).size + 1 ≤ _; omega)
              generalize tail0 T (j + 1) = P1 at *
              generalize tail0 T j = P0 at *
              clear hsz HSc hj
              go_wp2_with fail
              go_roundw
              case rel => exact ⟨j + 1, HSt.out⟩
              case measure =>
                rw [set_same HCc.out, HCc.out]
                exact HM.out
            · have hs1 : ¬ ((tail0 T j).size : Int) < 64 := by have := HP.out.jz; omega
              obtain ⟨Y0, Y1, hrd2⟩ := HP.out.done HLt.out (by have := HP.out.jz; omega)
              have HRd2 := Lib.hid hrd2
              generalize tail0 T j = P0 at *
              clear hsz HSc hj hrd2 HP
              go_wp2_with fail
              go_roundw
              case rel => exact ⟨k + 1, _, Y0, Y1, by have := HLt.out; omega, by go_num, HRd2.out⟩
              case measure => simp [intOf]; have := HLt.out; omega
        · have i1 : ¬ (k : Int) < 2 := by omega
          have hk2 : k = 2 := by omega
          have HK2 : Hid (Rd w L (.cells #[.int .i64 x0, .int .i64 x1, .int .i64 x2, .int .i64 x3, .int .i64 x4] 47) (.cells #[.int .i64 y0, .int .i64 y1, .int .i64 y2, .int .i64 y3, .int .i64 y4] 47) p n O V0 V1 2 M X0 X1 wr) := Lib.hid (by rw [← hk2]; exact HRd.out)
          clear HRd hk hlt hk2
          have hu0 : X0 = pad64 V0 := HK2.out.u0
          have hu1 : X1 = pad64 V1 := HK2.out.u1
          have hs0 : sectOf M 0 = X0 := (HK2.out.m0 (by decide)).trans hu0.symm
          have hs1 : sectOf M 1 = X1 := (HK2.out.m1 (by decide)).trans hu1.symm
          have hz0 : X0.size = 64 := by rw [← hs0]; exact sectOf_size _ _
          have hz1 : X1.size = 64 := by rw [← hs1]; exact sectOf_size _ _
          have hla : lastOf M = refRd X0 X1 n := by
            rw [last_ref M (by rw [HK2.out.n]; exact HN.out.1), hs0, hs1, HK2.out.n]
          have HRr : Hid (∀ wx : World, Calls Try.prog 31 #[.string X0, .string X1, .int .i64 (2 + (q2 : Int))] wx fun e w' => e = .returned (.tuple #[.agg (refRd X0 X1 n).refCells, .bool (refIs X0 X1 n)]) ∧ Below wx.heap.size wx w') := Lib.hid fun wx => by
            rw [HN.out.2.2]
            exact refRead_any X0 X1 hz0 hz1 n (by have := HN.out.2.1; omega) wx
          have HLd := Lib.hid (lawSupRead_any p M HK2.out.d HK2.out.live.dead wr HK2.out.at')
          have HRS := Lib.hid HK2.out.rs
          unfold lastE at HLd
          rw [hla] at HLd
          have HSome : Hid (refIs X0 X1 n = true → ¬ (refRd X0 X1 n).ep = 0 ∧ (refRd X0 X1 n).fits) := Lib.hid rd_some
          have HNone : Hid (refIs X0 X1 n = false → refRd X0 X1 n = Sup.none) := Lib.hid rd_none
          clear hu0 hu1 hs0 hs1 hz0 hz1 hla HK2 HN
          generalize refRd X0 X1 n = R at *
          generalize refIs X0 X1 n = I at *
          cases I with
          | true =>
            obtain ⟨hne, hfit⟩ := HSome.out rfl
            rw [if_neg hne] at HLd
            have HOwn := Lib.hid fun wx => own_any R hfit wx
            clear HSome HNone hne hfit
            obtain ⟨e0, e1, e2, e3, e4⟩ := R
            dsimp only [Sup.refCells, Sup.cells] at *
            go_wp2_with fail
            refine HLd.out.mono ?_
            rintro e w6 ⟨rfl, hb6⟩
            have HRS7 := Lib.hid ((HRS.out.step hb6).step ((Below.refl _ w6).alloc (Nat.le_refl _) (.cells #[.int .u32 e0, .int .i64 e1, .int .i64 e2, .int .i64 e3, .int .u32 e4] 51)))
            have HT7 := Lib.hid (Holds.new w6 (.cells #[.int .u32 e0, .int .i64 e1, .int .i64 e2, .int .i64 e3, .int .u32 e4] 51))
            clear hb6 HRS HLd
            go_upto_region 19 with fail
            generalize w6.alloc (.cells #[.int .u32 e0, .int .i64 e1, .int .i64 e2, .int .i64 e3, .int .u32 e4] 51) = w7 at *
            generalize w6.heap.size = r at *
            go_cut [18, 19] (fun s18 s19 wx => ∃ u, s18 = .pointer (some ⟨u, 0, none⟩) ∧ s19 = .bool true ∧ Holds u (.cells #[.int .i64 e0, .int .i64 e1, .int .i64 e2, .int .i64 e3, .int .i64 e4] 47) wx ∧ Holds r (.cells #[.int .u32 e0, .int .i64 e1, .int .i64 e2, .int .i64 e3, .int .u32 e4] 51) wx ∧ Below w.heap.size w wx)
            case first =>
              have k0 := HRS7.out.r0
              have k1 := HRS7.out.r1
              have hL7 := cell_lt k0
              have HZA : Hid (Holds w7.heap.size zeroRef (w7.alloc zeroRef).drew) := Lib.hid (Holds.new w7 zeroRef).drew
              have HTA := Lib.hid (HT7.out.alloc zeroRef).drew
              have HTD := Lib.hid HT7.out.drew
              have HBA : Hid (Below w.heap.size w (w7.alloc zeroRef).drew) := Lib.hid (HRS7.out.below.alloc HRS7.out.below.size zeroRef).drew
              have HBD : Hid (Below w.heap.size w w7.drew) := Lib.hid HRS7.out.below.drew
              have hr7 := HT7.out.lt
              have HW7 : Hid (w.heap.size ≤ w7.heap.size) := Lib.hid HRS7.out.below.size
              go_region_with (go_at_call 31; (with_reducible refine (HRr.out _).mono ?_); rintro e wa ⟨rfl, hba⟩; (first | (have HTa := Lib.hid (HTA.out.below hba); have HBa := Lib.hid (HBA.out.trans (hba.mono HBA.out.size)); have HZa := Lib.hid (HZA.out.below hba); obtain ⟨⟨z0, z1, z2, z3, z4⟩, g0, g1, g2, g3, g4⟩ := zero_cells HZa.out) | (have HTa := Lib.hid (HTD.out.below hba); have HBa := Lib.hid (HBD.out.trans (hba.mono HBD.out.size)))); clear hba)
              all_goals
                go_wp2_with fail
                go_meet
                refine ⟨_, rfl, rfl, ?_⟩
                first
                  | (with_reducible exact ⟨Holds.new wa _, HTa.out.alloc _, HBa.out.alloc HBa.out.size _⟩)
                  | (with_reducible exact ⟨HZa.out.five _ _ _ _ _, HTa.out.set5 (Nat.ne_of_lt hr7) _ _ _ _ _, below_set5 HBa.out _ HW7.out _ _ _ _ _⟩)
            case rest =>
              obtain ⟨u, rfl, rfl, hu, ht, hbw⟩ := hcut
              have HU := Lib.hid hu
              have HT := Lib.hid ht
              have HBw := Lib.hid hbw.drew
              clear hu ht hbw HRS7 HT7 HRr
              go_upto_region 22 with fail
              have HOq := Lib.hid (HOwn.out wc.drew)
              have HKd : Hid (wc.drew.cell? ⟨r, 0, none⟩ = some (.int .u32 e0) ∧ wc.drew.cell? ⟨r, 1, none⟩ = some (.int .i64 e1) ∧ wc.drew.cell? ⟨r, 2, none⟩ = some (.int .i64 e2) ∧ wc.drew.cell? ⟨r, 3, none⟩ = some (.int .i64 e3) ∧ wc.drew.cell? ⟨r, 4, none⟩ = some (.int .u32 e4) ∧ wc.drew.cell? ⟨u, 0, none⟩ = some (.int .i64 e0) ∧ wc.drew.cell? ⟨u, 1, none⟩ = some (.int .i64 e1) ∧ wc.drew.cell? ⟨u, 2, none⟩ = some (.int .i64 e2) ∧ wc.drew.cell? ⟨u, 3, none⟩ = some (.int .i64 e3) ∧ wc.drew.cell? ⟨u, 4, none⟩ = some (.int .i64 e4)) := Lib.hid (and_ten (fiveAt HT.out) (fiveAt HU.out))
              have HKb : Hid (∀ wx, Below wc.drew.heap.size wc.drew wx → (wx.cell? ⟨r, 0, none⟩ = some (.int .u32 e0) ∧ wx.cell? ⟨r, 1, none⟩ = some (.int .i64 e1) ∧ wx.cell? ⟨r, 2, none⟩ = some (.int .i64 e2) ∧ wx.cell? ⟨r, 3, none⟩ = some (.int .i64 e3) ∧ wx.cell? ⟨r, 4, none⟩ = some (.int .u32 e4) ∧ wx.cell? ⟨u, 0, none⟩ = some (.int .i64 e0) ∧ wx.cell? ⟨u, 1, none⟩ = some (.int .i64 e1) ∧ wx.cell? ⟨u, 2, none⟩ = some (.int .i64 e2) ∧ wx.cell? ⟨u, 3, none⟩ = some (.int .i64 e3) ∧ wx.cell? ⟨u, 4, none⟩ = some (.int .i64 e4))) := Lib.hid fun wx hb => and_ten (fiveAt (HT.out.drew.below hb)) (fiveAt (HU.out.drew.below hb))
              go_region_held3 (fun wx => wx.cell? ⟨r, 0, none⟩ = some (.int .u32 e0) ∧ wx.cell? ⟨r, 1, none⟩ = some (.int .i64 e1) ∧ wx.cell? ⟨r, 2, none⟩ = some (.int .i64 e2) ∧ wx.cell? ⟨r, 3, none⟩ = some (.int .i64 e3) ∧ wx.cell? ⟨r, 4, none⟩ = some (.int .u32 e4) ∧ wx.cell? ⟨u, 0, none⟩ = some (.int .i64 e0) ∧ wx.cell? ⟨u, 1, none⟩ = some (.int .i64 e1) ∧ wx.cell? ⟨u, 2, none⟩ = some (.int .i64 e2) ∧ wx.cell? ⟨u, 3, none⟩ = some (.int .i64 e3) ∧ wx.cell? ⟨u, 4, none⟩ = some (.int .i64 e4))
                (first | (with_reducible exact HKd.out) | (with_reducible exact HK3.out))
                (first | (go_at_call 23; (with_reducible refine HOq.out.mono ?_); rintro e wz ⟨rfl, hbz⟩; (have HK3 := Lib.hid (HKb.out _ hbz)); (have HBz := Lib.hid (HBw.out.trans (hbz.mono HBw.out.size))); clear hbz))
              all_goals
                go_wp2_with fail
                go_ret
                exact ⟨rfl, HBz.out⟩
          | false =>
            have hR := HNone.out rfl
            subst hR
            rw [if_pos (show Sup.none.ep = 0 from rfl)] at HLd
            clear HSome HNone
            dsimp only [Sup.refCells, Sup.cells, Sup.none] at *
            go_wp2_with fail
            refine HLd.out.mono ?_
            rintro e w6 ⟨rfl, hb6⟩
            obtain ⟨W7, hW7⟩ : ∃ W7, w6.alloc zeroSup = W7 := ⟨_, rfl⟩
            have HRS7 : Hid (RS w L (.cells #[.int .i64 x0, .int .i64 x1, .int .i64 x2, .int .i64 x3, .int .i64 x4] 47) (.cells #[.int .i64 y0, .int .i64 y1, .int .i64 y2, .int .i64 y3, .int .i64 y4] 47) X0 X1 W7) := Lib.hid (by rw [← hW7]; exact (HRS.out.step hb6).step ((Below.refl _ w6).alloc (Nat.le_refl _) zeroSup))
            have HT7 : Hid (Holds w6.heap.size zeroSup W7) := Lib.hid (by rw [← hW7]; exact Holds.new w6 zeroSup)
            have HW7 := Lib.hid hW7
            clear hb6 HRS HLd hW7
            go_upto_region 19 with fail
            change Code.wp _ _ _ _ (w6.alloc zeroSup)
            rw [HW7.out]
            clear HW7
            generalize w6.heap.size = r at *
            go_cut [18, 19] (fun s18 s19 wx => s19 = .bool false ∧ Holds r zeroSup wx ∧ Below w.heap.size w wx)
            case first =>
              have k0 := HRS7.out.r0
              have k1 := HRS7.out.r1
              have hL7 := cell_lt k0
              have HZA : Hid (Holds W7.heap.size zeroRef (W7.alloc zeroRef).drew) := Lib.hid (Holds.new W7 zeroRef).drew
              have HTA := Lib.hid (HT7.out.alloc zeroRef).drew
              have HTD := Lib.hid HT7.out.drew
              have HBA : Hid (Below w.heap.size w (W7.alloc zeroRef).drew) := Lib.hid (HRS7.out.below.alloc HRS7.out.below.size zeroRef).drew
              have HBD : Hid (Below w.heap.size w W7.drew) := Lib.hid HRS7.out.below.drew
              have hr7 := HT7.out.lt
              have HWs : Hid (w.heap.size ≤ W7.heap.size) := Lib.hid HRS7.out.below.size
              go_region_with (go_at_call 31; (with_reducible refine (HRr.out _).mono ?_); rintro e wa ⟨rfl, hba⟩; (first | (have HTa := Lib.hid (HTA.out.below hba); have HBa := Lib.hid (HBA.out.trans (hba.mono HBA.out.size)); have HZa := Lib.hid (HZA.out.below hba); obtain ⟨⟨z0, z1, z2, z3, z4⟩, g0, g1, g2, g3, g4⟩ := zero_cells HZa.out) | (have HTa := Lib.hid (HTD.out.below hba); have HBa := Lib.hid (HBD.out.trans (hba.mono HBD.out.size)))); clear hba)
              all_goals
                go_wp2_with fail
                go_meet
                refine ⟨rfl, ?_⟩
                first
                  | (with_reducible exact ⟨HTa.out.alloc _, HBa.out.alloc HBa.out.size _⟩)
                  | (with_reducible exact ⟨HTa.out.set5 (Nat.ne_of_lt hr7) _ _ _ _ _, below_set5 HBa.out _ HWs.out _ _ _ _ _⟩)
            case rest =>
              obtain ⟨rfl, ht, hbw⟩ := hcut
              have HBw := Lib.hid hbw
              obtain ⟨m0, m1, m2, m3, m4⟩ := fiveAt ht
              clear ht hbw HRS7 HT7 HRr
              go_wp2_with fail
              go_ret
              exact ⟨rfl, HBw.out⟩
end Go.Proofs.Ytmpegfmhnciemaa
