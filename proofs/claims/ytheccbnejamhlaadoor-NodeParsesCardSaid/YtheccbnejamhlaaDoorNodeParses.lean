/-
  NodeParses: for every text, every level, with or without its sum, the law answers true.
-/
import Derived.Test.YtheccbnejamhlaaDoorNodeOwn
import Derived.Test.YtheccbnejamhlaaDoorCut
import Derived.Deep.DeepCutAuto
import Derived.BigRegion
namespace Go.Proofs.YtheccbnejamhlaaDoor
open Go.RowKit

theorem wpList_load_g2 {P : Program} {ops : Array Oper} {rest : List Oper} {op : Oper} {a : Act} {w : World} {Q : Exit → Act → World → Prop} (hw : Region.wanted op (yielded ops a.tmps) = true) (ty : TypeId) (x : Operand) (ho : op.op = .load ty x)
    (b o : Nat) (hx : a.eval x = .pointer (some ⟨b, o, none⟩)) (cs : List Value) (d : TypeDesc) (hc : w.rangeAt b o cs)
    (hu : P.underlying ty = some d) (hd : d.isRow = true) (hi : (P.info? ty).map (·.size) = some cs.length)
    (h : wpList P ops Q rest (a.put op.dst (.agg cs.toArray)) w) : wpList P ops Q (op :: rest) a w := by
  refine wpList_step fun K hK => ?_
  rw [if_pos hw]
  exact wp_load_mid ty x ho b o hx cs d hc hu hd hi (hK _ _ h)
/-- how long a text is -/
def lenOf : Value → Nat
  | .string x => x.size
  | _ => 0
set_option maxRecDepth 100000 in
set_option maxHeartbeats 1000000 in
theorem nodeParses_walk (a0 : ByteArray) (w0 : a0.size ≤ maxLen) (a1 : Int) (a2 a3 : Bool) (w : World) :
    Calls Tryd.prog 6 #[.string a0, .int .i64 a1, .bool a2, .bool a3] w fun e w' => e = .returned (.bool true) ∧ Below w.heap.size w w' := by
  have hc := cut_any a0 70 w w0 (by omega)
  have ht : (a0.extract 0 (min 70 a0.size)).size ≤ 70 := by rw [ByteArray.size_extract]; omega
  generalize a0.extract 0 (min 70 a0.size) = t0 at hc ht
  have HT0 := Lib.hid ht
  have HCt := Lib.hid hc
  clear hc ht w0
  go_enter Tryd.func6, Tryd.ntmps6
  go_wp2_with fail
  refine HCt.out.mono ?_
  rintro e w' ⟨rfl, rfl⟩
  clear HCt
  go_wp2_with fail
  refine (nodeAwake _).mono ?_
  rintro e w1 ⟨rfl, hb1⟩
  have HB1 := Lib.hid hb1
  clear hb1
  go_upto_if 19 with fail
  go_cut [0] (fun v wx => ∃ t : ByteArray, v = .string t ∧ t.size ≤ 70 ∧ Below w.heap.size w wx)
  case first =>
    cases a2 with
    | false =>
      go_wp2_with fail
      go_meet
      exact ⟨t0, rfl, HT0.out, HB1.out⟩
    | true =>
      go_wp2_with fail
      go_loop [0] (fun s => ∃ t : ByteArray, s = .string t ∧ t.size ≤ 70) (fun s => 60 - lenOf s)
      case atStart => exact ⟨t0, rfl, HT0.out⟩
      case round =>
        obtain ⟨t, rfl, htl⟩ := hrel
        by_cases hlt : t.size < 60
        · have i0 : (t.size : Int) < 60 := by omega
          have hz : (t ++ ⟨#[0]⟩).size = t.size + 1 := by rw [ByteArray.size_append]; rfl
          have hadd := add_str t ⟨#[0]⟩ (t ++ ⟨#[0]⟩) rfl (by rw [← ByteArray.size_append, hz]; unfold maxLen; omega)
          generalize t ++ ⟨#[0]⟩ = t1 at *
          go_wp2_with fail
          go_round
          case rel => exact ⟨t1, rfl, by omega⟩
          case measure => show 60 - t1.size < 60 - t.size; omega
        · have i0 : ¬ (t.size : Int) < 60 := by omega
          have i60 : (60 : Int) ≤ (t.size : Int) := by omega
          have hK := crc_lt (t.extract 0 60).data.toList
          have uK := u32_as_u64 _ hK
          have hz60 : (t.extract 0 60).size = 60 := by rw [ByteArray.size_extract]; omega
          have HC := Lib.hid fun wx => C.ref_any (t.extract 0 60) wx (by rw [hz60]; decide)
          have HN := Lib.hid fun wx => refNum_any (C.Crc.sum (t.extract 0 60).data.toList) 4 wx (by omega)
          rw [wid4] at HN
          have hz4 := enc_size (C.Crc.sum (t.extract 0 60).data.toList) 4
          generalize C.Crc.sum (t.extract 0 60).data.toList = K at *
          generalize (⟨(enc K 4).toArray⟩ : ByteArray) = e4 at *
          have hzu : (t.extract 0 60 ++ e4).size = 64 := by rw [ByteArray.size_append]; omega
          have hadd := add_str (t.extract 0 60) e4 (t.extract 0 60 ++ e4) rfl (by rw [← ByteArray.size_append, hzu]; decide)
          generalize t.extract 0 60 ++ e4 = u at *
          have HZu := Lib.hid hzu
          clear hzu hz4 hz60 hlt
          go_upto_region 7 with fail
          go_cut [0] from 25 to 33 (fun v wx => v = .string u ∧ Below w.heap.size w wx)
          case first =>
            go_region_with (first
              | (go_at_call 23; (with_reducible refine (HC.out _).mono ?_); rintro e w' ⟨rfl, rfl⟩)
              | (go_at_call 22; (with_reducible refine (HN.out _).mono ?_); rintro e w2 ⟨rfl, hb2⟩; (have HB2 := Lib.hid hb2); clear hb2))
            all_goals
              go_wp2_with fail
              go_meet
              exact ⟨rfl, (HB1.out.drew).trans (HB2.out.mono HB1.out.size)⟩
          case rest =>
            obtain ⟨rfl, hb3⟩ := hcut
            have HB3 := Lib.hid hb3
            clear hb3 hadd HC HN
            cases a3 with
            | false =>
              go_wp2_with fail
              go_meet
              exact ⟨u, rfl, by have := HZu.out; omega, HB3.out⟩
            | true =>
              have hz : (u ++ ⟨#[120]⟩).size = 65 := by rw [ByteArray.size_append]; show u.size + 1 = 65; have := HZu.out; omega
              have hadd := add_str u ⟨#[120]⟩ (u ++ ⟨#[120]⟩) rfl (by rw [← ByteArray.size_append, hz]; decide)
              generalize u ++ ⟨#[120]⟩ = u1 at *
              go_wp2_with fail
              go_meet
              exact ⟨u1, rfl, by omega, HB3.out⟩
  case rest =>
    obtain ⟨t, rfl, htl, hb⟩ := hcut
    have HT := Lib.hid htl
    have HB := Lib.hid hb
    clear htl hb HT0 HB1
    have HLp := Lib.hid fun wx => lawParse_any t a1 wx
    have HRp := Lib.hid fun wx => refNodeParse_any t (by have := HT.out; unfold maxLen; omega) a1 wx
    obtain ⟨N, hN⟩ : ∃ N, parsedN t a1 = N := ⟨_, rfl⟩
    have HNl : Hid (N.length = 41) := Lib.hid (by rw [← hN]; exact parsedN_len _ _)
    have HNo : Hid (N.toArray.all (·.oneCell') = true) := Lib.hid (by rw [← hN]; exact parsedN_one _ _)
    have HIN : Hid ((Tryd.prog.info? 34).map (·.size) = some N.toArray.size) := Lib.hid (by rw [List.size_toArray, HNl.out]; kernel_rfl)
    have HIN2 : Hid ((Tryd.prog.info? 34).map (·.size) = some N.length) := Lib.hid (by rw [HNl.out]; kernel_rfl)
    have HOw := Lib.hid (own_back t a1)
    have HNN : Hid (parsedN t a1 = N) := Lib.hid hN
    rw [hN] at HLp
    obtain ⟨E, hE⟩ : ∃ E, parseE t a1 = E := ⟨_, rfl⟩
    have HE : Hid (parseE t a1 = E) := Lib.hid hE
    rw [hE] at HLp HRp HOw
    have HNz : Hid (E ≠ 0 → N = nodeL 0 (fun _ => 0) (fun _ => 0)) := Lib.hid fun h => by rw [← hN]; unfold parsedN; rw [if_neg (by rw [hE]; exact h)]
    have HNy : Hid (E = 0 → N = nodeOf t) := Lib.hid fun h => by rw [← hN]; unfold parsedN; rw [if_pos (by rw [hE]; exact h)]
    clear hN hE HE HNN
    obtain ⟨TX, hTX⟩ : ∃ TX : ByteArray, (⟨(txt (byteS (ahead t))).toArray⟩ : ByteArray) = TX := ⟨_, rfl⟩
    obtain ⟨KD, hKD⟩ : ∃ KD, saysKid (ahead t) = KD := ⟨_, rfl⟩
    have HTX := Lib.hid hTX
    have HKD := Lib.hid hKD
    rw [hTX, hKD] at HRp
    clear hTX hKD
    have HAl := alloc_node
    obtain ⟨ZN, hZN⟩ : ∃ ZN, (nodeL 0 (fun _ => 0) (fun _ => 0)).toArray = ZN := ⟨_, rfl⟩
    have HZN := Lib.hid hZN
    rw [hZN] at HAl
    clear hZN
    go_wp2_with fail
    refine (HLp.out _).mono ?_
    rintro e w3 ⟨rfl, hb3⟩
    have HB3 := Lib.hid (HB.out.trans (hb3.mono HB.out.size))
    clear hb3 HLp
    have HTh3 : Hid ((w3.alloc (.cells ZN 34)).there w3.heap.size 0 N.toArray.size) := Lib.hid (by rw [← HZN.out]; exact (node0_cells w3).there 0 _ (by have := HNl.out; simp [this]))
    have HB4 : Hid (Below w.heap.size w ((w3.alloc (.cells ZN 34)).setCells w3.heap.size 0 N)) := Lib.hid (below_row (HB3.out.alloc HB3.out.size _) N HB3.out.size)
    have HM4 : Hid (Cells w3.heap.size 41 (cellsAt N) ((w3.alloc (.cells ZN 34)).setCells w3.heap.size 0 N)) := Lib.hid (by rw [← HZN.out]; exact (node0_cells w3).fill HNl.out)
    go_upto_region 11 with (first
      | (refine wpList_alloc rfl 34 rfl _ (HAl _) ?_)
      | (refine wpList_store_mid rfl 34 _ _ rfl w3.heap.size 0 N.toArray rfl rfl HTh3.out HIN.out HNo.out ?_))
    clear HTh3 HB3 HAl
    generalize (w3.alloc (.cells ZN 34)).setCells w3.heap.size 0 N = w4 at *
    generalize w3.heap.size = n at *
    go_wp2_with fail
    refine (HRp.out _).mono ?_
    rintro e w5 ⟨hb5, hno, hyes⟩
    have HB5 := Lib.hid (HB4.out.trans (hb5.mono HB4.out.size))
    have HM5 := Lib.hid (HM4.out.below hb5)
    clear hb5 HB4 HM4 HRp
    by_cases hE0 : E = 0
    case neg =>
      obtain rfl := hno hE0
      have HEm : Hid (∀ wx : World, Calls Tryd.prog 21 #[.agg N.toArray] wx fun e w' => e = .returned (.bool true) ∧ Below wx.heap.size wx w') := Lib.hid fun wx => by
        rw [HNz.out hE0]
        have := empty_any 0 (fun _ => 0) (fun _ => 0) wx
        rwa [allz0] at this
      have hr := Cells.all HNl.out HM5.out
      have j0 : ((E : Int) != 0) = true := by rw [bne_iff_ne]; omega
      clear hno hyes HOw HNz HNy hE0
      go_wp2_with (with_reducible refine wpList_load_g2 (by kernel_rfl) 34 _ rfl n 0 rfl N _ hr Tryd.underlying34 rfl HIN2.out ?_)
      refine (HEm.out _).mono ?_
      rintro e w6 ⟨rfl, hb6⟩
      have HB6 := Lib.hid (HB5.out.trans (hb6.mono HB5.out.size))
      clear hb6
      go_wp2_with fail
      go_ret
      exact ⟨rfl, HB6.out⟩
    obtain ⟨g1, cap1, rfl, hkd, hg1⟩ := hyes hE0
    have HKd := Lib.hid hkd
    obtain ⟨hlv, hown⟩ := HOw.out hE0
    have hNN := HNy.out hE0
    subst hE0
    have HM6 : Hid (Cells n 41 (cellsAt (nodeL a1 (kidsTo (ahead t) 8) (byteS (ahead t)))) w5) := Lib.hid (by have h := HM5.out; rw [hNN] at h; unfold nodeOf at h; rw [hlv] at h; exact h)
    have HKk : Hid (∀ k, k < 8 → kidsTo (ahead t) 8 k = KD k) := Lib.hid fun k hk => by unfold kidsTo; rw [if_pos hk, HKD.out]
    have HSum : Hid (∀ wx : World, Calls Tryd.prog 13 #[.agg (arr (byteS (ahead t))).toArray] wx fun e w' => e = .returned (.string TX) ∧ Below wx.heap.size wx w') := Lib.hid fun wx => by
      rw [← HTX.out]
      exact text_any (byteS (ahead t)) (byteS_lt _) wx
    have HBy : Hid (∀ wx : World, Calls Tryd.prog 18 #[.agg N.toArray] wx fun e w' => e = .returned (.string t) ∧ Below wx.heap.size wx w') := Lib.hid fun wx => by
      have h := bytes_any (saysLevel (ahead t)) (saysLevel_lt _) (kidsTo (ahead t) 8) (byteS (ahead t)) (fun j => by unfold kidsTo; split; exact saysKid_lt _ _; decide) (byteS_lt _) wx
      have e : (⟨(sealed (nodeT (saysLevel (ahead t)) (kidsTo (ahead t) 8) (byteS (ahead t)))).toArray⟩ : ByteArray) = t := hown
      rw [e] at h
      rw [hNN]
      exact h
    clear hno hyes HOw HNz HNy hown hlv hNN hkd hg1 HTX HKD
    go_wp2_with fail
    go_loopw [60] (fun i wx => ∃ k : Nat, k ≤ 8 ∧ i = .int .i64 (k : Int) ∧ KidsAt g1 KD wx ∧ Cells n 41 (cellsAt (nodeL a1 (kidsTo (ahead t) 8) (byteS (ahead t)))) wx ∧ Cells n 41 (cellsAt N) wx ∧ Below w.heap.size w wx) (fun i _ => 8 - (intOf i).toNat)
    case atStart => exact ⟨0, by omega, rfl, HKd.out, HM6.out, HM5.out, HB5.out⟩
    case round =>
      obtain ⟨k, hk, rfl, hkr, hmr, hnr, hbr⟩ := hrel
      have HKr := Lib.hid hkr
      have HMr := Lib.hid hmr
      have HNr := Lib.hid hnr
      have HBr := Lib.hid hbr
      clear hkr hmr hnr hbr HKd HM6 HM5 HB5
      by_cases hlt : k < 8
      · have i0 : (k : Int) < 8 := by omega
        have i1 : (0 : Int) ≤ (k : Int) := by omega
        have hc1 := HKr.out k hlt
        have hc2 := (HMr.out.2 (1 + k) (by omega)).1
        have e1 : cellsAt (nodeL a1 (kidsTo (ahead t) 8) (byteS (ahead t))) (1 + k) = .int .i64 (KD k : Nat) := by
          unfold cellsAt
          rw [List.getD_eq_getElem?_getD, nodeL_kid _ _ _ k hlt, HKk.out k hlt]
          rfl
        rw [e1] at hc2
        have HK := Lib.hid hlt
        clear e1 hlt hk
        generalize KD k = x at *
        go_wp2_with fail
        go_region
        go_wp2_with fail
        go_roundw
        case rel => exact ⟨k + 1, by have := HK.out; omega, by go_num, HKr.out, HMr.out.drew, HNr.out.drew, HBr.out.drew⟩
        case measure => simp [intOf]; have := HK.out; omega
      · have i0 : ¬ (k : Int) < 8 := by omega
        obtain rfl : k = 8 := by omega
        have hcl := (HMr.out.2 0 (by omega)).1
        have e0 : cellsAt (nodeL a1 (kidsTo (ahead t) 8) (byteS (ahead t))) 0 = .int .i64 a1 := rfl
        rw [e0] at hcl
        have hrs := nb_sum (Cells.all (nodeL_len _ _ _) HMr.out)
        obtain ⟨X, hX⟩ : ∃ X, arr (byteS (ahead t)) = X := ⟨_, rfl⟩
        have HIX : Hid ((Tryd.prog.info? 24).map (·.size) = some X.length) := Lib.hid (by rw [← hX, arr_len]; kernel_rfl)
        rw [hX] at HSum hrs
        clear hX e0 hlt hk HMr HKr HKk
        go_wp2_with (with_reducible refine wpList_load_g2 (by kernel_rfl) 24 _ rfl n 9 rfl X _ hrs Tryd.underlying24 rfl HIX.out ?_)
        refine (HSum.out _).mono ?_
        rintro e w7 ⟨rfl, hb7⟩
        have HB7 := Lib.hid (HBr.out.trans (hb7.mono HBr.out.size))
        have hr7 := Cells.all HNl.out (HNr.out.below hb7)
        clear hb7 hcl hrs
        go_wp2_with (with_reducible refine wpList_load_g2 (by kernel_rfl) 34 _ rfl n 0 rfl N _ hr7 Tryd.underlying34 rfl HIN2.out ?_)
        refine (HBy.out _).mono ?_
        rintro e w8 ⟨rfl, hb8⟩
        have HB8 := Lib.hid (HB7.out.trans (hb8.mono HB7.out.size))
        clear hb8 hr7
        go_wp2_with fail
        go_ret
        exact ⟨rfl, HB8.out⟩
end Go.Proofs.YtheccbnejamhlaaDoor
