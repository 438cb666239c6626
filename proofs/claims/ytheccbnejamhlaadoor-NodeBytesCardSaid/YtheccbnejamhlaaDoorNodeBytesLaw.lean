/-
  NodeBytes: for every level, all kids, every sum, whichever byte is turned, the law answers true.
-/
import Derived.Test.YtheccbnejamhlaaDoorNodeBacks
import Derived.Test.YtheccbnejamhlaaDoorShaSpoil
import Derived.Deep.RegionHeld3
namespace Go.Proofs.YtheccbnejamhlaaDoor
open Go.RowKit

/-- behind the loop: the sum that came in, the node, the kids' row -/
structure NzW (w : World) (q n g : Nat) (N : List Value) (kd f : Nat → Nat) (wx : World) : Prop where
  sum : Cells (q + 1) 32 (fun j => .int .u8 (f j : Nat)) wx
  node : Cells n 41 (cellsAt N) wx
  kids : KidsAt g kd wx
  below : Below w.heap.size w wx
theorem NzW.step {w : World} {q n g : Nat} {N : List Value} {kd f : Nat → Nat} {wx wy : World} (h : NzW w q n g N kd f wx) (b : Below wx.heap.size wx wy) : NzW w q n g N kd f wy :=
  ⟨h.sum.below b, h.node.below b, h.kids.below b, h.below.trans (b.mono h.below.size)⟩
theorem yieldsIf_build0 {P : Program} {ops : Array Oper} {S : World → Prop} {op : Oper} {a : Act} (hw : Region.wanted op (yielded ops a.tmps) = true) (ty : TypeId) (ho : op.op = .build ty #[]) (v : Value)
    (hrun : ∀ w : World, (Instr.build ty #[]).run P w = .ok v w) : YieldsIf P ops S op v a :=
  .inl ⟨hw, fun w _ => by
    unfold execOp
    simp only [ho, Sem.run_bind, Sem.run_pure, Result.andThen_ok, List.map_toArray, List.map_nil, hrun]⟩
theorem slice_arr (b : Nat) : ∀ w : World, (Instr.sliceAt 23 (.pointer (some ⟨b, 0, none⟩)) none none none).run Tryd.prog w = .ok (.slice (some ⟨b, 0, none⟩) 32 32) w := by
  intro w
  kernel_rfl
theorem txt_getD (f : Nat → Nat) (hf : ∀ j, f j < 256) (j : Nat) (hj : j < 32) : ((txt f).getD j 0).toNat = f j := by
  unfold txt
  rw [List.getD_eq_getElem?_getD, List.getElem?_map, List.getElem?_range hj]
  show (UInt8.ofNat (f j)).toNat = f j
  rw [UInt8.toNat_ofNat']
  exact Nat.mod_eq_of_lt (hf j)
theorem sum_row {b : Nat} {f : Nat → Nat} {w : World} (hf : ∀ j, f j < 256) (h : Cells b 32 (fun j => .int .u8 (f j : Nat)) w) : RowIs b 32 (fun j => ((txt f).getD j 0).toNat) w :=
  ⟨h.1, fun j hj => by
    show w.cell? ⟨b, j, none⟩ = some (.int .u8 (((txt f).getD j 0).toNat : Nat)) ∧ _
    rw [txt_getD f hf j hj]
    exact h.2 j hj⟩
set_option maxRecDepth 100000 in
set_option maxHeartbeats 1000000 in
theorem nodeBytes_walk (a0 : Int) (K : Nat → Int) (f : Nat → Nat) (hf : ∀ j, f j < 256) (a3 : Int) (c : Nat) (hc : c < 256) (w : World) :
    Calls Tryd.prog 5 #[.int .i64 a0, .agg (intsL K).toArray, .agg (arr f).toArray, .int .i64 a3, .int .u8 c] w fun e w' => e = .returned (.bool true) ∧ Below w.heap.size w w' := by
  obtain ⟨lv, hlv', hlv⟩ := maskN a0 255 (by decide)
  have h1 : bits .and .i64 a0 255 = (lv : Int) := hlv'
  have HLv : Hid (lv < 256) := Lib.hid (by omega)
  obtain ⟨kd, hkd⟩ : ∃ kd : Nat → Nat, ∀ j, bits .and .i64 (K j) 65535 = (kd j : Int) ∧ kd j < 65536 := ⟨fun j => kdOf (K j), fun j => kdOf_eq (K j)⟩
  have HKd := Lib.hid hkd
  have HF := Lib.hid hf
  have HCl := Lib.hid hc
  have HIA : Hid ((Tryd.prog.info? 23).map (·.size) = some (arr f).length) := Lib.hid (by rw [arr_len]; kernel_rfl)
  have hbn := build_node (lv : Int) f
  clear hlv' hlv hkd hf hc
  have hsz1 : (w.alloc (.cells (intsL K).toArray 32)).heap.size = w.heap.size + 1 := by simp
  have HSm : Hid (Cells (w.heap.size + 1) 32 (fun j => .int .u8 (f j : Nat)) ((w.alloc (.cells (intsL K).toArray 32)).alloc (.cells (arr f).toArray 23))) := Lib.hid (by rw [← hsz1]; exact box_cells)
  have HRk : Hid (((w.alloc (.cells (intsL K).toArray 32)).alloc (.cells (arr f).toArray 23)).rangeAt w.heap.size 0 (intsL K)) := Lib.hid (World.rangeAt_alloc box_range0 _)
  have HB0 : Hid (Below w.heap.size w ((w.alloc (.cells (intsL K).toArray 32)).alloc (.cells (arr f).toArray 23))) := Lib.hid (((Below.refl _ w).alloc (Nat.le_refl _) _).alloc (by simp) _)
  obtain ⟨X, hX⟩ : ∃ X, arr f = X := ⟨_, rfl⟩
  obtain ⟨KI, hKI⟩ : ∃ KI, intsL K = KI := ⟨_, rfl⟩
  obtain ⟨N0, hN0⟩ : ∃ N0, nodeL (lv : Int) (fun _ => 0) f = N0 := ⟨_, rfl⟩
  have HX := Lib.hid hX
  have HKI := Lib.hid hKI
  have HN0 := Lib.hid hN0
  have HNl : Hid (N0.length = 41) := Lib.hid (by rw [← hN0]; exact nodeL_len _ _ _)
  have HNo : Hid (N0.toArray.all (·.oneCell') = true) := Lib.hid (by rw [← hN0]; exact nodeL_one _ _ _)
  have HIN : Hid ((Tryd.prog.info? 34).map (·.size) = some N0.toArray.size) := Lib.hid (by rw [List.size_toArray, HNl.out]; kernel_rfl)
  rw [hX] at HSm HB0 HRk HIA hbn ⊢
  rw [hKI] at HSm HB0 HRk ⊢
  rw [hN0] at hbn
  clear hX hKI hN0 hsz1
  go_enter Tryd.func5, Tryd.ntmps5
  go_wp2_with fail
  refine (nodeAwake _).mono ?_
  rintro e w1 ⟨rfl, hb1⟩
  have HSm1 := Lib.hid (HSm.out.below hb1)
  have HRk1 := Lib.hid (range_below HRk.out (by simp; omega) hb1)
  have HB1 := Lib.hid (HB0.out.trans (hb1.mono HB0.out.size))
  clear hb1 HSm HRk HB0
  have hr1 : w1.rangeAt (w.heap.size + 1) 0 X := by have := arr_range HSm1.out; rwa [HX.out] at this
  have HC9 : Hid (Cells w1.heap.size 41 (cellsAt N0) ((w1.alloc (.cells (nodeL 0 (fun _ => 0) (fun _ => 0)).toArray 34)).setCells w1.heap.size 0 N0)) := Lib.hid ((node0_cells w1).fill HNl.out)
  have HTh : Hid ((w1.alloc (.cells (nodeL 0 (fun _ => 0) (fun _ => 0)).toArray 34)).there w1.heap.size 0 N0.toArray.size) := Lib.hid ((node0_cells w1).there 0 _ (by have := HNl.out; simp [this]))
  have hBw : Below w1.heap.size w1 ((w1.alloc (.cells (nodeL 0 (fun _ => 0) (fun _ => 0)).toArray 34)).setCells w1.heap.size 0 N0) := below_row ((Below.refl _ w1).alloc (Nat.le_refl _) _) N0 (Nat.le_refl _)
  have HSm2 := Lib.hid (HSm1.out.below hBw)
  have HRk2 := Lib.hid (range_below HRk1.out (by have := HSm1.out.1; omega) hBw)
  have HB2 := Lib.hid (HB1.out.trans (hBw.mono HB1.out.size))
  clear hBw
  have HAl := alloc_node
  have HG : Hid (w.heap.size + 1 < w1.heap.size) := Lib.hid HSm1.out.1
  obtain ⟨ZN, hZN⟩ : ∃ ZN, (nodeL 0 (fun _ => 0) (fun _ => 0)).toArray = ZN := ⟨_, rfl⟩
  rw [hZN] at HC9 HTh HAl HSm2 HRk2 HB2
  have HZN := Lib.hid hZN
  clear hZN
  go_upto_region 4 with (first
    | (with_reducible refine wpList_load_mid rfl 23 _ rfl (w.heap.size + 1) 0 rfl X _ hr1 Tryd.underlying23 rfl HIA.out ?_)
    | (refine wpList_build2 rfl 34 0 2 (.tmp 25) (.tmp 26) rfl (.int .i64 (lv : Int)) (.agg X.toArray) (.agg N0.toArray) rfl rfl (hbn _) ?_)
    | (refine wpList_alloc rfl 34 rfl _ (HAl _) ?_)
    | (refine wpList_store_mid rfl 34 _ _ rfl w1.heap.size 0 N0.toArray rfl rfl HTh.out HIN.out HNo.out ?_))
  clear HTh hr1 HSm1 HRk1 HB1 hbn
  generalize (w1.alloc (.cells ZN 34)).setCells w1.heap.size 0 N0 = W at *
  generalize w1.heap.size = n at *
  have HY0 : Hid (NyW w w.heap.size KI n W.heap.size (lv : Int) kd f 0 (.slice (some ⟨W.heap.size, 0, none⟩) 0 0) (W.alloc (.cells #[] 3))) := Lib.hid (by
    have hb : Below W.heap.size W (W.alloc (.cells #[] 3)) := (Below.refl _ W).alloc (Nat.le_refl _) _
    have hn := HC9.out.1
    have hg := HG.out
    refine ⟨range_below HRk2.out (by omega) hb, HSm2.out.below hb, ?_, own_noneI W, HB2.out.trans (hb.mono HB2.out.size), Nat.le_refl _, HG.out, HC9.out.1, by simp⟩
    rw [kidsUp_none, HN0.out]
    exact HC9.out.below hb)
  have HNW : Hid (n < W.heap.size) := Lib.hid HC9.out.1
  clear HC9 HSm2 HRk2 HB2
  go_upto_region 5 with fail
  generalize W.alloc (.cells #[] 3) = W3 at *
  generalize W.heap.size = B at *
  go_wp2_with fail
  go_loopw [12, 29] (fun v i wx => ∃ k : Nat, k ≤ 8 ∧ i = .int .i64 (k : Int) ∧ NyW w w.heap.size KI n B (lv : Int) kd f k v wx) (fun _ i _ => 8 - (intOf i).toNat)
  case atStart => exact ⟨0, by omega, rfl, HY0.out⟩
  case round =>
    obtain ⟨k, hk, rfl, hy⟩ := hrel
    have HY := Lib.hid hy
    clear hy HY0
    by_cases hlt : k < 8
    · have i0 : (k : Int) < 8 := by omega
      have i1 : (0 : Int) ≤ (k : Int) := by omega
      have hcell : wr.cell? ⟨w.heap.size, k, none⟩ = some (.int .i64 (K k)) := by
        have h := HY.out.src k (.int .i64 (K k)) (by rw [← HKI.out]; exact intsL_at K k hlt)
        rwa [Nat.zero_add] at h
      have hm := (HKd.out k).1
      have hnc := (HY.out.node.2 (1 + k) (by omega)).1
      have hnf := (HY.out.node.2 (1 + k) (by omega)).2
      have hqn : w.heap.size ≠ n := by have := HG.out; omega
      have HP := Lib.hid (HY.out.put hlt)
      have HK := Lib.hid hlt
      have HMo := Lib.hid (fun (wx wy : World) (g cap : Nat) (v : Value) => nyMore (w := w) (q := w.heap.size) (KI := KI) (n := n) (B := B) (lv := (lv : Int)) (kd := kd) (f := f) (k := k) (v := v) (wx := wx) (wy := wy) (g := g) (cap := cap))
      generalize cellsAt (nodeL (lv : Int) (kidsUp kd k) f) (1 + k) = old at *
      clear hlt hk
      have hcell2 : (wr.setCell ⟨n, 1 + k, none⟩ (.int .i64 (kd k : Nat))).cell? ⟨w.heap.size, k, none⟩ = some (.int .i64 (K k)) := by
        rw [World.cell?_setCell_other _ _ _ _ (fun e => hqn (congrArg Addr.block e).symm)]
        exact hcell
      generalize K k = x at *
      go_upto_region 9 with fail
      obtain ⟨p1, p2, p3, p4, p5, p6⟩ := HP.out
      have P1 := Lib.hid p1
      have P2 := Lib.hid p2
      have P3 := Lib.hid p3
      have P4 := Lib.hid p4
      have P5 := Lib.hid p5
      have P6 := Lib.hid p6
      clear p1 p2 p3 p4 p5 p6 HP hnc hnf hcell
      generalize wr.setCell ⟨n, 1 + k, none⟩ (.int .i64 (kd k : Nat)) = W4 at *
      go_wp2_with (at_builtin; (refine wpList_more_ints rfl _ _ rfl B _ (numsL kd k) [kd k] rfl k (numsL_len kd k) (own_keptI P4.out ((Below.refl _ W4).alloc (Nat.le_refl _) (.cells #[.int .i64 (kd k : Nat)] 3))) W4.heap.size 1 1 rfl rfl (one_int W4 (kd k)) (by decide) (by have := HK.out; omega) (Nat.le_trans P6.out (by simp)) ?_); (intro g1 cap1 w5 hm1); (have HM1 := Lib.hid hm1); clear hm1)
      go_roundw
      case rel => exact ⟨k + 1, by have := HK.out; omega, by go_num, HMo.out _ _ g1 cap1 _ (range_below P1.out (by have := HG.out; have := HNW.out; have := P6.out; omega) ((Below.refl _ W4).alloc (Nat.le_refl _) _)) (P2.out.alloc _) (P3.out.alloc _) (own_keptI P4.out ((Below.refl _ W4).alloc (Nat.le_refl _) _)) (P5.out.alloc P5.out.size _) (Nat.le_refl _) HG.out HNW.out (Nat.le_trans P6.out (by simp)) HM1.out⟩
      case measure => simp [intOf]; have := HK.out; omega
    · have i0 : ¬ (k : Int) < 8 := by omega
      obtain rfl : k = 8 := by omega
      obtain ⟨g1, cap1, rfl, hkd8, hg1⟩ := own_kids HY.out.own
      have hnode := HY.out.node
      rw [kidsUp_all] at hnode
      have HZ0 : Hid (NzW w w.heap.size n g1 (nodeL (lv : Int) kd f) kd f wr) := Lib.hid ⟨HY.out.sum, hnode, hkd8, HY.out.below⟩
      clear hkd8 hg1 hnode HY hlt hk
      obtain ⟨N, hN⟩ : ∃ N, nodeL (lv : Int) kd f = N := ⟨_, rfl⟩
      have HNl : Hid (N.length = 41) := Lib.hid (by rw [← hN]; exact nodeL_len _ _ _)
      have HNo : Hid (N.toArray.all (·.oneCell') = true) := Lib.hid (by rw [← hN]; exact nodeL_one _ _ _)
      have HIN : Hid ((Tryd.prog.info? 34).map (·.size) = some N.toArray.size) := Lib.hid (by rw [List.size_toArray, HNl.out]; kernel_rfl)
      have HIN2 : Hid ((Tryd.prog.info? 34).map (·.size) = some N.length) := Lib.hid (by rw [HNl.out]; kernel_rfl)
      rw [hN] at HZ0
      have HNN := Lib.hid hN
      clear hN
      obtain ⟨SS, hSS⟩ : ∃ SS, sealS (nodeT lv kd f) = SS := ⟨_, rfl⟩
      have HSS := Lib.hid hSS
      have HBy : Hid (∀ wx, Calls Tryd.prog 18 #[.agg N.toArray] wx fun e w' => e = .returned (.string SS) ∧ Below wx.heap.size wx w') := Lib.hid fun wx => by
        rw [← HNN.out, ← hSS]
        exact bytes_any lv HLv.out kd f (fun j => (HKd.out j).2) HF.out wx
      obtain ⟨lx, hlx, hlxne⟩ : ∃ lx : Nat, bits .xor .i64 (lv : Int) 1 = (lx : Int) ∧ lv ≠ lx := ⟨lv ^^^ 1, C.xor_i64 lv 1 (by have := HLv.out; omega) (by decide), fun e => by
        have h := C.Crc.xor_self_left lv 1
        rw [← e, Nat.xor_self] at h
        exact absurd h (by decide)⟩
      have HPa : Hid (∀ wx, Calls Tryd.prog 19 #[.string SS, .int .i64 (lv : Int)] wx fun e w' => e = .returned (.tuple #[.agg N.toArray, .int .i64 0]) ∧ Below wx.heap.size wx w') := Lib.hid fun wx => by
        have h := lawParse_any SS (lv : Int) wx
        have hE : parseE SS (lv : Int) = 0 := by rw [← hSS, own_parse lv HLv.out kd f, if_pos rfl]
        have hNp : parsedN SS (lv : Int) = N := by
          unfold parsedN
          rw [if_pos hE, ← hSS, own_node lv HLv.out kd f (fun j => (HKd.out j).2) HF.out, HNN.out]
        rw [hE, hNp] at h
        exact h
      obtain ⟨NX, hNX⟩ : ∃ NX, parsedN SS (lx : Int) = NX := ⟨_, rfl⟩
      have HXl : Hid (NX.length = 41) := Lib.hid (by rw [← hNX]; exact parsedN_len _ _)
      have HXo : Hid (NX.toArray.all (·.oneCell') = true) := Lib.hid (by rw [← hNX]; exact parsedN_one _ _)
      have HIX : Hid ((Tryd.prog.info? 34).map (·.size) = some NX.toArray.size) := Lib.hid (by rw [List.size_toArray, HXl.out]; kernel_rfl)
      have HPx : Hid (∀ wx, Calls Tryd.prog 19 #[.string SS, .int .i64 (lx : Int)] wx fun e w' => e = .returned (.tuple #[.agg NX.toArray, .int .i64 1]) ∧ Below wx.heap.size wx w') := Lib.hid fun wx => by
        have h := lawParse_any SS (lx : Int) wx
        have hE : parseE SS (lx : Int) = 1 := by rw [← hSS, own_parse lv HLv.out kd f, if_neg (by omega)]
        rw [hE, hNX] at h
        exact h
      clear hSS hNX hlxne
      have hr2 := Cells.all HNl.out HZ0.out.node
      go_wp2_with (with_reducible refine wpList_load_mid rfl 34 _ rfl n 0 rfl N _ hr2 Tryd.underlying34 rfl HIN2.out ?_)
      refine (HBy.out _).mono ?_
      rintro e w2 ⟨rfl, hb2⟩
      have HZ2 := Lib.hid (HZ0.out.step hb2)
      clear hb2 hr2 HZ0 HBy
      go_wp2_with fail
      refine (HPa.out _).mono ?_
      rintro e w3 ⟨rfl, hb3⟩
      have HZ3 := Lib.hid (HZ2.out.step hb3)
      clear hb3 HZ2 HPa
      have HTh3 : Hid ((w3.alloc (.cells ZN 34)).there w3.heap.size 0 N.toArray.size) := Lib.hid (by rw [← HZN.out]; exact (node0_cells w3).there 0 _ (by have := HNl.out; simp [this]))
      have hBw3 : Below w3.heap.size w3 ((w3.alloc (.cells ZN 34)).setCells w3.heap.size 0 N) := below_row ((Below.refl _ w3).alloc (Nat.le_refl _) _) N (Nat.le_refl _)
      have HZ4 := Lib.hid (HZ3.out.step hBw3)
      have HM4 : Hid (Cells w3.heap.size 41 (cellsAt N) ((w3.alloc (.cells ZN 34)).setCells w3.heap.size 0 N)) := Lib.hid (by rw [← HZN.out]; exact (node0_cells w3).fill HNl.out)
      clear hBw3 HZ3
      go_upto_region 13 with (first
        | (refine wpList_alloc rfl 34 rfl _ (HAl _) ?_)
        | (refine wpList_store_mid rfl 34 _ _ rfl w3.heap.size 0 N.toArray rfl rfl HTh3.out HIN.out HNo.out ?_))
      clear HTh3
      generalize (w3.alloc (.cells ZN 34)).setCells w3.heap.size 0 N = w4 at *
      generalize w3.heap.size = m1 at *
      go_wp2_with fail
      refine (HPx.out _).mono ?_
      rintro e w5 ⟨rfl, hb5⟩
      have HZ5 := Lib.hid (HZ4.out.step hb5)
      have HM5 := Lib.hid (HM4.out.below hb5)
      clear hb5 HZ4 HM4 HPx
      have HTh5 : Hid ((w5.alloc (.cells ZN 34)).there w5.heap.size 0 NX.toArray.size) := Lib.hid (by rw [← HZN.out]; exact (node0_cells w5).there 0 _ (by have := HXl.out; simp [this]))
      have hBw5 : Below w5.heap.size w5 ((w5.alloc (.cells ZN 34)).setCells w5.heap.size 0 NX) := below_row ((Below.refl _ w5).alloc (Nat.le_refl _) _) NX (Nat.le_refl _)
      have HZ6 := Lib.hid (HZ5.out.step hBw5)
      have HM6 := Lib.hid (HM5.out.below hBw5)
      clear hBw5 HZ5 HM5
      go_upto_region 14 with (first
        | (refine wpList_alloc rfl 34 rfl _ (HAl _) ?_)
        | (refine wpList_store_mid rfl 34 _ _ rfl w5.heap.size 0 NX.toArray rfl rfl HTh5.out HIX.out HXo.out ?_))
      clear HTh5
      generalize (w5.alloc (.cells ZN 34)).setCells w5.heap.size 0 NX = w6 at *
      generalize w5.heap.size = m2 at *
      obtain ⟨bcap, w7, hconv, hrow, hbel⟩ := bytes_of w6 SS
      have HZ7 := Lib.hid (HZ6.out.step hbel)
      have HM7 := Lib.hid (HM6.out.below hbel)
      have HR7 := Lib.hid hrow
      have HB6 := Lib.hid HZ6.out.below
      clear hbel hrow HZ6 HM6
      go_upto_region 15 with fail
      have HDl : Hid (w.heap.size ≤ w6.heap.size) := Lib.hid HB6.out.size
      clear hconv HB6
      generalize w6.heap.size = D at *
      obtain ⟨S, hS⟩ : ∃ S : World → Prop, S = fun wx => NzW w w.heap.size n g1 N kd f wx ∧ Cells m1 41 (cellsAt N) wx ∧ RowIs D SS.size (fun j => (SS.data.toList.getD j 0).toNat) wx := ⟨_, rfl⟩
      have HS := Lib.hid hS
      have HSb : Hid (∀ wx wy, S wx → Below wx.heap.size wx wy → S wy) := Lib.hid fun wx wy hx hb => by
        rw [hS] at hx ⊢
        exact ⟨hx.1.step hb, hx.2.1.below hb, hx.2.2.below hb⟩
      have hS0 : S w7.drew := by rw [hS]; exact ⟨HZ7.out.step (Below.refl _ w7).drew, HM7.out.drew, HR7.out.drew⟩
      have HRn : Hid (∀ wz : World, S wz → wz.rangeAt n 0 N) := Lib.hid fun wz hz => by rw [hS] at hz; exact Cells.all HNl.out hz.1.node
      have HRm : Hid (∀ wz : World, S wz → wz.rangeAt m1 0 N) := Lib.hid fun wz hz => by rw [hS] at hz; exact Cells.all HNl.out hz.2.1
      obtain ⟨K8, hK8⟩ : ∃ K8, kidsL kd = K8 := ⟨_, rfl⟩
      obtain ⟨K0, hK0⟩ : ∃ K0, kidsL (fun _ => 0) = K0 := ⟨_, rfl⟩
      have HRk8 : Hid (∀ wz : World, S wz → wz.rangeAt n 1 K8) := Lib.hid fun wz hz => by
        have h := HRn.out wz hz
        rw [← HNN.out] at h
        rw [← hK8]
        exact nb_kids h
      have HIK : Hid ((Tryd.prog.info? 32).map (·.size) = some K8.length) := Lib.hid (by rw [← hK8, kidsL_len]; kernel_rfl)
      obtain ⟨Z, hZ⟩ : ∃ Z, allz kd = Z := ⟨_, rfl⟩
      have HEm : Hid (∀ wx : World, Calls Tryd.prog 21 #[.agg N.toArray] wx fun e w' => e = .returned (.bool Z) ∧ Below wx.heap.size wx w') := Lib.hid fun wx => by
        have := empty_any (lv : Int) kd f wx
        rw [HNN.out, hZ] at this
        exact this
      have hbk : ∀ wz : World, (Instr.build 32 #[]).run Tryd.prog wz = .ok (.agg K0.toArray) wz := fun wz => by rw [← hK0]; exact build_kids wz
      have hek : ∀ wz : World, (binOp .eql 32 (.agg K8.toArray) (.agg K0.toArray)).run Tryd.prog wz = .ok (.bool Z) wz := fun wz => by rw [← hK8, ← hK0, ← hZ]; exact kids_binop kd wz
      have hgk : ∀ (x y : Operand) (wz : World), (eqGuard .eql 32 x y (.agg K8.toArray) (.agg K0.toArray)).run Tryd.prog wz = .ok () wz := fun x y wz => by rw [← hK8, ← hK0]; exact kids_guard kd x y wz
      have hne : ∀ wz : World, (binOp .neq 34 (.agg N.toArray) (.agg N.toArray)).run Tryd.prog wz = .ok (.bool false) wz := fun wz => by rw [← HNN.out]; exact node_self _ kd f wz
      have hng : ∀ (x y : Operand) (wz : World), (eqGuard .neq 34 x y (.agg N.toArray) (.agg N.toArray)).run Tryd.prog wz = .ok () wz := fun x y wz => by rw [← HNN.out]; exact node_guard _ kd f x y wz
      obtain ⟨T, hT⟩ : ∃ T : ByteArray, (⟨(txt f).toArray⟩ : ByteArray) = T := ⟨_, rfl⟩
      have HCv : Hid (∀ wz : World, S wz → (convert 30 9 (.slice (some ⟨w.heap.size + 1, 0, none⟩) 32 32)).run Tryd.prog wz = .ok (.string T) wz) := Lib.hid fun wz hz => by
        rw [hS] at hz
        rw [← hT]
        exact conv_row (w.heap.size + 1) 32 32 (txt f) (txt_len f) wz (sum_row HF.out hz.1.sum)
      have hsl : ∀ wz : World, (Instr.sliceAt 23 (.pointer (some ⟨w.heap.size + 1, 0, none⟩)) none none none).run Tryd.prog wz = .ok (.slice (some ⟨w.heap.size + 1, 0, none⟩) 32 32) wz := slice_arr _
      have HRB : Hid (∀ wx : World, S wx → Calls Tryd.prog 20 #[.int .i64 (lv : Int), .slice (some ⟨g1, 0, none⟩) 8 cap1, .string T] wx fun e w' => e = .returned (.string SS) ∧ Below wx.heap.size wx w') := Lib.hid fun wx hx => by
        rw [hS] at hx
        rw [← hT, ← HSS.out]
        exact refNodeBytes_any lv HLv.out kd f (fun j => (HKd.out j).2) g1 cap1 wx hx.1.kids
      clear hS hK8 hK0 hZ hT HZ7 HM7 HR7
      refine wp_region_held_drew (S := S) (by kernel_rfl) hS0 (fun hHeld => ?_)
      refine wpAnyH_take (i := 0) (oi := { dst := some 66, op := Op.move (Operand.tmp 14), type := 9, pos := "law.go:43", after := #[], guard := none }) (v := ?_) rfl (by kernel_rfl) (by kernel_rfl) (by kernel_rfl) (fun _ _ _ h => h) (Or.inl ⟨by rfl, ?_⟩) (by assumption) ?_
      rotate_left
      · (intro wz hSw; go_simp; try with_reducible rfl)
      try simp only [Act.put, List.setIfInBounds_toArray, List.set_cons_zero, List.set_cons_succ]
      refine wpAnyH_take (i := 1) (oi := { dst := some 67, op := Op.move (Operand.tmp 0), type := 3, pos := "law.go:43", after := #[], guard := none }) (v := ?_) rfl (by kernel_rfl) (by kernel_rfl) (by kernel_rfl) (fun _ _ _ h => h) (Or.inl ⟨by rfl, ?_⟩) (by assumption) ?_
      rotate_left
      · (intro wz hSw; go_simp; try with_reducible rfl)
      try simp only [Act.put, List.setIfInBounds_toArray, List.set_cons_zero, List.set_cons_succ]
      refine wpAnyH_take (i := 2) (oi := { dst := some 68, op := Op.binOp BinOp.and 3 (Operand.tmp 67) (Operand.const (Value.int IntKind.i64 255)) 3, type := 3, pos := "law.go:43", after := #[{ on := 1, ground := Ground.data }], guard := none }) (v := ?_) rfl (by kernel_rfl) (by kernel_rfl) (by kernel_rfl) (fun _ _ _ h => h) (Or.inl ⟨by rfl, ?_⟩) (by assumption) ?_
      rotate_left
      · (intro wz hSw; go_simp; try with_reducible rfl)
      try simp only [Act.put, List.setIfInBounds_toArray, List.set_cons_zero, List.set_cons_succ]
      refine wpAnyH_take (i := 3) (oi := { dst := some 69, op := Op.move (Operand.tmp 12), type := 35, pos := "law.go:43", after := #[], guard := none }) (v := ?_) rfl (by kernel_rfl) (by kernel_rfl) (by kernel_rfl) (fun _ _ _ h => h) (Or.inl ⟨by rfl, ?_⟩) (by assumption) ?_
      rotate_left
      · (intro wz hSw; go_simp; try with_reducible rfl)
      try simp only [Act.put, List.setIfInBounds_toArray, List.set_cons_zero, List.set_cons_succ]
      refine wpAnyH_take (i := 4) (oi := { dst := some 70, op := Op.slice 23 (Operand.tmp 7) none none none, type := 30, pos := "law.go:43", after := #[], guard := none }) (v := .slice (some ⟨w.heap.size + 1, 0, none⟩) 32 32) rfl (by kernel_rfl) (by kernel_rfl) (by kernel_rfl) (fun _ _ _ h => h) (Or.inl ⟨by rfl, ?_⟩) (by assumption) ?_
      · (intro wz hSw; go_simp; first | done | simp [hsl])
      try simp only [Act.put, List.setIfInBounds_toArray, List.set_cons_zero, List.set_cons_succ]
      refine wpAnyH_take (i := 5) (oi := { dst := some 71, op := Op.convert 30 9 (Operand.tmp 70), type := 9, pos := "law.go:43", after := #[{ on := 4, ground := Ground.data }], guard := none }) (v := .string T) rfl (by kernel_rfl) (by kernel_rfl) (by kernel_rfl) (fun _ _ _ h => h) (Or.inl ⟨by rfl, ?_⟩) (by assumption) ?_
      · (intro wz hSw; go_simp; (have hcv := HCv.out wz hSw); first | done | simp [hcv])
      try simp only [Act.put, List.setIfInBounds_toArray, List.set_cons_zero, List.set_cons_succ]
      refine wpAnyH_ready (rs := [6]) (by kernel_rfl) (by simp) ?_
      refine AllReadyH.cons (o := { dst := some 72, op := Op.call { callee := Callee.value (Operand.func 20), args := #[Operand.tmp 68, Operand.tmp 69, Operand.tmp 71], argTypes := #[3, 35, 9] }, type := 9, pos := "law.go:43", after := #[{ on := 2, ground := Ground.data }, { on := 3, ground := Ground.data }, { on := 5, ground := Ground.data }], guard := none }) rfl (fun K hK => ?_) AllReadyH.nil
      go_simp
      refine (HRB.out _ (by assumption)).mono ?_
      rintro e w8 ⟨rfl, hb⟩
      try go_wp2_with fail
      refine hK.out _ _ (HSb.out _ _ (by assumption) hb) (fun hHeld2 => ?_)
      clear hK K hb
      try simp only [List.setIfInBounds_toArray, List.set_cons_zero, List.set_cons_succ]
      refine wpAnyH_take (i := 7) (oi := { dst := some 73, op := Op.binOp BinOp.neq 9 (Operand.tmp 66) (Operand.tmp 72) 9, type := 4, pos := "law.go:43", after := #[{ on := 0, ground := Ground.data }, { on := 6, ground := Ground.data }], guard := none }) (v := .bool false) rfl (by kernel_rfl) (by kernel_rfl) (by kernel_rfl) (fun _ _ _ h => h) (Or.inl ⟨by rfl, ?_⟩) (by assumption) ?_
      · (intro wz hSw; go_simp; first | done | simp)
      try simp only [Act.put, List.setIfInBounds_toArray, List.set_cons_zero, List.set_cons_succ]
      refine wpAnyH_take (i := 8) (oi := { dst := some 74, op := Op.move (Operand.tmp 73), type := 4, pos := "law.go:43", after := #[{ on := 7, ground := Ground.data }, { on := 6, ground := Ground.chain }], guard := none }) (v := ?_) rfl (by kernel_rfl) (by kernel_rfl) (by kernel_rfl) (fun _ _ _ h => h) (Or.inl ⟨by rfl, ?_⟩) (by assumption) ?_
      rotate_left
      · (intro wz hSw; go_simp; try with_reducible rfl)
      try simp only [Act.put, List.setIfInBounds_toArray, List.set_cons_zero, List.set_cons_succ]
      refine wpAnyH_take (i := 9) (oi := { dst := some 75, op := Op.move (Operand.tmp 16), type := 36, pos := "law.go:43", after := #[{ on := 8, ground := Ground.guard }], guard := some (8, false) }) (v := ?_) rfl (by kernel_rfl) (by kernel_rfl) (by kernel_rfl) (fun _ _ _ h => h) (Or.inl ⟨by rfl, ?_⟩) (by assumption) ?_
      rotate_left
      · (intro wz hSw; go_simp; try with_reducible rfl)
      try simp only [Act.put, List.setIfInBounds_toArray, List.set_cons_zero, List.set_cons_succ]
      refine wpAnyH_take (i := 10) (oi := { dst := some 76, op := Op.binOp BinOp.neq 36 (Operand.tmp 75) (Operand.const (Value.int IntKind.i64 0)) 36, type := 4, pos := "law.go:43", after := #[{ on := 9, ground := Ground.data }, { on := 8, ground := Ground.guard }], guard := some (8, false) }) (v := .bool false) rfl (by kernel_rfl) (by kernel_rfl) (by kernel_rfl) (fun _ _ _ h => h) (Or.inl ⟨by rfl, ?_⟩) (by assumption) ?_
      · (intro wz hSw; go_simp; first | done | simp)
      try simp only [Act.put, List.setIfInBounds_toArray, List.set_cons_zero, List.set_cons_succ]
      refine wpAnyH_take (i := 11) (oi := { dst := some 77, op := Op.pick (Operand.tmp 74) (Operand.const (Value.bool true)) (Operand.tmp 76), type := 4, pos := "law.go:43", after := #[{ on := 8, ground := Ground.data }, { on := 10, ground := Ground.data }], guard := none }) (v := .bool false) rfl (by kernel_rfl) (by kernel_rfl) (by kernel_rfl) (fun _ _ _ h => h) (Or.inl ⟨by rfl, ?_⟩) (by assumption) ?_
      · (intro wz hSw; go_simp; first | done | simp)
      try simp only [Act.put, List.setIfInBounds_toArray, List.set_cons_zero, List.set_cons_succ]
      refine wpAnyH_take (i := 12) (oi := { dst := some 78, op := Op.move (Operand.tmp 77), type := 4, pos := "law.go:43", after := #[{ on := 11, ground := Ground.data }, { on := 8, ground := Ground.chain }], guard := none }) (v := ?_) rfl (by kernel_rfl) (by kernel_rfl) (by kernel_rfl) (fun _ _ _ h => h) (Or.inl ⟨by rfl, ?_⟩) (by assumption) ?_
      rotate_left
      · (intro wz hSw; go_simp; try with_reducible rfl)
      try simp only [Act.put, List.setIfInBounds_toArray, List.set_cons_zero, List.set_cons_succ]
      refine wpAnyH_take (i := 13) (oi := { dst := some 79, op := Op.load 34 (Operand.tmp 15), type := 34, pos := "law.go:43", after := #[{ on := 12, ground := Ground.guard }], guard := some (12, false) }) rfl (by kernel_rfl) (by kernel_rfl) (by kernel_rfl) (fun _ _ _ h => h) (yieldsIf_load_mid (by rfl) _ _ rfl m1 0 rfl N _ HRm.out Tryd.underlying34 rfl HIN2.out) (by assumption) ?_
      try simp only [Act.put, List.setIfInBounds_toArray, List.set_cons_zero, List.set_cons_succ]
      refine wpAnyH_take (i := 14) (oi := { dst := some 80, op := Op.load 34 (Operand.tmp 11), type := 34, pos := "law.go:43", after := #[{ on := 12, ground := Ground.guard }], guard := some (12, false) }) rfl (by kernel_rfl) (by kernel_rfl) (by kernel_rfl) (fun _ _ _ h => h) (yieldsIf_load_mid (by rfl) _ _ rfl n 0 rfl N _ HRn.out Tryd.underlying34 rfl HIN2.out) (by assumption) ?_
      try simp only [Act.put, List.setIfInBounds_toArray, List.set_cons_zero, List.set_cons_succ]
      refine wpAnyH_take (i := 15) (oi := { dst := some 81, op := Op.binOp BinOp.neq 34 (Operand.tmp 79) (Operand.tmp 80) 34, type := 4, pos := "law.go:43", after := #[{ on := 13, ground := Ground.data }, { on := 14, ground := Ground.data }, { on := 12, ground := Ground.guard }], guard := some (12, false) }) (v := .bool false) rfl (by kernel_rfl) (by kernel_rfl) (by kernel_rfl) (fun _ _ _ h => h) (Or.inl ⟨by rfl, ?_⟩) (by assumption) ?_
      · (intro wz hSw; go_simp; first | done | simp [hne, hng])
      try simp only [Act.put, List.setIfInBounds_toArray, List.set_cons_zero, List.set_cons_succ]
      refine wpAnyH_take (i := 16) (oi := { dst := some 82, op := Op.pick (Operand.tmp 78) (Operand.const (Value.bool true)) (Operand.tmp 81), type := 4, pos := "law.go:43", after := #[{ on := 12, ground := Ground.data }, { on := 15, ground := Ground.data }], guard := none }) (v := .bool false) rfl (by kernel_rfl) (by kernel_rfl) (by kernel_rfl) (fun _ _ _ h => h) (Or.inl ⟨by rfl, ?_⟩) (by assumption) ?_
      · (intro wz hSw; go_simp; first | done | simp)
      try simp only [Act.put, List.setIfInBounds_toArray, List.set_cons_zero, List.set_cons_succ]
      refine wpAnyH_take (i := 17) (oi := { dst := some 83, op := Op.move (Operand.tmp 82), type := 4, pos := "law.go:43", after := #[{ on := 16, ground := Ground.data }, { on := 12, ground := Ground.chain }], guard := none }) (v := ?_) rfl (by kernel_rfl) (by kernel_rfl) (by kernel_rfl) (fun _ _ _ h => h) (Or.inl ⟨by rfl, ?_⟩) (by assumption) ?_
      rotate_left
      · (intro wz hSw; go_simp; try with_reducible rfl)
      try simp only [Act.put, List.setIfInBounds_toArray, List.set_cons_zero, List.set_cons_succ]
      refine wpAnyH_take (i := 18) (oi := { dst := some 84, op := Op.move (Operand.tmp 18), type := 36, pos := "law.go:43", after := #[{ on := 17, ground := Ground.guard }], guard := some (17, false) }) (v := ?_) rfl (by kernel_rfl) (by kernel_rfl) (by kernel_rfl) (fun _ _ _ h => h) (Or.inl ⟨by rfl, ?_⟩) (by assumption) ?_
      rotate_left
      · (intro wz hSw; go_simp; try with_reducible rfl)
      try simp only [Act.put, List.setIfInBounds_toArray, List.set_cons_zero, List.set_cons_succ]
      refine wpAnyH_take (i := 19) (oi := { dst := some 85, op := Op.binOp BinOp.neq 36 (Operand.tmp 84) (Operand.const (Value.int IntKind.i64 1)) 36, type := 4, pos := "law.go:43", after := #[{ on := 18, ground := Ground.data }, { on := 17, ground := Ground.guard }], guard := some (17, false) }) (v := .bool false) rfl (by kernel_rfl) (by kernel_rfl) (by kernel_rfl) (fun _ _ _ h => h) (Or.inl ⟨by rfl, ?_⟩) (by assumption) ?_
      · (intro wz hSw; go_simp; first | done | simp)
      try simp only [Act.put, List.setIfInBounds_toArray, List.set_cons_zero, List.set_cons_succ]
      refine wpAnyH_take (i := 20) (oi := { dst := some 86, op := Op.pick (Operand.tmp 83) (Operand.const (Value.bool true)) (Operand.tmp 85), type := 4, pos := "law.go:43", after := #[{ on := 17, ground := Ground.data }, { on := 19, ground := Ground.data }], guard := none }) (v := .bool false) rfl (by kernel_rfl) (by kernel_rfl) (by kernel_rfl) (fun _ _ _ h => h) (Or.inl ⟨by rfl, ?_⟩) (by assumption) ?_
      · (intro wz hSw; go_simp; first | done | simp)
      try simp only [Act.put, List.setIfInBounds_toArray, List.set_cons_zero, List.set_cons_succ]
      refine wpAnyH_take (i := 21) (oi := { dst := some 87, op := Op.move (Operand.tmp 86), type := 4, pos := "law.go:43", after := #[{ on := 20, ground := Ground.data }, { on := 17, ground := Ground.chain }], guard := none }) (v := ?_) rfl (by kernel_rfl) (by kernel_rfl) (by kernel_rfl) (fun _ _ _ h => h) (Or.inl ⟨by rfl, ?_⟩) (by assumption) ?_
      rotate_left
      · (intro wz hSw; go_simp; try with_reducible rfl)
      try simp only [Act.put, List.setIfInBounds_toArray, List.set_cons_zero, List.set_cons_succ]
      refine wpAnyH_take (i := 22) (oi := { dst := some 88, op := Op.load 34 (Operand.tmp 11), type := 34, pos := "law.go:43", after := #[{ on := 21, ground := Ground.guard }], guard := some (21, false) }) rfl (by kernel_rfl) (by kernel_rfl) (by kernel_rfl) (fun _ _ _ h => h) (yieldsIf_load_mid (by rfl) _ _ rfl n 0 rfl N _ HRn.out Tryd.underlying34 rfl HIN2.out) (by assumption) ?_
      try simp only [Act.put, List.setIfInBounds_toArray, List.set_cons_zero, List.set_cons_succ]
      refine wpAnyH_take (i := 24) (oi := { dst := some 90, op := Op.fieldAddr 34 (Operand.tmp 11) 1, type := 0, pos := "law.go:43", after := #[{ on := 21, ground := Ground.guard }], guard := some (21, false) }) (v := ?_) rfl (by kernel_rfl) (by kernel_rfl) (by kernel_rfl) (fun _ _ _ h => h) (Or.inl ⟨by rfl, ?_⟩) (by assumption) ?_
      rotate_left
      · (intro wz hSw; go_simp; try with_reducible rfl)
      try simp only [Act.put, List.setIfInBounds_toArray, List.set_cons_zero, List.set_cons_succ]
      refine wpAnyH_take (i := 25) (oi := { dst := some 91, op := Op.load 32 (Operand.tmp 90), type := 32, pos := "law.go:43", after := #[{ on := 24, ground := Ground.data }, { on := 21, ground := Ground.guard }], guard := some (21, false) }) rfl (by kernel_rfl) (by kernel_rfl) (by kernel_rfl) (fun _ _ _ h => h) (yieldsIf_load_mid (by rfl) _ _ rfl n 1 rfl K8 _ HRk8.out Tryd.underlying32 rfl HIK.out) (by assumption) ?_
      try simp only [Act.put, List.setIfInBounds_toArray, List.set_cons_zero, List.set_cons_succ]
      refine wpAnyH_take (i := 26) (oi := { dst := some 92, op := Op.build 32 #[], type := 32, pos := "law.go:43", after := #[{ on := 21, ground := Ground.guard }], guard := some (21, false) }) rfl (by kernel_rfl) (by kernel_rfl) (by kernel_rfl) (fun _ _ _ h => h) (yieldsIf_build0 (by rfl) 32 rfl _ hbk) (by assumption) ?_
      try simp only [Act.put, List.setIfInBounds_toArray, List.set_cons_zero, List.set_cons_succ]
      refine wpAnyH_take (i := 27) (oi := { dst := some 93, op := Op.binOp BinOp.eql 32 (Operand.tmp 91) (Operand.tmp 92) 32, type := 4, pos := "law.go:43", after := #[{ on := 25, ground := Ground.data }, { on := 26, ground := Ground.data }, { on := 21, ground := Ground.guard }], guard := some (21, false) }) (v := .bool Z) rfl (by kernel_rfl) (by kernel_rfl) (by kernel_rfl) (fun _ _ _ h => h) (Or.inl ⟨by rfl, ?_⟩) (by assumption) ?_
      · (intro wz hSw; go_simp; first | done | simp [hek, hgk])
      try simp only [Act.put, List.setIfInBounds_toArray, List.set_cons_zero, List.set_cons_succ]
      refine wpAnyH_ready (rs := [23]) (by kernel_rfl) (by simp) ?_
      refine AllReadyH.cons (o := { dst := some 89, op := Op.call { callee := Callee.value (Operand.func 21), args := #[Operand.tmp 88], argTypes := #[34] }, type := 4, pos := "law.go:43", after := #[{ on := 22, ground := Ground.data }, { on := 21, ground := Ground.chain }, { on := 21, ground := Ground.guard }], guard := some (21, false) }) rfl (fun K hK => ?_) AllReadyH.nil
      go_simp
      refine (HEm.out _).mono ?_
      rintro e w9 ⟨rfl, hb⟩
      try go_wp2_with fail
      refine hK.out _ _ (HSb.out _ _ (by assumption) hb) (fun hHeld3 => ?_)
      clear hK K hb
      try simp only [List.setIfInBounds_toArray, List.set_cons_zero, List.set_cons_succ]
      refine wpAnyH_take (i := 28) (oi := { dst := some 94, op := Op.binOp BinOp.neq 4 (Operand.tmp 89) (Operand.tmp 93) 4, type := 4, pos := "law.go:43", after := #[{ on := 23, ground := Ground.data }, { on := 27, ground := Ground.data }, { on := 21, ground := Ground.guard }], guard := some (21, false) }) (v := .bool false) rfl (by kernel_rfl) (by kernel_rfl) (by kernel_rfl) (fun _ _ _ h => h) (Or.inl ⟨by rfl, ?_⟩) (by assumption) ?_
      · (intro wz hSw; go_simp; first | done | simp)
      try simp only [Act.put, List.setIfInBounds_toArray, List.set_cons_zero, List.set_cons_succ]
      refine wpAnyH_take (i := 29) (oi := { dst := some 95, op := Op.pick (Operand.tmp 87) (Operand.const (Value.bool true)) (Operand.tmp 94), type := 4, pos := "law.go:43", after := #[{ on := 21, ground := Ground.data }, { on := 28, ground := Ground.data }], guard := none }) (v := .bool false) rfl (by kernel_rfl) (by kernel_rfl) (by kernel_rfl) (fun _ _ _ h => h) (Or.inl ⟨by rfl, ?_⟩) (by assumption) ?_
      · (intro wz hSw; go_simp; first | done | simp)
      try simp only [Act.put, List.setIfInBounds_toArray, List.set_cons_zero, List.set_cons_succ]
      refine wpAnyH_done (by kernel_rfl) ?_ _
      clear hne hng hbk hek hgk hsl
      have hfin := hHeld3
      rw [HS.out] at hfin
      have HZ9 := Lib.hid hfin.1
      have HR9 := Lib.hid hfin.2.2
      clear hfin hHeld3 hHeld2 hHeld hS0 HS HSb HRn HRm HRk8 HIK HEm HCv HRB
      obtain ⟨p, hp', hpl⟩ := maskN a3 63 (by decide)
      have hp : bits .and .i64 a3 63 = (p : Int) := hp'
      have HSz : Hid (SS.size = 64) := Lib.hid (by rw [← HSS.out]; exact sealS_size _ (by rw [nodeT_len]; omega))
      have hp1 : (p : Int) < (SS.size : Int) := by have := HSz.out; omega
      have hp0 : (0 : Int) ≤ (p : Int) := by omega
      have hcell := (HR9.out.2 p (by omega)).1
      have hfr := (HR9.out.2 p (by omega)).2
      have hyb : (SS.data.toList.getD p 0).toNat < 256 := UInt8.toNat_lt _
      obtain ⟨y, hy⟩ : ∃ y, (SS.data.toList.getD p 0).toNat = y := ⟨_, rfl⟩
      simp only [hy] at hcell hyb
      have hxr := u8_xor_nat y c hyb HCl.out
      obtain ⟨z, hzz⟩ : ∃ z, y ^^^ c = z := ⟨_, rfl⟩
      have hz8 : z < 256 := by rw [← hzz]; exact Nat.xor_lt_two_pow (n := 8) hyb HCl.out
      have HZZ := Lib.hid hzz
      have HYY := Lib.hid hy
      rw [hzz] at hxr
      clear hzz hy hp' hyb
      go_upto_region 18 with fail
      obtain ⟨M, hM⟩ : ∃ M, M = SS.data.toList.set p (UInt8.ofNat z) := ⟨_, rfl⟩
      have hMl : M.length = SS.size := by rw [hM]; simp
      have hMv : (M.getD p 0).toNat = z := by
        rw [hM, List.getD_eq_getElem?_getD, List.getElem?_set_self (by simp; omega)]
        show (UInt8.ofNat z).toNat = z
        rw [UInt8.toNat_ofNat']
        omega
      have hMo : ∀ j, j ≠ p → M[j]? = SS.data.toList[j]? := fun j hj => by rw [hM, List.getElem?_set_ne (fun e => hj e.symm)]
      have hRM := HR9.out.set (g := fun j => (M.getD j 0).toNat) p z (by omega) hMv fun j hj => by
        rw [List.getD_eq_getElem?_getD, List.getD_eq_getElem?_getD, hMo j hj]
      have HB10 : Hid (Below w.heap.size w (w9.setCell ⟨D, p, none⟩ (.int .u8 (z : Int)))) := Lib.hid (HZ9.out.below.setCell HDl.out _)
      have hcv := conv_row D SS.size bcap M hMl _ hRM
      obtain ⟨U, hU⟩ : ∃ U : ByteArray, U = ⟨M.toArray⟩ := ⟨_, rfl⟩
      rw [← hU] at hcv
      obtain ⟨NU, E, hNUl, hNUo, hPU, hEE⟩ : ∃ (NU : List Value) (E : Nat), NU.length = 41 ∧ NU.toArray.all (·.oneCell') = true ∧ (∀ wx, Calls Tryd.prog 19 #[.string U, .int .i64 (lv : Int)] wx fun e w' => e = .returned (.tuple #[.agg NU.toArray, .int .i64 (E : Nat)]) ∧ Below wx.heap.size wx w') ∧ (c = 0 ∧ E = 0 ∨ c ≠ 0 ∧ E = 11) := by
        refine ⟨parsedN U (lv : Int), parseE U (lv : Int), parsedN_len _ _, parsedN_one _ _, fun wx => lawParse_any U (lv : Int) wx, ?_⟩
        have hcp : SS.data.toList[p]? = some (SS.data.toList.getD p 0) := by
          rw [List.getD_eq_getElem?_getD, List.getElem?_eq_getElem (by simp; omega)]
          rfl
        have hMp : M[p]? = some (M.getD p 0) := by
          rw [List.getD_eq_getElem?_getD, List.getElem?_eq_getElem (by omega)]
          rfl
        by_cases c0 : c = 0
        · refine Or.inl ⟨c0, ?_⟩
          have e : U = SS := by
            rw [hU]
            apply ByteArray.ext
            apply Array.toList_inj.mp
            show M = SS.data.toList
            refine List.ext_getElem? fun j => ?_
            by_cases hj : j = p
            · rw [hj, hMp, hcp]
              congr 1
              apply UInt8.toNat_inj.1
              rw [hMv, ← HZZ.out, HYY.out, c0, Nat.xor_zero]
            · exact hMo j hj
          rw [e, ← HSS.out, own_parse lv HLv.out kd f, if_pos rfl]
        · refine Or.inr ⟨c0, ?_⟩
          refine turned_parse (nodeT lv kd f) (by rw [nodeT_len]; omega) U p (by omega) ?_ ?_ ?_ _
          · rw [hU]
            show M.length = 64
            rw [hMl, HSz.out]
          · have e1 : sealed (nodeT lv kd f) = SS.data.toList := by rw [← HSS.out]; rfl
            rw [e1, hU]
            show SS.data.toList[p]? ≠ M[p]?
            rw [hcp, hMp]
            intro e
            have h := congrArg UInt8.toNat (Option.some.inj e)
            rw [HYY.out, hMv, ← HZZ.out] at h
            have h2 := C.Crc.xor_self_left y c
            rw [← h, Nat.xor_self] at h2
            exact c0 h2.symm
          · intro j hj
            have e1 : sealed (nodeT lv kd f) = SS.data.toList := by rw [← HSS.out]; rfl
            rw [e1, hU]
            exact (hMo j hj).symm
      have HPU := Lib.hid hPU
      have HUl := Lib.hid hNUl
      have HUo := Lib.hid hNUo
      have HIU : Hid ((Tryd.prog.info? 34).map (·.size) = some NU.toArray.size) := Lib.hid (by rw [List.size_toArray, HUl.out]; kernel_rfl)
      clear hM hMl hMv hMo hRM hU hPU hNUl hNUo hcell hfr hp hxr hpl hp1 hp0 hz8 HR9 HZ9
      generalize w9.setCell ⟨D, p, none⟩ (.int .u8 (z : Int)) = w10 at *
      go_wp2_with fail
      refine (HPU.out _).mono ?_
      rintro e w11 ⟨rfl, hb11⟩
      have HB11 := Lib.hid (HB10.out.trans (hb11.mono HB10.out.size))
      clear hb11 HB10
      have HTh11 : Hid ((w11.alloc (.cells ZN 34)).there w11.heap.size 0 NU.toArray.size) := Lib.hid (by rw [← HZN.out]; exact (node0_cells w11).there 0 _ (by have := HUl.out; simp [this]))
      have HB12 : Hid (Below w.heap.size w ((w11.alloc (.cells ZN 34)).setCells w11.heap.size 0 NU)) := Lib.hid (below_row (HB11.out.alloc HB11.out.size _) NU HB11.out.size)
      go_upto_region 19 with (first
        | (refine wpList_alloc rfl 34 rfl _ (HAl _) ?_)
        | (refine wpList_store_mid rfl 34 _ _ rfl w11.heap.size 0 NU.toArray rfl rfl HTh11.out HIU.out HUo.out ?_))
      clear HTh11
      generalize (w11.alloc (.cells ZN 34)).setCells w11.heap.size 0 NU = w12 at *
      rcases hEE with ⟨rfl, rfl⟩ | ⟨hc0, rfl⟩
      · go_wp2_with fail
        go_ret
        exact ⟨rfl, HB12.out⟩
      · have j0 : ((c : Int) == 0) = false := by rw [beq_eq_false_iff_ne]; omega
        have j1 : ((c : Int) != 0) = true := by rw [bne_iff_ne]; omega
        go_wp2_with fail
        go_ret
        exact ⟨rfl, HB12.out⟩
end Go.Proofs.YtheccbnejamhlaaDoor
