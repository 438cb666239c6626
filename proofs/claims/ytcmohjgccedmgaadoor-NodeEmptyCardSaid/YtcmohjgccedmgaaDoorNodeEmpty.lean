/-
  NodeEmpty: for every level, kid, place and sum the law answers true.
-/
import Derived.Test.YtcmohjgccedmgaaDoorNodeEmptyC
namespace Go.Proofs.YtcmohjgccedmgaaDoor
open Go.RowKit

set_option maxRecDepth 100000 in
set_option maxHeartbeats 8000000 in
theorem nodeEmpty_walk (a0 a1 a2 : Int) (f : Nat → Nat) (hf : ∀ j, f j < 256) (w : World) (hL : Laid KK SS w) :
    Calls Tryd.prog 9 #[.int .i64 a0, .int .i64 a1, .int .i64 a2, .agg (arr f).toArray] w fun e w' => e = .returned (.bool true) ∧ Below w.heap.size w w' := by
  obtain ⟨l0, hl0', hl0⟩ := maskN a0 255 (by decide)
  obtain ⟨kd, hkd', hkd⟩ := maskN a1 65535 (by decide)
  obtain ⟨at', hat', hat⟩ := maskN a2 7 (by decide)
  have h1 : bits .and .i64 a0 255 = (l0 : Int) := hl0'
  have h2 : bits .and .i64 a1 65535 = (kd : Int) := hkd'
  have h3 : bits .and .i64 a2 7 = (at' : Int) := hat'
  obtain ⟨lv, hlv⟩ : ∃ lv : Nat, (l0 : Int) % 3 = (lv : Int) := ⟨l0 % 3, by omega⟩
  have HLv : Hid (lv < 3) := Lib.hid (by omega)
  have HAt : Hid (at' < 8) := Lib.hid (by omega)
  have HKd : Hid (kd < 65536) := Lib.hid (by omega)
  have hl1 : (l0 : Int) ≤ 255 := by omega
  have HL := Lib.hid hL
  have HF := Lib.hid hf
  have HC7 : Hid (Cells w.heap.size 32 (fun j => .int .u8 (f j : Nat)) (w.alloc (.cells (arr f).toArray 23))) := Lib.hid box_cells
  have HA0 : Hid (At w (w.alloc (.cells (arr f).toArray 23))) := Lib.hid ((At.start hL).alloc _)
  have HIA : Hid ((Tryd.prog.info? 23).map (·.size) = some (arr f).length) := Lib.hid (by rw [arr_len]; kernel_rfl)
  have HOA : Hid ((arr f).toArray.all (·.oneCell') = true) := Lib.hid (arr_one f)
  have HIS : Hid ((Tryd.prog.info? 24).map (·.size) = some (arr f).toArray.size) := Lib.hid (by rw [List.size_toArray, arr_len]; kernel_rfl)
  have hbn := build_node (lv : Int) f
  clear hl0' hkd' hat' hl0 hkd hat hL hf
  obtain ⟨X, hX⟩ : ∃ X, arr f = X := ⟨_, rfl⟩
  obtain ⟨N, hN⟩ : ∃ N, nodeL (lv : Int) (fun _ => 0) f = N := ⟨_, rfl⟩
  have HX := Lib.hid hX
  have HN := Lib.hid hN
  have HNl : Hid (N.length = 41) := Lib.hid (by rw [← hN]; exact nodeL_len _ _ _)
  have HNo : Hid (N.toArray.all (·.oneCell') = true) := Lib.hid (by rw [← hN]; exact nodeL_one _ _ _)
  have HIN : Hid ((Tryd.prog.info? 34).map (·.size) = some N.toArray.size) := Lib.hid (by rw [List.size_toArray, HNl.out]; kernel_rfl)
  have HIN2 : Hid ((Tryd.prog.info? 34).map (·.size) = some N.length) := Lib.hid (by rw [HNl.out]; kernel_rfl)
  have HEm : Hid (∀ wx : World, Calls Tryd.prog 21 #[.agg N.toArray] wx fun e w' => e = .returned (.bool true) ∧ Below wx.heap.size wx w') := Lib.hid fun wx => by
    have := empty_any (lv : Int) (fun _ => 0) f wx
    rw [allz0, hN] at this
    exact this
  rw [hX] at HC7 HA0 HIA HOA HIS hbn ⊢
  rw [hN] at hbn
  clear hX hN
  have hb := build_sums0
  have HCn : Hid (∀ wx : World, Cells wx.heap.size 256 (fun _ => .int .u8 0) (wx.alloc (.cells sums0.toArray 48))) := Lib.hid fun wx => Cells.new wx 256 _ _ _ fun j hj => by rw [List.getElem?_toArray, ← sums_zero]; exact sums_at _ j hj
  have HAs := Lib.hid alloc_sums
  have hb2 := build_sum0
  have he := neq_sum0
  have hg := neqg_sum0
  have HDn := Lib.hid fun wx => digest_nought (lv : Int) wx
  generalize sums0 = Z at *
  generalize sum0 = S0 at *
  go_enter Tryd.func9, Tryd.ntmps9
  go_wp2_with fail
  refine (nodeAwake _).mono ?_
  rintro e w1 ⟨rfl, hb1⟩
  have HA1 := Lib.hid (HA0.out.next hb1)
  have HC1 := Lib.hid (HC7.out.below hb1)
  clear hb1 HA0 HC7
  have hr1 : w1.rangeAt w.heap.size 0 X := by have := arr_range HC1.out; rwa [HX.out] at this
  have HC9 : Hid (Cells w1.heap.size 41 (cellsAt N) ((w1.alloc (.cells (nodeL 0 (fun _ => 0) (fun _ => 0)).toArray 34)).setCells w1.heap.size 0 N)) := Lib.hid (by
    have h0 := Cells.new w1 41 (cellsAt (nodeL 0 (fun _ => 0) (fun _ => 0))) 34 (nodeL 0 (fun _ => 0) (fun _ => 0)).toArray (fun j hj => by rw [List.getElem?_toArray]; exact cellsAt_get _ j (by rw [nodeL_len]; exact hj))
    exact h0.row N (cellsAt N) HNl.out fun j hj => cellsAt_get N j (by rw [HNl.out]; exact hj))
  have HTh : Hid ((w1.alloc (.cells (nodeL 0 (fun _ => 0) (fun _ => 0)).toArray 34)).there w1.heap.size 0 N.toArray.size) := Lib.hid (by
    have h0 := Cells.new w1 41 (cellsAt (nodeL 0 (fun _ => 0) (fun _ => 0))) 34 (nodeL 0 (fun _ => 0) (fun _ => 0)).toArray (fun j hj => by rw [List.getElem?_toArray]; exact cellsAt_get _ j (by rw [nodeL_len]; exact hj))
    exact h0.there 0 _ (by have := HNl.out; simp [this]))
  have hBw : Below w1.heap.size w1 ((w1.alloc (.cells (nodeL 0 (fun _ => 0) (fun _ => 0)).toArray 34)).setCells w1.heap.size 0 N) := below_row ((Below.refl _ w1).alloc (Nat.le_refl _) _) N (Nat.le_refl _)
  have HA2 := Lib.hid (HA1.out.next hBw)
  have HC2 := Lib.hid (HC1.out.below hBw)
  clear hBw
  have HAl := alloc_node
  generalize (nodeL 0 (fun _ => 0) (fun _ => 0)).toArray = ZN at *
  go_upto_region 4 with fail
  rw [hlv]
  go_upto_region 5 with (first
    | (with_reducible refine wpList_load_mid rfl 23 _ rfl w.heap.size 0 rfl X _ hr1 Tryd.underlying23 rfl HIA.out ?_)
    | (refine wpList_build2 rfl 34 0 2 (.tmp 20) (.tmp 21) rfl (.int .i64 (lv : Int)) (.agg X.toArray) (.agg N.toArray) rfl rfl (hbn _) ?_)
    | (refine wpList_alloc rfl 34 rfl _ (HAl _) ?_)
    | (refine wpList_store_mid rfl 34 _ _ rfl w1.heap.size 0 N.toArray rfl rfl HTh.out HIN.out HNo.out ?_))
  have HG : Hid (w.heap.size < w1.heap.size) := Lib.hid (HC1.out.1)
  have hr9 := Cells.all HNl.out HC9.out
  clear HTh hr1 HA1 HC1 HAl hbn
  generalize (w1.alloc (.cells ZN 34)).setCells w1.heap.size 0 N = wn at *
  generalize w1.heap.size = g at *
  go_wp2_with (with_reducible refine wpList_load_mid rfl 34 _ rfl g 0 rfl N _ hr9 Tryd.underlying34 rfl HIN2.out ?_)
  refine (HEm.out _).mono ?_
  rintro e w2 ⟨rfl, hb2'⟩
  have HA3 := Lib.hid (HA2.out.next hb2')
  have HC3 := Lib.hid (HC2.out.below hb2')
  have HN3 := Lib.hid (HC9.out.below hb2')
  clear hb2' HA2 HC2 HC9 hr9
  go_wp2_with (with_reducible refine wpList_build0g (by kernel_rfl) 48 rfl _ (hb _) ?_)
  refine (HDn.out _).mono ?_
  rintro e w4 ⟨rfl, hb4⟩
  have HA4 := Lib.hid (HA3.out.next hb4)
  have HC4 := Lib.hid (HC3.out.below hb4)
  have HN4 := Lib.hid (HN3.out.below hb4)
  clear hb4 HA3 HC3 HN3
  go_upto_region 7 with (first
    | (with_reducible refine wpList_build0g (by kernel_rfl) 24 rfl _ (hb2 _) ?_))
  have hat8 : (at' : Int) < 8 := by have := HAt.out; omega
  have hcell := (HN4.out.2 (1 + at') (by have := HAt.out; omega)).1
  have hfroz := (HN4.out.2 (1 + at') (by have := HAt.out; omega)).2
  go_upto_region 8 with fail
  have hLw := HL.out
  have HA5 : Hid (At w (w4.setCell ⟨g, 1 + at', none⟩ (.int .i64 (kd : Nat)))) := Lib.hid (by
    have hb := HA4.out.below.setCell (p := ⟨g, 1 + at', none⟩) (Nat.le_of_lt HG.out) (.int .i64 (kd : Nat))
    exact ⟨hLw.below hb, hb⟩)
  have HC5 : Hid (Cells w.heap.size 32 (fun j => .int .u8 (f j : Nat)) (w4.setCell ⟨g, 1 + at', none⟩ (.int .i64 (kd : Nat)))) := Lib.hid (HC4.out.far _ (Nat.ne_of_lt HG.out))
  have HN5 : Hid (Cells g 41 (cellsAt (nodeL (lv : Int) (kid1 at' kd) f)) (w4.setCell ⟨g, 1 + at', none⟩ (.int .i64 (kd : Nat)))) := Lib.hid (by have h := HN4.out; rw [← HN.out] at h; exact h.kid HAt.out)
  clear hcell hfroz HA4 HC4 HN4 hat8
  generalize w4.setCell ⟨g, 1 + at', none⟩ (.int .i64 (kd : Nat)) = w5 at *
  have HA6 := Lib.hid (HA5.out.alloc (.cells Z.toArray 48))
  have HC6 := Lib.hid (HC5.out.alloc (.cells Z.toArray 48))
  have HN6 := Lib.hid (HN5.out.alloc (.cells Z.toArray 48))
  have HS6 := Lib.hid (HCn.out w5)
  have HH : Hid (w.heap.size < w5.heap.size) := Lib.hid HC5.out.1
  have HNg : Hid (g < w5.heap.size) := Lib.hid HN5.out.1
  go_upto_region 9 with (refine wpList_alloc rfl 48 rfl _ (HAs.out _) ?_)
  clear HA5 HC5 HN5
  generalize w5.alloc (.cells Z.toArray 48) = w6 at *
  generalize w5.heap.size = c at *
  have hr6 : w6.rangeAt w.heap.size 0 X := by have := arr_range HC6.out; rwa [HX.out] at this
  have hat8 : (at' : Int) < 8 := by have := HAt.out; omega
  have HXl : Hid (X.length = 32) := Lib.hid (by rw [← HX.out]; exact arr_len _)
  have HTh : Hid (w6.there c (at' * 32) X.toArray.size) := Lib.hid (HS6.out.there (at' * 32) _ (by have := HXl.out; have := HAt.out; simp; omega))
  go_upto_region 10 with (first
    | (with_reducible refine wpList_load_mid rfl 23 _ rfl w.heap.size 0 rfl X _ hr6 Tryd.underlying23 rfl HIA.out ?_)
    | (refine wpList_store_mid rfl 24 _ _ rfl c (at' * 32) X.toArray rfl rfl HTh.out HIS.out HOA.out ?_))
  have HA7 : Hid (At w (w6.setCells c (at' * 32) X)) := Lib.hid (at_row X hLw HA6.out (Nat.le_of_lt HH.out))
  have HC7 := Lib.hid (HC6.out.farRow (c := c) (o := at' * 32) X (Nat.ne_of_lt HH.out))
  have HN7 := Lib.hid (HN6.out.farRow (c := c) (o := at' * 32) X (Nat.ne_of_lt HNg.out))
  have HS7 : Hid (Cells c 256 (fun j => .int .u8 (sum1 at' f j : Nat)) (w6.setCells c (at' * 32) X)) := Lib.hid (by have h := HS6.out.sum1 (f := f) HAt.out; rwa [HX.out] at h)
  clear HTh hr6 HA6 HC6 HN6 HS6
  generalize w6.setCells c (at' * 32) X = w7 at *
  have hE7 : Em w f lv (kid1 at' kd) (sum1 at' f) g c w7 := ⟨HA7.out, HC7.out, HN7.out, HS7.out⟩
  clear HA7 HC7 HN7 HS7 HAs HEm HDn he hg hb hb2 hLw
  refine wp_region_held_drew (S := fun wx => Em w f lv (kid1 at' kd) (sum1 at' f) g c wx) (by kernel_rfl) hE7.drew (fun hHeld => ?_)
  refine em_last w f HF.out lv kd at' g c HLv.out HAt.out ?_ ?_ _ (by kernel_rfl) _ hHeld
  · intro cc a w d v h
    cases d <;> exact h
  · intro a w' ha hde hbb
    go_wp2_with fail
    refine bodyPost_ret (results_tmp rfl a.tmps Tryd.prog w') hde ?_
    exact ⟨by rw [← ha], hbb⟩
end Go.Proofs.YtcmohjgccedmgaaDoor
