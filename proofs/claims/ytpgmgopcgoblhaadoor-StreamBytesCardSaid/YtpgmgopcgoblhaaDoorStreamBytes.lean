/-
  StreamBytes: for every size, two sums of 32 bytes and every list of raw items, the law answers true (written by gen_strb.py).
-/
import Derived.Test.YtpgmgopcgoblhaaDoorStreamRound
import Derived.Test.YtpgmgopcgoblhaaDoorStreamRefB
import Derived.Test.YtpgmgopcgoblhaaDoorStreamSame
import Derived.Test.YtpgmgopcgoblhaaDoorStreamLawP
import Derived.Deep.RegionHeld3
namespace Go.Proofs.YtpgmgopcgoblhaaDoor
open Go.RowKit

set_option maxRecDepth 100000 in
set_option maxHeartbeats 8000000 in
theorem streamBytes_walk (size : Int) (b t : List UInt8) (hb : b.length = 32) (ht : t.length = 32) (a : Option Addr) (l cap : Nat) (R : Nat → RW) (rise : Bool) (w : World) (hR : RawsIn w a l R) :
    Calls Tryd.prog 3 #[.int .i64 size, .agg (cellsOf b).toArray, .agg (cellsOf t).toArray, .slice a l cap, .bool rise] w fun e w' => e = .returned (.bool true) ∧ Below w.heap.size w w' := by
  have HAw := Lib.hid streamAwake
  have HAl := alloc_st
  have HSt := Lib.hid (fun wx => st0_cells wx)
  obtain ⟨Z, hZ⟩ : ∃ Z, st0.toArray = Z := ⟨_, rfl⟩
  rw [hZ] at HAl HSt
  have HM := Lib.hid (fun wx (h : RawsIn wx a l R) => made_any size b t a l cap R rise wx hb ht h)
  have HIb : Hid ((Tryd.prog.info? 22).map (·.size) = some (cellsOf b).length) := Lib.hid (by rw [cellsOf_len, hb]; kernel_rfl)
  have HIt : Hid ((Tryd.prog.info? 22).map (·.size) = some (cellsOf t).length) := Lib.hid (by rw [cellsOf_len, ht]; kernel_rfl)
  obtain ⟨W, hW⟩ : ∃ W, (w.alloc (.cells (cellsOf b).toArray 22)).alloc (.cells (cellsOf t).toArray 22) = W := ⟨_, rfl⟩
  have hs1 : (w.alloc (.cells (cellsOf b).toArray 22)).heap.size = w.heap.size + 1 := by simp
  have hrb : W.rangeAt w.heap.size 0 (cellsOf b) := fun j x hx => by
    rw [← hW, Nat.zero_add, World.cell?_alloc_past (hn := by simp), World.cell?_alloc_new, List.getElem?_toArray, hx]
  have hrt : W.rangeAt (w.heap.size + 1) 0 (cellsOf t) := fun j x hx => by
    rw [← hW, Nat.zero_add, ← hs1, World.cell?_alloc_new, List.getElem?_toArray, hx]
  have hbW : Below w.heap.size w W := by rw [← hW]; exact ((Below.refl _ w).alloc (Nat.le_refl _) _).alloc (by simp) _
  have HRb := Lib.hid (fun wx (hb : Below W.heap.size W wx) => (show wx.rangeAt w.heap.size 0 (cellsOf b) from fun j x hx => by have h := hrb j x hx; rw [hb.cell (cell_lt h)]; exact h))
  have HRt := Lib.hid (fun wx (hb : Below W.heap.size W wx) => (show wx.rangeAt (w.heap.size + 1) 0 (cellsOf t) from fun j x hx => by have h := hrt j x hx; rw [hb.cell (cell_lt h)]; exact h))
  have HBW := Lib.hid hbW
  have HRw := Lib.hid (hR.below hbW)
  have HWe := Lib.hid hW
  have HLb := Lib.hid hb
  have HLt := Lib.hid ht
  obtain ⟨CB, hCB⟩ : ∃ CB, cellsOf b = CB := ⟨_, rfl⟩
  obtain ⟨CT, hCT⟩ : ∃ CT, cellsOf t = CT := ⟨_, rfl⟩
  rw [hCB] at HIb HRb HM HWe ⊢
  rw [hCT] at HIt HRt HM HWe ⊢
  clear hR hZ hCB hCT hbW hrb hrt hW hb ht hs1
  go_enter Tryd.func3, Tryd.ntmps3
  go_upto_region 1 with fail
  rw [HWe.out]
  go_wp2_with fail
  refine (HAw.out _).mono ?_
  rintro e w1 ⟨rfl, hb1⟩
  have hrb1 := HRb.out _ hb1
  have hrt1 := HRt.out _ hb1
  have HR1 := Lib.hid (HRw.out.below hb1)
  have HB1 := Lib.hid (HBW.out.trans (hb1.mono HBW.out.size))
  clear hb1
  go_wp2_with (first
    | (with_reducible refine wpList_load_mid rfl 22 _ rfl w.heap.size 0 rfl CB _ hrb1 Tryd.underlying22 rfl HIb.out ?_)
    | (with_reducible refine wpList_load_mid rfl 22 _ rfl (w.heap.size + 1) 0 rfl CT _ hrt1 Tryd.underlying22 rfl HIt.out ?_))
  refine (HM.out _ HR1.out).mono ?_
  rintro e w4 ⟨z, v, its, hz, hi6, hid, rfl, hits, hb4⟩
  have HB4 := Lib.hid (HB1.out.trans (hb4.mono HB1.out.size))
  have hS := HSt.out w4
  have hNl := stL_len (size := (z : Int)) (v := v) HLb.out HLt.out
  have hNo : (stL (z : Int) b t v).toArray.all (·.oneCell') = true := by
    obtain ⟨va, vc, rfl⟩ := hits.form
    exact one_st _ _ _ _ rfl
  have HCh := Lib.hid (fun wx (h : ItsAt wx v its) => check_any (z : Int) b t v its wx HLb.out HLt.out h (by omega) (fun x hx => by have := hid x hx; unfold maxLen; omega))
  have HRc := Lib.hid (fun v' wx (h : ItsAt wx v' its) => refCheck_any (z : Int) ⟨b.toArray⟩ ⟨t.toArray⟩ v' its wx h (by omega) (fun x hx => by have := hid x hx; unfold maxLen; omega) b t)
  have HBy := Lib.hid (fun wx (h : ItsAt wx v its) (hp : ∀ x ∈ its, 0 ≤ x.pl ∧ x.pl < 65536) => stBytes_any z b t v its wx hz HLb.out HLt.out h (by omega) hp (by rw [bodyB_len HLb.out HLt.out]; have := dsum_le hid its.length; rw [dsum_all] at this; dsimp only; omega))
  have HRb' := Lib.hid (fun v' wx (h : ItsAt wx v' its) (hp : ∀ x ∈ its, 0 ≤ x.pl ∧ x.pl < 65536) => refBytes_any z b t v' its wx hz HLb.out HLt.out h hi6 hid hp)
  have HTo := Lib.hid (fun wx (h : ItsAt wx v its) => told_any (z : Int) b t v its wx HLb.out HLt.out h (by omega))
  have HSa' := Lib.hid (fun v1 v2 wx (h1 : ItsAt wx v1 its) (h2 : ItsAt wx v2 its) => same_any (z : Int) b t v1 v2 its wx HLb.out HLt.out h1 h2 (by omega))
  have HPa := Lib.hid (fun wx => lawParse_any (allB ⟨(z : Int), b, t, its⟩) wx (by rw [allB_len HLb.out HLt.out]; have := dsum_le hid its.length; rw [dsum_all] at this; dsimp only; omega))
  have HRd := Lib.hid (fun (h : chk ⟨(z : Int), b, t, its⟩ = 0) => allP_allB hz HLb.out HLt.out (by omega) h)
  have HCz := Lib.hid (fun (h : chk ⟨(z : Int), b, t, its⟩ = 0) => (chk_zero h).2.2)
  obtain ⟨N, hN⟩ : ∃ N, stL (z : Int) b t v = N := ⟨_, rfl⟩
  rw [hN] at hNl hNo HCh HBy HTo ⊢
  obtain ⟨q, hq⟩ : ∃ q, chk ⟨(z : Int), b, t, its⟩ = q := ⟨_, rfl⟩
  rw [hq] at HCh HRc HCz HRd
  obtain ⟨DB, hDB⟩ : ∃ DB : ByteArray, ⟨b.toArray⟩ = DB := ⟨_, rfl⟩
  obtain ⟨DT, hDT⟩ : ∃ DT : ByteArray, ⟨t.toArray⟩ = DT := ⟨_, rfl⟩
  rw [hDB, hDT] at HRc HRb' HTo HSa'
  obtain ⟨AL, hAL⟩ : ∃ AL, allB ⟨(z : Int), b, t, its⟩ = AL := ⟨_, rfl⟩
  rw [hAL] at HBy HRb' HPa HRd
  obtain ⟨T, hT⟩ : ∃ T : ByteArray, ⟨AL.toArray⟩ = T := ⟨_, rfl⟩
  rw [hT] at HBy HRb' HPa
  have HXo := Lib.hid hNo
  have HIN : Hid ((Tryd.prog.info? 28).map (·.size) = some N.toArray.size) := Lib.hid (by rw [List.size_toArray, hNl]; kernel_rfl)
  have HIL : Hid ((Tryd.prog.info? 28).map (·.size) = some N.length) := Lib.hid (by rw [hNl]; kernel_rfl)
  have HTh : Hid ((w4.alloc (.cells Z 28)).there w4.heap.size 0 N.toArray.size) := Lib.hid (hS.there 0 _ (by simp [hNl]))
  have hb5 : Below w4.heap.size w4 ((w4.alloc (.cells Z 28)).setCells w4.heap.size 0 N) := below_row ((Below.refl _ w4).alloc (Nat.le_refl _) _) N (Nat.le_refl _)
  have HC5 := Lib.hid (hS.fill (N := N) hNl)
  have HB5 := Lib.hid (HB4.out.trans (hb5.mono HB4.out.size))
  have HI5 := Lib.hid (hits.below hb5)
  have HNl := Lib.hid hNl
  clear hb4 hS hNl hNo hits hN hb5 hq hT hAL hDB hDT hz hi6 hid HM HR1 HRw HRb HRt hrb1 hrt1 HIb HIt
  go_upto_region 4 with (first
    | (refine wpList_alloc rfl 28 rfl _ (HAl _) ?_)
    | (with_reducible refine wpList_store_mid rfl 28 _ _ rfl w4.heap.size 0 N.toArray rfl rfl HTh.out HIN.out HXo.out ?_))
  generalize (w4.alloc (.cells Z 28)).setCells w4.heap.size 0 N = W5 at *
  obtain ⟨X, hX⟩ : ∃ X, w4.heap.size = X := ⟨_, rfl⟩
  rw [hX] at HC5 ⊢
  clear hX HTh HIN HXo
  have hr5 := Cells.all HNl.out HC5.out
  go_wp2_with (with_reducible refine wpList_load_g (by kernel_rfl) 28 _ rfl X 0 rfl N _ hr5 Tryd.underlying28 rfl HIL.out ?_)
  refine (HTo.out _ HI5.out).mono ?_
  rintro e w6 ⟨v2, rfl, hi2, hb6⟩
  obtain ⟨va2, vc2, rfl⟩ := hi2.form
  have HB6 := Lib.hid (HB5.out.trans (hb6.mono HB5.out.size))
  have HC6 := Lib.hid (HC5.out.below hb6)
  have HI6 := Lib.hid (HI5.out.below hb6)
  have HJ6 := Lib.hid hi2
  clear hb6 hi2 hr5 HC5 HI5 HTo
  unfold rfL at *
  have HRc := Lib.hid (HRc.out (.slice va2 its.length vc2))
  have HRb := Lib.hid (HRb'.out (.slice va2 its.length vc2))
  have HSa := Lib.hid (fun v1 => HSa'.out v1 (.slice va2 its.length vc2))
  clear HRb' HSa'
  have h7 : Below w6.heap.size w6 (w6.alloc (.cells #[.int .i64 (z : Int), .string DB, .string DT, .slice va2 its.length vc2] 32)) := (Below.refl _ w6).alloc (Nat.le_refl _) _
  have HB7 := Lib.hid (HB6.out.trans (h7.mono HB6.out.size))
  have HC7 := Lib.hid (HC6.out.below h7)
  have HI7 := Lib.hid (HI6.out.below h7)
  have HJ7 := Lib.hid (HJ6.out.below h7)
  have HX7 := Lib.hid (heap_alloc_new w6 (.cells #[.int .i64 (z : Int), .string DB, .string DT, .slice va2 its.length vc2] 32))
  have HY7 : Hid (w6.heap.size < (w6.alloc (.cells #[.int .i64 (z : Int), .string DB, .string DT, .slice va2 its.length vc2] 32)).heap.size) := Lib.hid (by simp)
  clear h7 HC6 HI6 HJ6
  go_upto_region 5 with fail
  generalize w6.alloc (.cells #[.int .i64 (z : Int), .string DB, .string DT, .slice va2 its.length vc2] 32) = W7 at *
  obtain ⟨Y, hY⟩ : ∃ Y, w6.heap.size = Y := ⟨_, rfl⟩
  rw [hY] at HX7 HY7 ⊢
  clear hY
  have HK5 : Hid (∀ wx, Below W7.heap.size W7 wx → (fun wx => Hid (wx.rangeAt X 0 N) ∧ wx.cell? ⟨Y, 0, none⟩ = some (.int .i64 (z : Int)) ∧ wx.cell? ⟨Y, 1, none⟩ = some (.string DB) ∧ wx.cell? ⟨Y, 2, none⟩ = some (.string DT) ∧ wx.cell? ⟨Y, 3, none⟩ = some (.slice va2 its.length vc2)) wx) := Lib.hid fun wx hb => by
    obtain ⟨y0, y1, y2, y3, _⟩ := four (t := 32) (show wx.heap[Y]? = _ by rw [hb.block Y HY7.out]; exact HX7.out)
    exact ⟨Lib.hid (Cells.all HNl.out (HC7.out.below hb)), y0, y1, y2, y3⟩
  have HIv : Hid (∀ wx, Below W7.heap.size W7 wx → ItsAt wx v its) := Lib.hid fun wx hb => HI7.out.below hb
  have HIr : Hid (∀ wx, Below W7.heap.size W7 wx → ItsAt wx (.slice va2 its.length vc2) its) := Lib.hid fun wx hb => HJ7.out.below hb
  have G0 : Hid (Below W7.heap.size W7 W7.drew) := Lib.hid (Below.refl W7.heap.size W7).drew
  refine wp_region_held_drew (S := fun wx => Hid (wx.rangeAt X 0 N) ∧ wx.cell? ⟨Y, 0, none⟩ = some (.int .i64 (z : Int)) ∧ wx.cell? ⟨Y, 1, none⟩ = some (.string DB) ∧ wx.cell? ⟨Y, 2, none⟩ = some (.string DT) ∧ wx.cell? ⟨Y, 3, none⟩ = some (.slice va2 its.length vc2)) (by kernel_rfl) (HK5.out _ G0.out) (fun hHeld => ?_)
  refine wpAnyH_take (i := 0) (oi := { dst := some 25, op := Op.load 28 (Operand.tmp 11), type := 28, pos := "law.go:85", after := #[], guard := none }) rfl (by kernel_rfl) (by kernel_rfl) (by kernel_rfl) (fun _ _ _ h => h) (yieldsIf_load_mid (by rfl) _ _ rfl X 0 rfl N _ (fun wz hz => hz.1.out) Tryd.underlying28 rfl HIL.out) (by assumption) ?_
  try simp only [Act.put, List.setIfInBounds_toArray, List.set_cons_zero, List.set_cons_succ]
  refine wpAnyH_take (i := 2) (oi := { dst := some 27, op := Op.load 32 (Operand.tmp 12), type := 32, pos := "law.go:85", after := #[], guard := none }) (v := ?_) rfl (by kernel_rfl) (by kernel_rfl) (by kernel_rfl) (fun _ _ _ h => h) (Or.inl ⟨by rfl, ?_⟩) (by assumption) ?_
  rotate_left
  · (intro wz hSw; (try dsimp only at hSw); go_simp; try with_reducible rfl)
  try simp only [Act.put, List.setIfInBounds_toArray, List.set_cons_zero, List.set_cons_succ]
  refine wpAnyH_ready (rs := [1]) (by kernel_rfl) (by simp) ?_
  refine AllReadyH.cons (o := { dst := some 26, op := Op.call { callee := Callee.value (Operand.func 9), args := #[Operand.tmp 25], argTypes := #[28] }, type := 34, pos := "law.go:85", after := #[{ on := 0, ground := Ground.data }], guard := none }) rfl (fun K hK => ?_) AllReadyH.nil
  go_simp
  refine (HCh.out _ (HIv.out _ G0.out)).mono ?_
  rintro e w8 ⟨rfl, hb8⟩
  have G8 := Lib.hid (G0.out.trans (hb8.mono G0.out.size))
  clear hb8
  try go_wp2_with fail
  refine hK.out _ _ (HK5.out _ G8.out) (fun hHeld => ?_)
  clear hK K
  try simp only [Act.put, List.setIfInBounds_toArray, List.set_cons_zero, List.set_cons_succ]
  refine wpAnyH_ready (rs := [3]) (by kernel_rfl) (by simp) ?_
  refine AllReadyH.cons (o := { dst := some 28, op := Op.call { callee := Callee.value (Operand.func 10), args := #[Operand.tmp 27], argTypes := #[32] }, type := 3, pos := "law.go:85", after := #[{ on := 2, ground := Ground.data }, { on := 1, ground := Ground.chain }], guard := none }) rfl (fun K hK => ?_) AllReadyH.nil
  go_simp
  refine (HRc.out _ (HIr.out _ G8.out)).mono ?_
  rintro e w9 ⟨rfl, hb9⟩
  have G9 := Lib.hid (G8.out.trans (hb9.mono G8.out.size))
  clear hb9
  try go_wp2_with fail
  refine hK.out _ _ (HK5.out _ G9.out) (fun hHeld => ?_)
  clear hK K
  try simp only [Act.put, List.setIfInBounds_toArray, List.set_cons_zero, List.set_cons_succ]
  refine wpAnyH_take (i := 4) (oi := { dst := some 29, op := Op.binOp BinOp.neq 3 (Operand.tmp 26) (Operand.tmp 28) 3, type := 4, pos := "law.go:85", after := #[{ on := 1, ground := Ground.data }, { on := 3, ground := Ground.data }], guard := none }) (v := ?_) rfl (by kernel_rfl) (by kernel_rfl) (by kernel_rfl) (fun _ _ _ h => h) (Or.inl ⟨by rfl, ?_⟩) (by assumption) ?_
  rotate_left
  · (intro wz hSw; (try dsimp only at hSw); go_simp; try with_reducible rfl)
  try simp only [Act.put, List.setIfInBounds_toArray, List.set_cons_zero, List.set_cons_succ]
  refine wpAnyH_done (by kernel_rfl) ?_ _
  have e1 : (q != q) = false := by simp
  have hr9 := (HK5.out _ G9.out).1.out
  have HI9 := Lib.hid (HIv.out _ G9.out)
  go_wp2_with (with_reducible refine wpList_load_g (by kernel_rfl) 28 _ rfl X 0 rfl N _ hr9 Tryd.underlying28 rfl HIL.out ?_)
  refine (HCh.out _ HI9.out).mono ?_
  rintro e w10 ⟨rfl, hb10⟩
  have G10 := Lib.hid (G9.out.trans (hb10.mono G9.out.size))
  clear hb10 hr9 HI9 HCh HRc e1
  by_cases hq : q = 0
  · subst hq
    have HP := Lib.hid (HCz.out rfl)
    have HRe := HRd.out rfl
    have HBy := Lib.hid (fun wx h => HBy.out wx h HP.out)
    have HRb := Lib.hid (fun wx h => HRb.out wx h HP.out)
    have hr10 := (HK5.out _ G10.out).1.out
    have HI10 := Lib.hid (HIv.out _ G10.out)
    have HRe := Lib.hid HRe
    clear HCz HRd
    go_wp2_with (with_reducible refine wpList_load_g (by kernel_rfl) 28 _ rfl X 0 rfl N _ hr10 Tryd.underlying28 rfl HIL.out ?_)
    refine (HBy.out _ HI10.out).mono ?_
    rintro e w11 ⟨rfl, hb11⟩
    have G11 := Lib.hid (G10.out.trans (hb11.mono G10.out.size))
    clear hb11 hr10
    go_wp2_with fail
    refine (HPa.out _).mono ?_
    rintro e w12 ⟨hb12, N2, o, rfl, hNl2, hP2⟩
    have G12 := Lib.hid (G11.out.trans (hb12.mono G11.out.size))
    obtain ⟨v1, rfl, rfl, hi12⟩ : ∃ v1, o = none ∧ N2 = stL (z : Int) b t v1 ∧ ItsAt w12 v1 its := by
      rcases hP2 with ⟨k, h1, _⟩ | ⟨s, v1, h1, h2, h3, h4⟩
      · rw [HRe.out] at h1; cases h1
      · rw [HRe.out] at h1
        injection h1 with h1
        subst h1
        exact ⟨v1, h2, h3, h4⟩
    have HSa := Lib.hid (HSa.out v1)
    have hXo2 : (stL (z : Int) b t v1).toArray.all (·.oneCell') = true := by
      obtain ⟨va, vc, rfl⟩ := hi12.form
      exact one_st _ _ _ _ rfl
    obtain ⟨N2, hN2⟩ : ∃ N2, stL (z : Int) b t v1 = N2 := ⟨_, rfl⟩
    rw [hN2] at hNl2 HSa hXo2 ⊢
    have hS2 := HSt.out w12
    have HXo2 := Lib.hid hXo2
    have HIN2 : Hid ((Tryd.prog.info? 28).map (·.size) = some N2.toArray.size) := Lib.hid (by rw [List.size_toArray, hNl2]; kernel_rfl)
    have HIL2 : Hid ((Tryd.prog.info? 28).map (·.size) = some N2.length) := Lib.hid (by rw [hNl2]; kernel_rfl)
    have HTh2 : Hid ((w12.alloc (.cells Z 28)).there w12.heap.size 0 N2.toArray.size) := Lib.hid (hS2.there 0 _ (by simp [hNl2]))
    have hb13 : Below w12.heap.size w12 ((w12.alloc (.cells Z 28)).setCells w12.heap.size 0 N2) := below_row ((Below.refl _ w12).alloc (Nat.le_refl _) _) N2 (Nat.le_refl _)
    have HC13 := Lib.hid (hS2.fill (N := N2) hNl2)
    have G13' := Lib.hid (G12.out.trans (hb13.mono G12.out.size))
    have HI13 := Lib.hid (hi12.below hb13)
    have HNl2 := Lib.hid hNl2
    clear hb12 hP2 hi12 hXo2 hN2 hS2 hb13 hNl2
    go_upto_region 10 with (first
      | (refine wpList_alloc rfl 28 rfl _ (HAl _) ?_)
      | (with_reducible refine wpList_store_mid rfl 28 _ _ rfl w12.heap.size 0 N2.toArray rfl rfl HTh2.out HIN2.out HXo2.out ?_))
    generalize (w12.alloc (.cells Z 28)).setCells w12.heap.size 0 N2 = V at *
    obtain ⟨P, hPp⟩ : ∃ P, w12.heap.size = P := ⟨_, rfl⟩
    rw [hPp] at HC13 ⊢
    clear hPp HTh2
    have G13 : Hid (Below W7.heap.size W7 V.drew) := Lib.hid G13'.out.drew
    have V13 : Hid (Below V.heap.size V V.drew) := Lib.hid (Below.refl V.heap.size V).drew
    have HK10 : Hid (∀ wx, Below V.heap.size V wx → (fun wx => Hid (wx.rangeAt X 0 N) ∧ Hid (wx.rangeAt P 0 N2) ∧ wx.cell? ⟨Y, 0, none⟩ = some (.int .i64 (z : Int)) ∧ wx.cell? ⟨Y, 1, none⟩ = some (.string DB) ∧ wx.cell? ⟨Y, 2, none⟩ = some (.string DT) ∧ wx.cell? ⟨Y, 3, none⟩ = some (.slice va2 its.length vc2)) wx) := Lib.hid fun wx hb => by
      have h := HK5.out wx (G13'.out.trans (hb.mono G13'.out.size))
      exact ⟨h.1, Lib.hid (Cells.all HNl2.out (HC13.out.below hb)), h.2⟩
    have HIp : Hid (∀ wx, Below V.heap.size V wx → ItsAt wx v1 its) := Lib.hid fun wx hb => HI13.out.below hb
    refine wp_region_held_drew (S := fun wx => Hid (wx.rangeAt X 0 N) ∧ Hid (wx.rangeAt P 0 N2) ∧ wx.cell? ⟨Y, 0, none⟩ = some (.int .i64 (z : Int)) ∧ wx.cell? ⟨Y, 1, none⟩ = some (.string DB) ∧ wx.cell? ⟨Y, 2, none⟩ = some (.string DT) ∧ wx.cell? ⟨Y, 3, none⟩ = some (.slice va2 its.length vc2)) (by kernel_rfl) (HK10.out _ V13.out) (fun hHeld => ?_)
    refine wpAnyH_take (i := 0) (oi := { dst := some 39, op := Op.load 28 (Operand.tmp 11), type := 28, pos := "law.go:92", after := #[], guard := none }) rfl (by kernel_rfl) (by kernel_rfl) (by kernel_rfl) (fun _ _ _ h => h) (yieldsIf_load_mid (by rfl) _ _ rfl X 0 rfl N _ (fun wz hz => hz.1.out) Tryd.underlying28 rfl HIL.out) (by assumption) ?_
    try simp only [Act.put, List.setIfInBounds_toArray, List.set_cons_zero, List.set_cons_succ]
    refine wpAnyH_take (i := 2) (oi := { dst := some 41, op := Op.load 32 (Operand.tmp 12), type := 32, pos := "law.go:92", after := #[], guard := none }) (v := ?_) rfl (by kernel_rfl) (by kernel_rfl) (by kernel_rfl) (fun _ _ _ h => h) (Or.inl ⟨by rfl, ?_⟩) (by assumption) ?_
    rotate_left
    · (intro wz hSw; (try dsimp only at hSw); go_simp; try with_reducible rfl)
    try simp only [Act.put, List.setIfInBounds_toArray, List.set_cons_zero, List.set_cons_succ]
    refine wpAnyH_ready (rs := [1]) (by kernel_rfl) (by simp) ?_
    refine AllReadyH.cons (o := { dst := some 40, op := Op.call { callee := Callee.value (Operand.func 12), args := #[Operand.tmp 39], argTypes := #[28] }, type := 9, pos := "law.go:92", after := #[{ on := 0, ground := Ground.data }], guard := none }) rfl (fun K hK => ?_) AllReadyH.nil
    go_simp
    refine (HBy.out _ (HIv.out _ G13.out)).mono ?_
    rintro e w14 ⟨rfl, hb14⟩
    have G14 := Lib.hid (G13.out.trans (hb14.mono G13.out.size))
    have V14 := Lib.hid (V13.out.trans (hb14.mono V13.out.size))
    clear hb14
    try go_wp2_with fail
    refine hK.out _ _ (HK10.out _ V14.out) (fun hHeld => ?_)
    clear hK K
    try simp only [Act.put, List.setIfInBounds_toArray, List.set_cons_zero, List.set_cons_succ]
    refine wpAnyH_ready (rs := [3]) (by kernel_rfl) (by simp) ?_
    refine AllReadyH.cons (o := { dst := some 42, op := Op.call { callee := Callee.value (Operand.func 13), args := #[Operand.tmp 41], argTypes := #[32] }, type := 9, pos := "law.go:92", after := #[{ on := 2, ground := Ground.data }, { on := 1, ground := Ground.chain }], guard := none }) rfl (fun K hK => ?_) AllReadyH.nil
    go_simp
    refine (HRb.out _ (HIr.out _ G14.out)).mono ?_
    rintro e w15 ⟨rfl, hb15⟩
    have G15 := Lib.hid (G14.out.trans (hb15.mono G14.out.size))
    have V15 := Lib.hid (V14.out.trans (hb15.mono V14.out.size))
    clear hb15
    try go_wp2_with fail
    refine hK.out _ _ (HK10.out _ V15.out) (fun hHeld => ?_)
    clear hK K
    try simp only [Act.put, List.setIfInBounds_toArray, List.set_cons_zero, List.set_cons_succ]
    refine wpAnyH_take (i := 4) (oi := { dst := some 43, op := Op.binOp BinOp.eql 9 (Operand.tmp 40) (Operand.tmp 42) 9, type := 4, pos := "law.go:92", after := #[{ on := 1, ground := Ground.data }, { on := 3, ground := Ground.data }], guard := none }) (v := ?_) rfl (by kernel_rfl) (by kernel_rfl) (by kernel_rfl) (fun _ _ _ h => h) (Or.inl ⟨by rfl, ?_⟩) (by assumption) ?_
    rotate_left
    · (intro wz hSw; (try dsimp only at hSw); go_simp; try with_reducible rfl)
    try simp only [Act.put, List.setIfInBounds_toArray, List.set_cons_zero, List.set_cons_succ]
    refine wpAnyH_take (i := 5) (oi := { dst := some 44, op := Op.move (Operand.tmp 43), type := 4, pos := "law.go:92", after := #[{ on := 4, ground := Ground.data }, { on := 3, ground := Ground.chain }], guard := none }) (v := ?_) rfl (by kernel_rfl) (by kernel_rfl) (by kernel_rfl) (fun _ _ _ h => h) (Or.inl ⟨by rfl, ?_⟩) (by assumption) ?_
    rotate_left
    · (intro wz hSw; (try dsimp only at hSw); go_simp; try with_reducible rfl)
    try simp only [Act.put, List.setIfInBounds_toArray, List.set_cons_zero, List.set_cons_succ]
    refine wpAnyH_take (i := 6) (oi := { dst := some 45, op := Op.move (Operand.tmp 14), type := 34, pos := "law.go:92", after := #[{ on := 5, ground := Ground.guard }], guard := some (5, true) }) (v := ?_) rfl (by kernel_rfl) (by kernel_rfl) (by kernel_rfl) (fun _ _ _ h => h) (Or.inl ⟨by rfl, ?_⟩) (by assumption) ?_
    rotate_left
    · (intro wz hSw; (try dsimp only at hSw); go_simp; try with_reducible rfl)
    try simp only [Act.put, List.setIfInBounds_toArray, List.set_cons_zero, List.set_cons_succ]
    refine wpAnyH_take (i := 7) (oi := { dst := some 46, op := Op.binOp BinOp.eql 34 (Operand.tmp 45) (Operand.const (Value.int IntKind.i64 0)) 34, type := 4, pos := "law.go:92", after := #[{ on := 6, ground := Ground.data }, { on := 5, ground := Ground.guard }], guard := some (5, true) }) (v := ?_) rfl (by kernel_rfl) (by kernel_rfl) (by kernel_rfl) (fun _ _ _ h => h) (Or.inl ⟨by rfl, ?_⟩) (by assumption) ?_
    rotate_left
    · (intro wz hSw; (try dsimp only at hSw); go_simp; try with_reducible rfl)
    try simp only [Act.put, List.setIfInBounds_toArray, List.set_cons_zero, List.set_cons_succ]
    refine wpAnyH_take (i := 8) (oi := { dst := some 47, op := Op.pick (Operand.tmp 44) (Operand.tmp 46) (Operand.const (Value.bool false)), type := 4, pos := "law.go:92", after := #[{ on := 5, ground := Ground.data }, { on := 7, ground := Ground.data }], guard := none }) (v := ?_) rfl (by kernel_rfl) (by kernel_rfl) (by kernel_rfl) (fun _ _ _ h => h) (Or.inl ⟨by rfl, ?_⟩) (by assumption) ?_
    rotate_left
    · (intro wz hSw; (try dsimp only at hSw); go_simp; try with_reducible rfl)
    try simp only [Act.put, List.setIfInBounds_toArray, List.set_cons_zero, List.set_cons_succ]
    refine wpAnyH_take (i := 9) (oi := { dst := some 48, op := Op.move (Operand.tmp 47), type := 4, pos := "law.go:92", after := #[{ on := 8, ground := Ground.data }, { on := 5, ground := Ground.chain }], guard := none }) (v := ?_) rfl (by kernel_rfl) (by kernel_rfl) (by kernel_rfl) (fun _ _ _ h => h) (Or.inl ⟨by rfl, ?_⟩) (by assumption) ?_
    rotate_left
    · (intro wz hSw; (try dsimp only at hSw); go_simp; try with_reducible rfl)
    try simp only [Act.put, List.setIfInBounds_toArray, List.set_cons_zero, List.set_cons_succ]
    refine wpAnyH_take (i := 10) (oi := { dst := some 49, op := Op.load 28 (Operand.tmp 13), type := 28, pos := "law.go:92", after := #[{ on := 9, ground := Ground.guard }], guard := some (9, true) }) rfl (by kernel_rfl) (by kernel_rfl) (by kernel_rfl) (fun _ _ _ h => h) (yieldsIf_load_mid (by rfl) _ _ rfl P 0 rfl N2 _ (fun wz hz => hz.2.1.out) Tryd.underlying28 rfl HIL2.out) (by assumption) ?_
    try simp only [Act.put, List.setIfInBounds_toArray, List.set_cons_zero, List.set_cons_succ]
    refine wpAnyH_take (i := 11) (oi := { dst := some 50, op := Op.load 32 (Operand.tmp 12), type := 32, pos := "law.go:92", after := #[{ on := 9, ground := Ground.guard }], guard := some (9, true) }) (v := ?_) rfl (by kernel_rfl) (by kernel_rfl) (by kernel_rfl) (fun _ _ _ h => h) (Or.inl ⟨by rfl, ?_⟩) (by assumption) ?_
    rotate_left
    · (intro wz hSw; (try dsimp only at hSw); go_simp; try with_reducible rfl)
    try simp only [Act.put, List.setIfInBounds_toArray, List.set_cons_zero, List.set_cons_succ]
    refine wpAnyH_ready (rs := [12]) (by kernel_rfl) (by simp) ?_
    refine AllReadyH.cons (o := { dst := some 51, op := Op.call { callee := Callee.value (Operand.func 14), args := #[Operand.tmp 49, Operand.tmp 50], argTypes := #[28, 32] }, type := 3, pos := "law.go:92", after := #[{ on := 10, ground := Ground.data }, { on := 11, ground := Ground.data }, { on := 9, ground := Ground.chain }, { on := 9, ground := Ground.guard }], guard := some (9, true) }) rfl (fun K hK => ?_) AllReadyH.nil
    go_simp
    refine (HSa.out _ (HIp.out _ V15.out) (HIr.out _ G15.out)).mono ?_
    rintro e w16 ⟨rfl, hb16⟩
    have G16 := Lib.hid (G15.out.trans (hb16.mono G15.out.size))
    have V16 := Lib.hid (V15.out.trans (hb16.mono V15.out.size))
    clear hb16
    try go_wp2_with fail
    refine hK.out _ _ (HK10.out _ V16.out) (fun hHeld => ?_)
    clear hK K
    try simp only [Act.put, List.setIfInBounds_toArray, List.set_cons_zero, List.set_cons_succ]
    refine wpAnyH_take (i := 13) (oi := { dst := some 52, op := Op.binOp BinOp.eql 3 (Operand.tmp 51) (Operand.const (Value.int IntKind.i64 0)) 3, type := 4, pos := "law.go:92", after := #[{ on := 12, ground := Ground.data }, { on := 9, ground := Ground.guard }], guard := some (9, true) }) (v := ?_) rfl (by kernel_rfl) (by kernel_rfl) (by kernel_rfl) (fun _ _ _ h => h) (Or.inl ⟨by rfl, ?_⟩) (by assumption) ?_
    rotate_left
    · (intro wz hSw; (try dsimp only at hSw); go_simp; try with_reducible rfl)
    try simp only [Act.put, List.setIfInBounds_toArray, List.set_cons_zero, List.set_cons_succ]
    refine wpAnyH_take (i := 14) (oi := { dst := some 53, op := Op.pick (Operand.tmp 48) (Operand.tmp 52) (Operand.const (Value.bool false)), type := 4, pos := "law.go:92", after := #[{ on := 9, ground := Ground.data }, { on := 13, ground := Ground.data }], guard := none }) (v := ?_) rfl (by kernel_rfl) (by kernel_rfl) (by kernel_rfl) (fun _ _ _ h => h) (Or.inl ⟨by rfl, ?_⟩) (by assumption) ?_
    rotate_left
    · (intro wz hSw; (try dsimp only at hSw); go_simp; try with_reducible rfl)
    try simp only [Act.put, List.setIfInBounds_toArray, List.set_cons_zero, List.set_cons_succ]
    refine wpAnyH_take (i := 15) (oi := { dst := some 10, op := Op.assign (Operand.tmp 53), type := 4, pos := "law.go:92", after := #[{ on := 14, ground := Ground.data }, { on := 12, ground := Ground.chain }, { on := 0, ground := Ground.phase }, { on := 1, ground := Ground.phase }, { on := 2, ground := Ground.phase }, { on := 3, ground := Ground.phase }, { on := 4, ground := Ground.phase }, { on := 5, ground := Ground.phase }, { on := 6, ground := Ground.phase }, { on := 7, ground := Ground.phase }, { on := 8, ground := Ground.phase }, { on := 9, ground := Ground.phase }, { on := 10, ground := Ground.phase }, { on := 11, ground := Ground.phase }, { on := 12, ground := Ground.phase }, { on := 13, ground := Ground.phase }, { on := 14, ground := Ground.phase }], guard := none }) (v := ?_) rfl (by kernel_rfl) (by kernel_rfl) (by kernel_rfl) (fun _ _ _ h => h) (Or.inl ⟨by rfl, ?_⟩) (by assumption) ?_
    rotate_left
    · (intro wz hSw; (try dsimp only at hSw); go_simp; try with_reducible rfl)
    try simp only [Act.put, List.setIfInBounds_toArray, List.set_cons_zero, List.set_cons_succ]
    refine wpAnyH_done (by kernel_rfl) ?_ _
    have HBz := Lib.hid (HB7.out.trans (G16.out.mono HB7.out.size))
    go_wp2_with fail
    go_ret
    exact ⟨rfl, HBz.out⟩
  · have e0 : (q != 0) = true := by simpa using hq
    have HBz := Lib.hid (HB7.out.trans (G10.out.mono HB7.out.size))
    clear hq
    go_wp2_with fail
    go_ret
    exact ⟨rfl, HBz.out⟩
end Go.Proofs.YtpgmgopcgoblhaaDoor
