/-
  ExtentHeads: for every text, wherever its sectors lie, whichever byte is turned, the law answers true (written by gen_extheads.py).
-/
import Derived.Test.YtfmhcomebjggoaaDoorExtWay
import Derived.Test.YtfmhcomebjggoaaDoorExtAwake
import Derived.Test.YtfmhcomebjggoaaDoorRefOf3
import Derived.Deep.RegionHeld3
namespace Go.Proofs.YtfmhcomebjggoaaDoor
open Go.RowKit

set_option maxRecDepth 100000 in
theorem build_head0 (w : World) : (Instr.build 30 #[]).run Tryd.prog w = .ok (.agg (headL zf zf zf).toArray) w := by kernel_rfl
theorem or32_mod (X : Nat) (b : UInt8) (h : X < 16777216) : bits .or .u32 ((X : Int) * 256) ((b.toNat : Int) % 4294967296) = ((X * 256 + b.toNat : Nat) : Int) := by
  have hb : b.toNat < 256 := b.toNat_lt
  have h1 := or32_step X b h
  rw [show (X : Int) * 256 = ((X * 256 : Nat) : Int) by omega, u32_small _ (by omega), u32_small _ (by omega)] at h1
  rw [show (X : Int) * 256 = ((X * 256 : Nat) : Int) by omega, show (b.toNat : Int) % 4294967296 = (b.toNat : Int) by omega, h1]
/-- the document's sum of an extent -/
theorem of_law (D : ByteArray) (h : D.size = 256) : ∃ S : ByteArray, S.size = 32 ∧ ∀ w : World, Calls Tryd.prog 7 #[.string D] w fun e w' => e = .returned (.string S) ∧ Below w.heap.size w w' := by
  refine ⟨⟨(sumB (shaOf D.data.toList)).toArray⟩, ?_, fun w => refOf_any D (by omega) w⟩
  show (sumB (shaOf D.data.toList)).length = 32
  unfold sumB
  rw [flat_len]
  rfl
theorem Cells.loose {b n : Nat} {f : Nat → Value} {w w' : World} {c : Nat} (h : Cells b n f w) (g : Grew (fun k => k = c) w w') (hc : b ≠ c) : Cells b n f w' := h.grew g hc
/-- a byte of a text is another one, or it isn't -/
theorem turned_is (l : List UInt8) (hl : l.length ≤ 60) (N : List Value) (hN : ∀ wx : World, Calls Tryd.prog 11 #[.string (sealS l)] wx fun e w' => e = .returned (.agg N.toArray) ∧ Below wx.heap.size wx w') (p c : Nat) (hp : p < 64) (hc : c < 256)
    (M : List UInt8) (hMl : M.length = 64) (hMv : (M.getD p 0).toNat = ((sealS l).data.toList.getD p 0).toNat ^^^ c) (hMo : ∀ j, j ≠ p → M[j]? = (sealS l).data.toList[j]?) :
    (c = 0 → ParseIs ⟨M.toArray⟩ N none) ∧ (c ≠ 0 → ParseIs ⟨M.toArray⟩ N (some 11)) := by
  have hs := sealS_size l hl
  have hcp : (sealS l).data.toList[p]? = some ((sealS l).data.toList.getD p 0) := by
    rw [List.getD_eq_getElem?_getD, List.getElem?_eq_getElem (by simp; omega)]
    rfl
  have hMp : M[p]? = some (M.getD p 0) := by
    rw [List.getD_eq_getElem?_getD, List.getElem?_eq_getElem (by omega)]
    rfl
  constructor
  · rintro rfl
    have e : (⟨M.toArray⟩ : ByteArray) = sealS l := by
      apply ByteArray.ext
      apply Array.toList_inj.mp
      show M = (sealS l).data.toList
      refine List.ext_getElem? fun j => ?_
      by_cases hj : j = p
      · rw [hj, hMp, hcp]
        congr 1
        apply UInt8.toNat_inj.1
        rw [hMv, Nat.xor_zero]
      · exact hMo j hj
    rw [e]
    exact Or.inl ⟨rfl, hN⟩
  · intro c0
    refine Or.inr ⟨rfl, fun wx => parse_sum _ wx (by rw [bl_size, hMl]) ?_⟩
    refine turned_sum (sealS l) ⟨M.toArray⟩ p hp hs (by rw [bl_size, hMl]) (sealS_ok l hl) ?_ fun j hj => ?_
    · show (sealS l).data.toList[p]? ≠ M[p]?
      rw [hcp, hMp]
      intro e
      have h := congrArg UInt8.toNat (Option.some.inj e)
      rw [hMv] at h
      have h2 := C.Crc.xor_self_left ((sealS l).data.toList.getD p 0).toNat c
      rw [← h, Nat.xor_self] at h2
      exact c0 h2.symm
    · exact (hMo j hj).symm
set_option maxRecDepth 100000 in
set_option maxHeartbeats 4000000 in
theorem extentHeads_walk (a0 : ByteArray) (w0 : a0.size ≤ maxLen) (a1 : Int) (K : Nat → Int) (a3 : Int) (cb : Nat) (hcb : cb < 256) (w : World) :
    Calls Tryd.prog 3 #[.string a0, .int .i64 a1, .agg (intsL K).toArray, .int .i64 a3, .int .u8 cb] w fun e w' => e = .returned (.bool true) ∧ Below w.heap.size w w' := by
  obtain ⟨M, hM⟩ : ∃ M : Nat → Nat, ∀ j, bits .and .i64 (K j) 65535 = (M j : Int) ∧ M j < 65536 := ⟨fun j => kdOf (K j), fun j => kdOf_eq (K j)⟩
  have HM := Lib.hid hM
  have HCb := Lib.hid hcb
  have HData := Lib.hid fun wx => data_any a0 a1 wx w0
  have HSrc : Hid (Cells w.heap.size 4 (atAt K M 0) (w.alloc (.cells (intsL K).toArray 22))) := Lib.hid (Cells.new w 4 _ 22 _ fun j hj => by
    rw [List.getElem?_toArray, intsL_at K j hj]
    unfold atAt
    rw [if_neg (by omega)])
  have HB0 : Hid (Below w.heap.size w (w.alloc (.cells (intsL K).toArray 22))) := Lib.hid ((Below.refl _ w).alloc (Nat.le_refl _) _)
  have HBu := Lib.hid build_head0
  have HAl := alloc_head
  have HN0l : Hid ((headL zf zf zf).length = 40) := Lib.hid (headL_len _ _ _)
  have HN0o : Hid ((headL zf zf zf).toArray.all (·.oneCell') = true) := Lib.hid (headL_one _ _ _)
  have HI0 : Hid ((Tryd.prog.info? 30).map (·.size) = some (headL zf zf zf).toArray.size) := Lib.hid (by rw [List.size_toArray, headL_len]; kernel_rfl)
  have HNew : Hid (∀ wx : World, Cells wx.heap.size 40 (headAt zf zf zf) ((wx.alloc (.cells (headL zf zf zf).toArray 30)).setCells wx.heap.size 0 (headL zf zf zf))) := Lib.hid fun wx => (head_new wx zf zf zf 30).headFill
  have HThz : Hid (∀ wx : World, (wx.alloc (.cells (headL zf zf zf).toArray 30)).there wx.heap.size 0 (headL zf zf zf).toArray.size) := Lib.hid fun wx => (head_new wx zf zf zf 30).there 0 _ (by simp [headL_len])
  obtain ⟨KI, hKI⟩ : ∃ KI, (intsL K).toArray = KI := ⟨_, rfl⟩
  rw [hKI] at HSrc HB0 ⊢
  obtain ⟨Z, hZ⟩ : ∃ Z, headL zf zf zf = Z := ⟨_, rfl⟩
  rw [hZ] at HBu HAl HN0l HN0o HI0 HNew HThz
  clear hM hcb w0 hKI hZ
  go_enter Tryd.func3, Tryd.ntmps3
  go_wp2_with fail
  refine (extAwake _).mono ?_
  rintro e w1 ⟨rfl, hb1⟩
  have HS1 := Lib.hid (HSrc.out.below hb1)
  have HB1 := Lib.hid (HB0.out.trans (hb1.mono HB0.out.size))
  clear hb1 HSrc HB0
  go_wp2_with fail
  refine (HData.out _).mono ?_
  rintro e w2 ⟨D, hD, rfl, hb2⟩
  have HS2 := Lib.hid (HS1.out.below hb2)
  have HB2 := Lib.hid (HB1.out.trans (hb2.mono HB1.out.size))
  have HD := Lib.hid hD
  obtain ⟨S, hS, hO⟩ := of_law D hD
  have HSz := Lib.hid hS
  have HOf := Lib.hid hO
  have HMa := Lib.hid fun j => (HM.out j).2
  have HRef := Lib.hid fun g cap wx hr hg => refHead_any M HMa.out D S hD hS hO g cap wx hr hg
  clear hb2 HS1 HB1 hD hS hO HData
  have hbz : Below w2.heap.size w2 ((w2.alloc (.cells Z.toArray 30)).setCells w2.heap.size 0 Z) := below_row ((Below.refl _ w2).alloc (Nat.le_refl _) _) Z (Nat.le_refl _)
  have HS3 := Lib.hid (HS2.out.below hbz)
  have HB3 := Lib.hid (HB2.out.trans (hbz.mono HB2.out.size))
  have HC3 := Lib.hid (HNew.out w2)
  have HTh := Lib.hid (HThz.out w2)
  have HQ := Lib.hid HS2.out.1
  clear hbz HS2 HB2
  go_upto_region 5 with (first
    | (refine wpList_build0 rfl 30 rfl (.agg Z.toArray) (HBu.out _) ?_)
    | (refine wpList_alloc rfl 30 rfl _ (HAl _) ?_)
    | (with_reducible refine wpList_store_mid rfl 30 _ _ rfl w2.heap.size 0 Z.toArray rfl rfl HTh.out HI0.out HN0o.out ?_))
  clear HTh
  generalize (w2.alloc (.cells Z.toArray 30)).setCells w2.heap.size 0 Z = W at *
  generalize w2.heap.size = n at *
  have HY0 : Hid (HyW w w.heap.size K M n W.heap.size 0 (.slice (some ⟨W.heap.size, 0, none⟩) 0 0) (W.alloc (.cells #[] 3))) := Lib.hid (by
    have hb : Below W.heap.size W (W.alloc (.cells #[] 3)) := (Below.refl _ W).alloc (Nat.le_refl _) _
    refine ⟨HS3.out.below hb, ?_, own_noneI W, HB3.out.trans (hb.mono HB3.out.size), Nat.le_refl _, HQ.out, HC3.out.1, by simp⟩
    rw [upTo_zero]
    exact HC3.out.below hb)
  have HNW : Hid (n < W.heap.size) := Lib.hid HC3.out.1
  clear HS3 HB3 HC3
  go_upto_region 6 with fail
  generalize W.alloc (.cells #[] 3) = W3 at *
  generalize W.heap.size = B at *
  go_wp2_with fail
  go_loopw [13, 30] (fun v i wx => ∃ k : Nat, k ≤ 4 ∧ i = .int .i64 (k : Int) ∧ HyW w w.heap.size K M n B k v wx) (fun _ i _ => 4 - (intOf i).toNat)
  case atStart => exact ⟨0, by omega, rfl, HY0.out⟩
  case round =>
    obtain ⟨k, hk, rfl, hy⟩ := hrel
    have HY := Lib.hid hy
    clear hy HY0
    by_cases hlt : k < 4
    · have i0 : (k : Int) < 4 := by omega
      have i1 : (0 : Int) ≤ (k : Int) := by omega
      have hcell : wr.cell? ⟨w.heap.size, k, none⟩ = some (.int .i64 (K k)) := by
        have h := (HY.out.src.2 k hlt).1
        unfold atAt at h
        rwa [if_neg (by omega)] at h
      have hfroz := (HY.out.src.2 k hlt).2
      have hm := (HM.out k).1
      have hqn : w.heap.size ≠ n := by have := HQ.out; omega
      have hnc := (HY.out.head.2 k (by omega)).1
      have hnf := (HY.out.head.2 k (by omega)).2
      have HP := Lib.hid (HY.out.put hlt)
      have HK := Lib.hid hlt
      have HMo := Lib.hid (fun (wx wy : World) (g cap : Nat) (v : Value) => hyMore (w := w) (q := w.heap.size) (K := K) (M := M) (n := n) (B := B) (k := k) (v := v) (wx := wx) (wy := wy) (g := g) (cap := cap))
      generalize headAt (upTo M k) zf zf k = old at *
      have hcell2 : (wr.setCell ⟨w.heap.size, k, none⟩ (.int .i64 (M k : Nat))).cell? ⟨w.heap.size, k, none⟩ = some (.int .i64 (M k : Nat)) := World.cell?_setCell_same _ _ _ hcell
      have hnc2 : (wr.setCell ⟨w.heap.size, k, none⟩ (.int .i64 (M k : Nat))).cell? ⟨n, k, none⟩ = some old := by
        rw [World.cell?_setCell_other _ _ _ _ (fun e => hqn (congrArg Addr.block e))]
        exact hnc
      have hnf2 : (wr.setCell ⟨w.heap.size, k, none⟩ (.int .i64 (M k : Nat))).frozen? ⟨n, k, none⟩ = false := by rw [World.frozen?_setCell]; exact hnf
      have hcell3 : ((wr.setCell ⟨w.heap.size, k, none⟩ (.int .i64 (M k : Nat))).setCell ⟨n, k, none⟩ (.int .i64 (M k : Nat))).cell? ⟨w.heap.size, k, none⟩ = some (.int .i64 (M k : Nat)) := by
        rw [World.cell?_setCell_other _ _ _ _ (fun e => hqn (congrArg Addr.block e).symm)]
        exact hcell2
      clear hlt hk
      generalize K k = x at *
      go_upto_region 11 with fail
      obtain ⟨p1, p2, p3, p4, p5⟩ := HP.out
      have P1 := Lib.hid p1
      have P2 := Lib.hid p2
      have P3 := Lib.hid p3
      have P4 := Lib.hid p4
      have P5 := Lib.hid p5
      clear p1 p2 p3 p4 p5 HP hnc hnf hcell hcell2 hnc2 hnf2 hfroz
      generalize (wr.setCell ⟨w.heap.size, k, none⟩ (.int .i64 (M k : Nat))).setCell ⟨n, k, none⟩ (.int .i64 (M k : Nat)) = W4 at *
      go_wp2_with (at_builtin; (refine wpList_more_ints rfl _ _ rfl B _ (numsL M k) [M k] rfl k (numsL_len M k) (own_keptI P3.out ((Below.refl _ W4).alloc (Nat.le_refl _) (.cells #[.int .i64 (M k : Nat)] 3))) W4.heap.size 1 1 rfl rfl (one_int W4 (M k)) (by decide) (by have := HK.out; omega) (Nat.le_trans P5.out (by simp)) ?_); (intro g1 cap1 w5 hm1); (have HM1 := Lib.hid hm1); clear hm1)
      go_roundw
      case rel => exact ⟨k + 1, by have := HK.out; omega, by go_num, HMo.out _ _ g1 cap1 _ (P1.out.alloc _) (P2.out.alloc _) (own_keptI P3.out ((Below.refl _ W4).alloc (Nat.le_refl _) _)) (P4.out.alloc P4.out.size _) (Nat.le_refl _) HQ.out HNW.out (Nat.le_trans P5.out (by simp)) HM1.out⟩
      case measure => simp [intOf]; have := HK.out; omega
    · have i0 : ¬ (k : Int) < 4 := by omega
      obtain rfl : k = 4 := by omega
      obtain ⟨g1, cap1, rfl, hats, hg1⟩ := own_ats HY.out.own
      have HA := Lib.hid hats
      have HG := Lib.hid hg1
      have HC4 := Lib.hid HY.out.head
      have HB4 := Lib.hid HY.out.below
      have hwn : w.heap.size ≤ n := by have := HQ.out; omega
      have HWn := Lib.hid hwn
      obtain ⟨SS, hSS⟩ : ∃ SS, sealS (headT M (smOf D) (byB S)) = SS := ⟨_, rfl⟩
      rw [hSS] at HRef
      have HSS := Lib.hid hSS
      clear hats hg1 HY hlt hk hwn hSS
      go_wp2_with fail
      refine (HRef.out g1 cap1 _ HA.out HG.out).mono ?_
      rintro e w4 ⟨rfl, hb4⟩
      have hCx := HC4.out.below hb4
      have hBx := HB4.out.trans (hb4.mono HB4.out.size)
      have HC5 : Hid (Cells n 40 (headAt (upTo M 4) zf zf) (w4.alloc (.cells #[.string SS] 9))) := Lib.hid (hCx.alloc _)
      have HT5 : Hid ((w4.alloc (.cells #[.string SS] 9)).cell? ⟨w4.heap.size, 0, none⟩ = some (.string SS)) := Lib.hid (boxNew rfl)
      have HTl : Hid (w4.heap.size < (w4.alloc (.cells #[.string SS] 9)).heap.size) := Lib.hid (by simp)
      have HB5 : Hid (Below w.heap.size w (w4.alloc (.cells #[.string SS] 9))) := Lib.hid (hBx.alloc hBx.size _)
      have HTn : Hid (n ≠ w4.heap.size) := Lib.hid (by have := hCx.1; omega)
      clear hb4 hCx hBx HC4 HB4 HA HG HRef
      go_upto_region 14 with fail
      generalize w4.alloc (.cells #[.string SS] 9) = w5 at *
      generalize w4.heap.size = tb at *
      have hsl := slice_eight n
      refine wp_region_held_drew (S := fun _ => True) (by kernel_rfl) trivial (fun hHeld => ?_)
      refine wpAnyH_take (i := 0) (oi := { dst := some 54, op := Op.fieldAddr 30 (Operand.tmp 12) 2, type := 0, pos := "law.go:51", after := #[], guard := none }) (v := ?_) rfl (by kernel_rfl) (by kernel_rfl) (by kernel_rfl) (fun _ _ _ h => h) (Or.inl ⟨by rfl, ?_⟩) (by assumption) ?_
      rotate_left
      · (intro wz hSw; (try dsimp only at hSw); go_simp; try with_reducible rfl)
      try simp only [Act.put, List.setIfInBounds_toArray, List.set_cons_zero, List.set_cons_succ]
      refine wpAnyH_take (i := 1) (oi := { dst := some 55, op := Op.slice 28 (Operand.tmp 54) none none none, type := 33, pos := "law.go:51", after := #[{ on := 0, ground := Ground.data }], guard := none }) (v := ?_) rfl (by kernel_rfl) (by kernel_rfl) (by kernel_rfl) (fun _ _ _ h => h) (Or.inl ⟨by rfl, ?_⟩) (by assumption) ?_
      rotate_left
      · (intro wz hSw; (try dsimp only at hSw); go_simp; try with_reducible rfl)
      try simp only [Act.put, List.setIfInBounds_toArray, List.set_cons_zero, List.set_cons_succ]
      refine wpAnyH_take (i := 2) (oi := { dst := some 56, op := Op.move (Operand.tmp 11), type := 9, pos := "law.go:51", after := #[], guard := none }) (v := ?_) rfl (by kernel_rfl) (by kernel_rfl) (by kernel_rfl) (fun _ _ _ h => h) (Or.inl ⟨by rfl, ?_⟩) (by assumption) ?_
      rotate_left
      · (intro wz hSw; (try dsimp only at hSw); go_simp; try with_reducible rfl)
      try simp only [Act.put, List.setIfInBounds_toArray, List.set_cons_zero, List.set_cons_succ]
      refine wpAnyH_ready (rs := [3]) (by kernel_rfl) (by simp) ?_
      refine AllReadyH.cons (o := { dst := some 57, op := Op.call { callee := Callee.value (Operand.func 7), args := #[Operand.tmp 56], argTypes := #[9] }, type := 9, pos := "law.go:51", after := #[{ on := 2, ground := Ground.data }], guard := none }) rfl (fun K hK => ?_) AllReadyH.nil
      go_simp
      refine (HOf.out _).mono ?_
      rintro e w6 ⟨rfl, hb6⟩
      have HC6 := Lib.hid (HC5.out.drew.below hb6)
      have HT6 := Lib.hid ((hb6.cell (p := ⟨tb, 0, none⟩) (by exact HTl.out)).trans HT5.out)
      have HB6 := Lib.hid (HB5.out.drew.trans (hb6.mono HB5.out.drew.size))
      have HCp := Lib.hid (copyHead HC6.out S HSz.out)
      clear hb6
      try go_wp2_with fail
      refine hK.out _ _ trivial (fun hHeld => ?_)
      clear hK K
      try simp only [Act.put, List.setIfInBounds_toArray, List.set_cons_zero, List.set_cons_succ]
      refine wpAnyH_ready (rs := [4]) (by kernel_rfl) (by simp) ?_
      refine AllReadyH.cons (o := { dst := some 58, op := Op.call { callee := Callee.builtin Builtin.copy, args := #[Operand.tmp 55, Operand.tmp 57], argTypes := #[33, 9] }, type := 3, pos := "law.go:51", after := #[{ on := 1, ground := Ground.data }, { on := 3, ground := Ground.data }, { on := 3, ground := Ground.chain }], guard := none }) rfl (fun K hK => ?_) AllReadyH.nil
      have hcp := HCp.out
      go_simp
      try go_wp2_with fail
      refine hK.out _ _ trivial (fun hHeld => ?_)
      clear hK K
      try simp only [Act.put, List.setIfInBounds_toArray, List.set_cons_zero, List.set_cons_succ]
      refine wpAnyH_done (by kernel_rfl) ?_ _
      have HC7 := Lib.hid (HC6.out.summed HSz.out)
      have HT7 : Hid ((w6.setCells n 8 (bytesOf (S.data.toList.take 32))).cell? ⟨tb, 0, none⟩ = some (.string SS)) := Lib.hid (by
        have g : Grew (fun y => y = n) w6 (w6.setCells n 8 (bytesOf (S.data.toList.take 32))) := (Grew.refl w6).row n 8 _ fun _ => rfl
        rw [g.cell (p := ⟨tb, 0, none⟩) (cell_lt HT6.out) (fun e => HTn.out e.symm)]
        exact HT6.out)
      have HB7 : Hid (Below w.heap.size w (w6.setCells n 8 (bytesOf (S.data.toList.take 32)))) := Lib.hid (below_row HB6.out _ HWn.out)
      clear HCp HC6 HT6 HB6 HC5 HT5 HB5 HTl hsl
      generalize w6.setCells n 8 (bytesOf (S.data.toList.take 32)) = w7 at *
      have HSl : Hid (SS.size = 64) := Lib.hid (by rw [← HSS.out]; exact sealS_size _ (headT_60 _ _ _))
      have HSm := Lib.hid (smOf_lt D)
      have HNum : Hid (∀ k, k < 4 → num ((SS.data.toList.drop (9 + 4 * k)).take 4) = smOf D k) := Lib.hid fun k hk => by
        rw [← HSS.out]
        exact own_num M (smOf D) (byB S) (smOf_lt D) k hk
      have HC70 : Hid (Cells n 40 (headAt (upTo M 4) (upTo (smOf D) 0) (byB S)) w7) := Lib.hid (by rw [upTo_zero]; exact HC7.out)
      have HBw : Hid (w7.heap.size = w7.heap.size) := Lib.hid rfl
      clear HC7
      go_wp2_with fail
      go_loopw [59] (fun i wx => ∃ k : Nat, k ≤ 4 ∧ i = .int .i64 (k : Int) ∧ Cells n 40 (headAt (upTo M 4) (upTo (smOf D) k) (byB S)) wx ∧ wx.cell? ⟨tb, 0, none⟩ = some (.string SS) ∧ Below w.heap.size w wx) (fun i _ => 4 - (intOf i).toNat)
      case atStart => exact ⟨0, by omega, rfl, HC70.out, HT7.out, HB7.out⟩
      case round =>
        obtain ⟨k, hk, rfl, hc, htx, hb⟩ := hrel
        have HC := Lib.hid hc
        have HT := Lib.hid htx
        have HB := Lib.hid hb
        clear hc hb HC70 HT7 HB7 HBw
        have hd := HD.out
        by_cases hlt : k < 4
        · have i0 : (k : Int) < 4 := by omega
          obtain ⟨J, hJ⟩ : ∃ J, 64 * k = J := ⟨_, rfl⟩
          have j0 : 64 * (k : Int) = (J : Int) := by omega
          have j1 : (J : Int) + 64 ≤ (D.size : Int) := by omega
          have j2 : ((J : Int) + 64).toNat = J + 64 := by omega
          have j3 : (J : Int) ≤ (J : Int) + 64 := by omega
          have j4 : (0 : Int) ≤ (J : Int) := by omega
          have j5 : (J : Int) ≤ 1000 := by omega
          have hp : D.extract J (J + 64) = partB D k := by unfold partB; rw [hJ]
          have HP64 := Lib.hid (partB_size D HD.out k hlt)
          have HZ := Lib.hid fun wx => refZero_any (partB D k) wx (by rw [HP64.out]; decide)
          have HQs : Hid (smOf D k = if allZero (partB D k).data.toList then 0 else C.Crc.sum (partB D k).data.toList) := Lib.hid rfl
          obtain ⟨z, hz⟩ : ∃ z, allZero (partB D k).data.toList = z := ⟨_, rfl⟩
          rw [hz] at HZ HQs
          generalize C.Crc.sum (partB D k).data.toList = CK at *
          generalize partB D k = P at *
          have HK := Lib.hid hlt
          clear hz hlt hk hJ hd
          cases z with
          | true =>
            have e0 := HQs.out
            rw [if_pos rfl] at e0
            have HE0 := Lib.hid e0
            clear e0 HQs
            go_wp2_with fail
            refine (HZ.out _).mono ?_
            rintro e w8 ⟨rfl, rfl⟩
            go_wp2_with fail
            go_roundw
            case rel => exact ⟨k + 1, by have := HK.out; omega, by go_num, by rw [upTo_same _ _ HE0.out]; exact HC.out, HT.out, HB.out⟩
            case measure => simp [intOf]; have := HK.out; omega
          | false =>
            clear HQs
            have HL : Hid ((SS.data.toList.drop (9 + 4 * k)).length = 55 - 4 * k) := Lib.hid (by
              rw [List.length_drop]
              have : SS.data.toList.length = SS.size := by simp
              have := HSl.out
              omega)
            go_wp2_with fail
            refine (HZ.out _).mono ?_
            rintro e w8 ⟨rfl, rfl⟩
            go_wp2_with fail
            go_loop [17, 71] (fun x i => ∃ m : Nat, m ≤ 4 ∧ i = .int .i64 (m : Int) ∧ x = .int .u32 (num ((SS.data.toList.drop (9 + 4 * k)).take m) : Nat)) (fun _ i => 4 - (intOf i).toNat)
            case atStart => exact ⟨0, by omega, rfl, rfl⟩
            case round =>
              obtain ⟨m, hm, rfl, rfl⟩ := hrel
              by_cases hlm : m < 4
              · have n0 : (m : Int) < 4 := by omega
                have hk4 := HK.out
                have hx16 := num_lt4 (SS.data.toList.drop (9 + 4 * k)) m hlm
                obtain ⟨I, hI⟩ : ∃ I, 9 + 4 * k + m = I := ⟨_, rfl⟩
                have n1 : 9 + 4 * (k : Int) + (m : Int) = (I : Int) := by omega
                have n2 : I < SS.size := by have := HSl.out; omega
                have n3 : (I : Int) < (SS.size : Int) := by omega
                have n4 : (0 : Int) ≤ (I : Int) := by omega
                have hstep := or32_mod (num ((SS.data.toList.drop (9 + 4 * k)).take m)) (SS[I]'n2) hx16
                have hnx := num_take32 (SS.data.toList.drop (9 + 4 * k)) m (by rw [HL.out]; omega)
                have hgb : (SS.data.toList.drop (9 + 4 * k))[m]'(by rw [HL.out]; omega) = SS[I]'n2 := by
                  rw [List.getElem_drop]
                  simp only [hI]
                  simp [ByteArray.getElem_eq_getElem_data]
                rw [hgb] at hnx
                have HNx := Lib.hid hnx
                have n5 : 4 * (k : Int) ≤ 12 := by omega
                have n6 : (0 : Int) ≤ 4 * (k : Int) := by omega
                have hxi : (num ((SS.data.toList.drop (9 + 4 * k)).take m) : Int) < 16777216 := by omega
                clear hnx hgb hI hx16
                generalize num ((SS.data.toList.drop (9 + 4 * k)).take m) = X at *
                go_wp2_with fail
                go_round
                case rel => exact ⟨m + 1, by omega, by go_num, by rw [HNx.out]; simp⟩
                case measure => simp [intOf]; omega
              · obtain rfl : m = 4 := by omega
                have n0 : ¬ ((4 : Nat) : Int) < 4 := by omega
                rw [HNum.out k HK.out]
                have hs := HC.out.setSm k (smOf D k) HK.out
                rw [upTo_step] at hs
                have HC9 := Lib.hid hs
                have hcc := (HC.out.2 (4 + k) (by have := HK.out; omega)).1
                have hff := (HC.out.2 (4 + k) (by have := HK.out; omega)).2
                have HT9 : Hid ((w8.setCell ⟨n, 4 + k, none⟩ (.int .u32 (smOf D k : Nat))).cell? ⟨tb, 0, none⟩ = some (.string SS)) := Lib.hid (by
                  rw [World.cell?_setCell_other _ _ _ _ (fun e => HTn.out (congrArg Addr.block e))]
                  exact HT.out)
                have HB9 : Hid (Below w.heap.size w (w8.setCell ⟨n, 4 + k, none⟩ (.int .u32 (smOf D k : Nat)))) := Lib.hid (HB.out.setCell HWn.out _)
                have n9 : (k : Int) < 4 := by have := HK.out; omega
                clear hs hm hlm
                go_wp2_with fail
                go_roundw
                case rel => exact ⟨k + 1, by have := HK.out; omega, by go_num, HC9.out, HT9.out, HB9.out⟩
                case measure => simp [intOf]; have := HK.out; omega
        · have i0 : ¬ (k : Int) < 4 := by omega
          obtain rfl : k = 4 := by omega
          have HN8 : Hid (Cells n 40 (headAt M (smOf D) (byB S)) wr) := Lib.hid (HC.out.congr fun j hj => head_full M (smOf D) (byB S) j hj)
          have HBy := Lib.hid fun wx => bytes_any M (smOf D) (byB S) HMa.out HSm.out (byB_lt S) wx
          have HPa := Lib.hid fun wx => parse_own M (smOf D) (byB S) HMa.out HSm.out (byB_lt S) wx
          have HTu := Lib.hid fun p c hp hc Mx h1 h2 h3 => turned_is (headT M (smOf D) (byB S)) (headT_60 _ _ _) (headL M (smOf D) (byB S)) HPa.out p c hp hc Mx h1 h2 h3
          rw [HSS.out] at HBy HPa HTu
          have HG1 := Lib.hid fun W h1 h2 => guard1_any SS M (smOf D) (byB S) tb wr.heap.size W HPa.out h1 h2
          have hne0 := head_self M (smOf D) (byB S)
          have hng0 := head_guard M (smOf D) (byB S)
          have HRg := Lib.hid fun (wx : World) (b : Nat) (h : Cells b 40 (headAt M (smOf D) (byB S)) wx) => h.head
          have HIL : Hid ((Tryd.prog.info? 30).map (·.size) = some (headL M (smOf D) (byB S)).length) := Lib.hid (by rw [headL_len]; kernel_rfl)
          have HNl : Hid ((headL M (smOf D) (byB S)).length = 40) := Lib.hid (headL_len _ _ _)
          have HNo : Hid ((headL M (smOf D) (byB S)).toArray.all (·.oneCell') = true) := Lib.hid (headL_one _ _ _)
          obtain ⟨HF, hHF⟩ : ∃ HF, headAt M (smOf D) (byB S) = HF := ⟨_, rfl⟩
          rw [hHF] at HN8 HG1 HRg
          obtain ⟨N, hN⟩ : ∃ N, headL M (smOf D) (byB S) = N := ⟨_, rfl⟩
          rw [hN] at HBy HPa HTu HRg HIL HNl HNo hne0 hng0
          have hbz : Below wr.heap.size wr ((wr.alloc (.cells Z.toArray 30)).setCells wr.heap.size 0 Z) := below_row ((Below.refl _ wr).alloc (Nat.le_refl _) _) Z (Nat.le_refl _)
          have HN9 := Lib.hid (HN8.out.below hbz)
          have HB9 := Lib.hid (HB.out.trans (hbz.mono HB.out.size))
          have HC9 := Lib.hid (HNew.out wr)
          have HT9 : Hid (((wr.alloc (.cells Z.toArray 30)).setCells wr.heap.size 0 Z).cell? ⟨tb, 0, none⟩ = some (.string SS)) := Lib.hid (by rw [hbz.cell (p := ⟨tb, 0, none⟩) (cell_lt HT.out)]; exact HT.out)
          have HTh := Lib.hid (HThz.out wr)
          have HNc : Hid (n ≠ wr.heap.size) := Lib.hid (by have := HN8.out.1; omega)
          have HTc : Hid (tb ≠ wr.heap.size) := Lib.hid (by have := cell_lt HT.out; omega)
          have HWc : Hid (w.heap.size ≤ wr.heap.size) := Lib.hid HB.out.size
          clear hbz HN8 HC htx HT HB hHF hN hlt hk hd HNum HSm HNew HThz HOf HSz HD HM HMa HQ HNW
          go_upto_region 28 with (first
            | (refine wpList_build0 rfl 30 rfl (.agg Z.toArray) (HBu.out _) ?_)
            | (refine wpList_alloc rfl 30 rfl _ (HAl _) ?_)
            | (with_reducible refine wpList_store_mid rfl 30 _ _ rfl wr.heap.size 0 Z.toArray rfl rfl HTh.out HI0.out HN0o.out ?_))
          clear HTh HBu HAl HN0l HN0o HI0
          generalize (wr.alloc (.cells Z.toArray 30)).setCells wr.heap.size 0 Z = w9 at *
          generalize wr.heap.size = c at *
          go_wp2_with fail
          refine (HG1.out _ HT9.out HC9.out).mono ?_
          rintro e w10 ⟨rfl, hc10, hg10⟩
          have HC10 := Lib.hid hc10
          have HN10 := Lib.hid (HN9.out.loose hg10 HNc.out)
          have HT10 : Hid (w10.cell? ⟨tb, 0, none⟩ = some (.string SS)) := Lib.hid (by rw [hg10.cell (p := ⟨tb, 0, none⟩) (cell_lt HT9.out) (fun e => HTc.out e)]; exact HT9.out)
          have HB10 : Hid (Below w.heap.size w w10) := Lib.hid (hg10.below HB9.out HB9.out.size fun x hx => by rw [hx]; exact HWc.out)
          clear hc10 hg10 HG1 HN9 HT9 HB9 HC9
          go_upto_region 29 with fail
          have HK : Hid (∀ wx, Below w10.heap.size w10 wx → (fun wx => Hid (wx.rangeAt n 0 N) ∧ Hid (wx.rangeAt c 0 N) ∧ wx.cell? ⟨tb, 0, none⟩ = some (.string SS)) wx) := Lib.hid fun wx hb => ⟨Lib.hid (HRg.out _ _ (HN10.out.below hb)), Lib.hid (HRg.out _ _ (HC10.out.below hb)), by rw [hb.cell (p := ⟨tb, 0, none⟩) (cell_lt HT10.out)]; exact HT10.out⟩
          have G8 : Hid (Below w10.heap.size w10 w10.drew) := Lib.hid (Below.refl w10.heap.size w10).drew
          have hne : ∀ wz : World, (binOp .neq 30 (.agg N.toArray) (.agg N.toArray)).run Tryd.prog wz = .ok (.bool false) wz := hne0
          have hng : ∀ (x y : Operand) (wz : World), (eqGuard .neq 30 x y (.agg N.toArray) (.agg N.toArray)).run Tryd.prog wz = .ok () wz := hng0
          clear hne0 hng0
          refine wp_region_held_drew (S := fun wx => Hid (wx.rangeAt n 0 N) ∧ Hid (wx.rangeAt c 0 N) ∧ wx.cell? ⟨tb, 0, none⟩ = some (.string SS)) (by kernel_rfl) (HK.out _ G8.out) (fun hHeld => ?_)
          refine wpAnyH_take (i := 0) (oi := { dst := some 94, op := Op.load 30 (Operand.tmp 12), type := 30, pos := "law.go:63", after := #[], guard := none }) rfl (by kernel_rfl) (by kernel_rfl) (by kernel_rfl) (fun _ _ _ h => h) (yieldsIf_load_mid (by rfl) _ _ rfl n 0 rfl N _ (fun wz hz => hz.1.out) Tryd.underlying30 rfl HIL.out) (by assumption) ?_
          try simp only [Act.put, List.setIfInBounds_toArray, List.set_cons_zero, List.set_cons_succ]
          refine wpAnyH_take (i := 2) (oi := { dst := some 96, op := Op.load 9 (Operand.tmp 15), type := 9, pos := "law.go:63", after := #[], guard := none }) (v := ?_) rfl (by kernel_rfl) (by kernel_rfl) (by kernel_rfl) (fun _ _ _ h => h) (Or.inl ⟨by rfl, ?_⟩) (by assumption) ?_
          rotate_left
          · (intro wz hSw; (try dsimp only at hSw); go_simp; try with_reducible rfl)
          try simp only [Act.put, List.setIfInBounds_toArray, List.set_cons_zero, List.set_cons_succ]
          refine wpAnyH_ready (rs := [1]) (by kernel_rfl) (by simp) ?_
          refine AllReadyH.cons (o := { dst := some 95, op := Op.call { callee := Callee.value (Operand.func 12), args := #[Operand.tmp 94], argTypes := #[30] }, type := 9, pos := "law.go:63", after := #[{ on := 0, ground := Ground.data }], guard := none }) rfl (fun K hK => ?_) AllReadyH.nil
          go_simp
          refine (HBy.out _).mono ?_
          rintro e w9 ⟨rfl, hb9⟩
          have G9 := Lib.hid (G8.out.trans (hb9.mono G8.out.size))
          clear hb9
          try go_wp2_with fail
          refine hK.out _ _ (HK.out _ G9.out) (fun hHeld => ?_)
          clear hK K
          try simp only [Act.put, List.setIfInBounds_toArray, List.set_cons_zero, List.set_cons_succ]
          refine wpAnyH_take (i := 3) (oi := { dst := some 97, op := Op.binOp BinOp.neq 9 (Operand.tmp 95) (Operand.tmp 96) 9, type := 4, pos := "law.go:63", after := #[{ on := 1, ground := Ground.data }, { on := 2, ground := Ground.data }], guard := none }) (v := ?_) rfl (by kernel_rfl) (by kernel_rfl) (by kernel_rfl) (fun _ _ _ h => h) (Or.inl ⟨by rfl, ?_⟩) (by assumption) ?_
          rotate_left
          · (intro wz hSw; (try dsimp only at hSw); go_simp; try with_reducible rfl)
          try simp only [Act.put, List.setIfInBounds_toArray, List.set_cons_zero, List.set_cons_succ]
          refine wpAnyH_take (i := 4) (oi := { dst := some 98, op := Op.move (Operand.tmp 97), type := 4, pos := "law.go:63", after := #[{ on := 3, ground := Ground.data }, { on := 1, ground := Ground.chain }], guard := none }) (v := ?_) rfl (by kernel_rfl) (by kernel_rfl) (by kernel_rfl) (fun _ _ _ h => h) (Or.inl ⟨by rfl, ?_⟩) (by assumption) ?_
          rotate_left
          · (intro wz hSw; (try dsimp only at hSw); go_simp; try with_reducible rfl)
          try simp only [Act.put, List.setIfInBounds_toArray, List.set_cons_zero, List.set_cons_succ]
          refine wpAnyH_take (i := 5) (oi := { dst := some 99, op := Op.move (Operand.tmp 20), type := 37, pos := "law.go:63", after := #[{ on := 4, ground := Ground.guard }], guard := some (4, false) }) (v := ?_) rfl (by kernel_rfl) (by kernel_rfl) (by kernel_rfl) (fun _ _ _ h => h) (Or.inl ⟨by rfl, ?_⟩) (by assumption) ?_
          rotate_left
          · (intro wz hSw; (try dsimp only at hSw); go_simp; try with_reducible rfl)
          try simp only [Act.put, List.setIfInBounds_toArray, List.set_cons_zero, List.set_cons_succ]
          refine wpAnyH_take (i := 6) (oi := { dst := some 100, op := Op.binOp BinOp.neq 37 (Operand.tmp 99) (Operand.const (Value.int IntKind.i64 0)) 37, type := 4, pos := "law.go:63", after := #[{ on := 5, ground := Ground.data }, { on := 4, ground := Ground.guard }], guard := some (4, false) }) (v := ?_) rfl (by kernel_rfl) (by kernel_rfl) (by kernel_rfl) (fun _ _ _ h => h) (Or.inl ⟨by rfl, ?_⟩) (by assumption) ?_
          rotate_left
          · (intro wz hSw; (try dsimp only at hSw); go_simp; try with_reducible rfl)
          try simp only [Act.put, List.setIfInBounds_toArray, List.set_cons_zero, List.set_cons_succ]
          refine wpAnyH_take (i := 7) (oi := { dst := some 101, op := Op.pick (Operand.tmp 98) (Operand.const (Value.bool true)) (Operand.tmp 100), type := 4, pos := "law.go:63", after := #[{ on := 4, ground := Ground.data }, { on := 6, ground := Ground.data }], guard := none }) (v := ?_) rfl (by kernel_rfl) (by kernel_rfl) (by kernel_rfl) (fun _ _ _ h => h) (Or.inl ⟨by rfl, ?_⟩) (by assumption) ?_
          rotate_left
          · (intro wz hSw; (try dsimp only at hSw); go_simp; try with_reducible rfl)
          try simp only [Act.put, List.setIfInBounds_toArray, List.set_cons_zero, List.set_cons_succ]
          refine wpAnyH_take (i := 8) (oi := { dst := some 102, op := Op.move (Operand.tmp 101), type := 4, pos := "law.go:63", after := #[{ on := 7, ground := Ground.data }, { on := 4, ground := Ground.chain }], guard := none }) (v := ?_) rfl (by kernel_rfl) (by kernel_rfl) (by kernel_rfl) (fun _ _ _ h => h) (Or.inl ⟨by rfl, ?_⟩) (by assumption) ?_
          rotate_left
          · (intro wz hSw; (try dsimp only at hSw); go_simp; try with_reducible rfl)
          try simp only [Act.put, List.setIfInBounds_toArray, List.set_cons_zero, List.set_cons_succ]
          refine wpAnyH_take (i := 9) (oi := { dst := some 103, op := Op.load 30 (Operand.tmp 19), type := 30, pos := "law.go:63", after := #[{ on := 8, ground := Ground.guard }], guard := some (8, false) }) rfl (by kernel_rfl) (by kernel_rfl) (by kernel_rfl) (fun _ _ _ h => h) (yieldsIf_load_mid (by rfl) _ _ rfl c 0 rfl N _ (fun wz hz => hz.2.1.out) Tryd.underlying30 rfl HIL.out) (by assumption) ?_
          try simp only [Act.put, List.setIfInBounds_toArray, List.set_cons_zero, List.set_cons_succ]
          refine wpAnyH_take (i := 10) (oi := { dst := some 104, op := Op.load 30 (Operand.tmp 12), type := 30, pos := "law.go:63", after := #[{ on := 8, ground := Ground.guard }], guard := some (8, false) }) rfl (by kernel_rfl) (by kernel_rfl) (by kernel_rfl) (fun _ _ _ h => h) (yieldsIf_load_mid (by rfl) _ _ rfl n 0 rfl N _ (fun wz hz => hz.1.out) Tryd.underlying30 rfl HIL.out) (by assumption) ?_
          try simp only [Act.put, List.setIfInBounds_toArray, List.set_cons_zero, List.set_cons_succ]
          refine wpAnyH_take (i := 11) (oi := { dst := some 105, op := Op.binOp BinOp.neq 30 (Operand.tmp 103) (Operand.tmp 104) 30, type := 4, pos := "law.go:63", after := #[{ on := 9, ground := Ground.data }, { on := 10, ground := Ground.data }, { on := 8, ground := Ground.guard }], guard := some (8, false) }) (v := .bool false) rfl (by kernel_rfl) (by kernel_rfl) (by kernel_rfl) (fun _ _ _ h => h) (Or.inl ⟨by rfl, ?_⟩) (by assumption) ?_
          · (intro wz hSw; go_simp; first | done | simp [hne, hng])
          try simp only [Act.put, List.setIfInBounds_toArray, List.set_cons_zero, List.set_cons_succ]
          refine wpAnyH_take (i := 12) (oi := { dst := some 106, op := Op.pick (Operand.tmp 102) (Operand.const (Value.bool true)) (Operand.tmp 105), type := 4, pos := "law.go:63", after := #[{ on := 8, ground := Ground.data }, { on := 11, ground := Ground.data }], guard := none }) (v := ?_) rfl (by kernel_rfl) (by kernel_rfl) (by kernel_rfl) (fun _ _ _ h => h) (Or.inl ⟨by rfl, ?_⟩) (by assumption) ?_
          rotate_left
          · (intro wz hSw; (try dsimp only at hSw); go_simp; try with_reducible rfl)
          try simp only [Act.put, List.setIfInBounds_toArray, List.set_cons_zero, List.set_cons_succ]
          refine wpAnyH_done (by kernel_rfl) ?_ _
          clear hne hng hHeld
          have HN11 := Lib.hid (HN10.out.below G9.out)
          have HC11 := Lib.hid (HC10.out.below G9.out)
          have hT11 := (HK.out _ G9.out).2.2
          have HB11 := Lib.hid (HB10.out.trans (G9.out.mono HB10.out.size))
          obtain ⟨bcap, wB, hconv, hrow, hbel⟩ := bytes_of w9 SS
          rw [HSl.out] at hconv hrow
          have HNB := Lib.hid (HN11.out.below hbel)
          have HCB := Lib.hid (HC11.out.below hbel)
          have HRB := Lib.hid hrow
          have HBB := Lib.hid (HB11.out.trans (hbel.mono HB11.out.size))
          have HDl : Hid (w.heap.size ≤ w9.heap.size) := Lib.hid HB11.out.size
          have HDc : Hid (c < w9.heap.size) := Lib.hid HC11.out.1
          clear hbel hrow HK G8 G9 HN10 HC10 HT10 HB10 HN11 HC11 HB11
          go_upto_region 32 with fail
          clear hconv hT11
          have HC12 := Lib.hid (HCB.out.alloc (.cells #[.slice (some ⟨w9.heap.size, 0, none⟩) 64 bcap] 33))
          have HR12 := Lib.hid (HRB.out.alloc (.cells #[.slice (some ⟨w9.heap.size, 0, none⟩) 64 bcap] 33))
          have HB12 := Lib.hid (HBB.out.alloc HBB.out.size (.cells #[.slice (some ⟨w9.heap.size, 0, none⟩) 64 bcap] 33))
          have hbx : (wB.alloc (.cells #[.slice (some ⟨w9.heap.size, 0, none⟩) 64 bcap] 33)).cell? ⟨wB.heap.size, 0, none⟩ = some (.slice (some ⟨w9.heap.size, 0, none⟩) 64 bcap) := boxNew rfl
          have HDb : Hid (w9.heap.size < wB.heap.size) := Lib.hid HRB.out.1
          clear HNB HCB HRB HBB
          generalize wB.alloc (.cells #[.slice (some ⟨w9.heap.size, 0, none⟩) 64 bcap] 33) = w12 at *
          generalize wB.heap.size = xb at *
          generalize w9.heap.size = DB at *
          obtain ⟨p, hp', hpl⟩ := maskN a3 63 (by decide)
          have hp : bits .and .i64 a3 63 = (p : Int) := hp'
          have hp1 : (p : Int) < 64 := by omega
          have hp0 : (0 : Int) ≤ (p : Int) := by omega
          have hcell := (HR12.out.2 p (by omega)).1
          have hfr := (HR12.out.2 p (by omega)).2
          have hyb : (SS.data.toList.getD p 0).toNat < 256 := UInt8.toNat_lt _
          obtain ⟨y, hy⟩ : ∃ y, (SS.data.toList.getD p 0).toNat = y := ⟨_, rfl⟩
          simp only [hy] at hcell hyb
          have hxr := u8_xor_nat y cb hyb HCb.out
          obtain ⟨z, hzz⟩ : ∃ z, y ^^^ cb = z := ⟨_, rfl⟩
          have hz8 : z < 256 := by rw [← hzz]; exact Nat.xor_lt_two_pow (n := 8) hyb HCb.out
          have HZZ := Lib.hid hzz
          have HYY := Lib.hid hy
          rw [hzz] at hxr
          have HPl := Lib.hid hpl
          have HZ8 := Lib.hid hz8
          clear hzz hy hp' hyb hpl hz8
          go_upto_region 33 with fail
          obtain ⟨Mx, hMx⟩ : ∃ Mx, Mx = SS.data.toList.set p (UInt8.ofNat z) := ⟨_, rfl⟩
          have hSl : SS.data.toList.length = 64 := by rw [← HSl.out]; simp
          have hMl : Mx.length = 64 := by rw [hMx, List.length_set, hSl]
          have hpl := HPl.out
          have hMv : (Mx.getD p 0).toNat = z := by
            have := HZ8.out
            rw [hMx, List.getD_eq_getElem?_getD, List.getElem?_set_self (by omega)]
            show (UInt8.ofNat z).toNat = z
            rw [UInt8.toNat_ofNat']
            omega
          have hMo : ∀ j, j ≠ p → Mx[j]? = SS.data.toList[j]? := fun j hj => by rw [hMx, List.getElem?_set_ne (fun e => hj e.symm)]
          have hRM := HR12.out.set (g := fun j => (Mx.getD j 0).toNat) p z (by omega) hMv fun j hj => by
            rw [List.getD_eq_getElem?_getD, List.getD_eq_getElem?_getD, hMo j hj]
          have HB13 : Hid (Below w.heap.size w (w12.setCell ⟨DB, p, none⟩ (.int .u8 (z : Int)))) := Lib.hid (HB12.out.setCell HDl.out _)
          have HX13 : Hid ((w12.setCell ⟨DB, p, none⟩ (.int .u8 (z : Int))).cell? ⟨xb, 0, none⟩ = some (.slice (some ⟨DB, 0, none⟩) 64 bcap)) := Lib.hid (by
            rw [World.cell?_setCell_other _ _ _ _ (fun e => by have h1 : DB = xb := congrArg Addr.block e; have := HDb.out; omega)]
            exact hbx)
          have HC13 := Lib.hid (HC12.out.far (c := DB) (k := p) (.int .u8 (z : Int)) (by have := HDc.out; omega))
          have hTu := HTu.out p cb (by omega) HCb.out Mx hMl (by rw [hMv, ← HZZ.out, HYY.out]) hMo
          have HRM := Lib.hid hRM
          have HML := Lib.hid hMl
          clear hMx hMl hMv hMo hRM hcell hfr hp hxr hp1 hp0 hbx HB12 HC12 HR12 hSl hpl
          generalize w12.setCell ⟨DB, p, none⟩ (.int .u8 (z : Int)) = w13 at *
          by_cases hc0 : cb = 0
          · have HG2 := Lib.hid (guard2_any ⟨Mx.toArray⟩ N none (hTu.1 hc0) HNl.out HNo.out xb DB bcap c w13 (by rw [bl_size, HML.out]) HX13.out HRM.out _ HC13.out)
            clear hTu
            subst hc0
            go_wp2_with fail
            refine HG2.out.mono ?_
            rintro e w14 ⟨rfl, hg14⟩
            have HB14 : Hid (Below w.heap.size w w14) := Lib.hid (hg14.below HB13.out HB13.out.size fun x hx => by rw [hx]; exact HWc.out)
            clear hg14
            go_wp2_with fail
            go_ret
            exact ⟨rfl, HB14.out⟩
          · have HG2 := Lib.hid (guard2_any ⟨Mx.toArray⟩ N (some 11) (hTu.2 hc0) HNl.out HNo.out xb DB bcap c w13 (by rw [bl_size, HML.out]) HX13.out HRM.out _ HC13.out)
            have j0 : ((cb : Int) == 0) = false := by rw [beq_eq_false_iff_ne]; omega
            have j1 : ((cb : Int) != 0) = true := by rw [bne_iff_ne]; omega
            clear hTu hc0
            go_wp2_with fail
            refine HG2.out.mono ?_
            rintro e w14 ⟨rfl, hg14⟩
            have HB14 : Hid (Below w.heap.size w w14) := Lib.hid (hg14.below HB13.out HB13.out.size fun x hx => by rw [hx]; exact HWc.out)
            clear hg14
            go_wp2_with fail
            go_ret
            exact ⟨rfl, HB14.out⟩
end Go.Proofs.YtfmhcomebjggoaaDoor
