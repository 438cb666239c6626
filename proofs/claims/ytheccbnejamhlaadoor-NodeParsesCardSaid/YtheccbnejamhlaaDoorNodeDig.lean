/-
  node: Digest of any sums.
-/
import Derived.Test.YtheccbnejamhlaaDoorNodeSums
namespace Go.Proofs.YtheccbnejamhlaaDoor
open Go.RowKit

/-- within Digest: the sums in their block, the Out on its way, the result's block, all that was there -/
structure DigAt (w : World) (b : Nat) (X : List Value) (B o R : Nat) (v1 : Value) (l : List UInt8) (wx : World) : Prop where
  src : wx.rangeAt b 0 X
  out : OutAt B o v1 l wx
  res : Cells R 32 (fun _ => .int .u8 0) wx
  below : Below w.heap.size w wx
  lo : w.heap.size ≤ R
  ro : R < o
  br : b < R
theorem Cells.grew {b n : Nat} {f : Nat → Value} {S : Nat → Prop} {w w' : World} (h : Cells b n f w) (k : Grew S w w') (hS : ¬ S b) : Cells b n f w' :=
  ⟨Nat.lt_of_lt_of_le h.1 k.size, fun j hj => by
    rw [k.cell (p := ⟨b, j, none⟩) h.1 hS, k.frozen (p := ⟨b, j, none⟩) h.1 hS]
    exact h.2 j hj⟩
theorem DigAt.to {w : World} {b : Nat} {X : List Value} {B o R : Nat} {v1 : Value} {l l2 : List UInt8} {wx wy : World} (h : DigAt w b X B o R v1 l wx) (k : OutTo B o v1 l2 wx wy) : ∃ v2, Hid (DigAt w b X B o R v2 l2 wy) := by
  obtain ⟨v2, a, _, c⟩ := k
  have hB := h.out.lt
  have hlo := h.lo
  have hro := h.ro
  have hbr := h.br
  have hR := h.res.1
  refine ⟨v2, Lib.hid ⟨fun j v hv => ?_, a, h.res.grew c ?_, c.below h.below h.below.size ?_, hlo, hro, hbr⟩⟩
  · rw [c.cell (by show b < _; omega) ?_]
    · exact h.src j v hv
    · rintro (e | e)
      · have e : b = o := e
        omega
      · have := h.out.own _ e
        have : B ≤ b := this
        omega
  · rintro (e | e)
    · omega
    · have := h.out.own _ e
      omega
  · rintro q (e | e)
    · omega
    · have := h.out.own _ e
      omega
theorem DigAt.step {w : World} {b : Nat} {X : List Value} {B o R : Nat} {v1 : Value} {l : List UInt8} {wx wy : World} (h : DigAt w b X B o R v1 l wx) (k : Below wx.heap.size wx wy) : DigAt w b X B o R v1 l wy :=
  ⟨range_below h.src (Nat.lt_trans h.br h.res.1) k, h.out.kept (S := fun _ => False) (Grew.of_below k) (fun e => e) (fun _ _ e => e), h.res.below k, h.below.trans (k.mono h.below.size), h.lo, h.ro, h.br⟩
theorem digNew (w : World) (X : List Value) : DigAt w w.heap.size X (w.heap.size + 1 + 1 + 1) (w.heap.size + 1 + 1) (w.heap.size + 1) (.slice none 0 0) [] (((w.alloc (.cells X.toArray 48)).alloc (.cells lit32 24)).alloc (.cells #[.slice none 0 0] 72)) := by
  have hs : ((w.alloc (.cells X.toArray 48)).alloc (.cells lit32 24)).heap.size = w.heap.size + 1 + 1 := by simp
  have h := boxNew (w := (w.alloc (.cells X.toArray 48)).alloc (.cells lit32 24)) (t := 72) (v := .slice none 0 0) hs
  have h2 := boxFree (w := (w.alloc (.cells X.toArray 48)).alloc (.cells lit32 24)) (t := 72) (v := .slice none 0 0) hs
  have hc := Cells.new (w.alloc (.cells X.toArray 48)) 32 _ 24 _ lit32_at
  rw [World.size_alloc] at hc
  exact ⟨World.rangeAt_alloc (box_range _) _, ⟨by omega, by simp, h, h2, by simp [cellsOf, World.ownsRow]⟩, hc.alloc _, (((Below.refl _ _).alloc (Nat.le_refl _) _).alloc (by simp) _).alloc (by simp; omega) _, by omega, by omega, by omega⟩
/-- what a node's digest is made of -/
def digText (l : Nat) (f : Nat → Nat) : List UInt8 := [78] ++ enc l 1 ++ texts8 f 8
theorem digText_len (l : Nat) (f : Nat → Nat) (k : Nat) : ([78] ++ enc l 1 ++ texts8 f k).length = 2 + 32 * k := by simp [enc_len, texts8_len]; omega
theorem digLen (l : Nat) (f : Nat → Nat) : (⟨(digText l f).toArray⟩ : ByteArray).size ≤ maxLen := by
  have e : (⟨(digText l f).toArray⟩ : ByteArray).size = (digText l f).length := rfl
  rw [e]
  unfold digText
  rw [digText_len]
  decide
set_option maxRecDepth 100000 in
set_option maxHeartbeats 4000000 in
theorem digest_some (f : Nat → Nat) (hf : ∀ j, f j < 256) (l : Nat) (hl : l < 4294967296) (h0 : all8 f (fun _ => 0) = false) (w : World) (hL : Laid KK SS w) :
    Calls Tryd.prog 25 #[.int .i64 (l : Int), .agg (sums f).toArray] w fun e w' => e = .returned (sumVal (digText l f)) ∧ Below w.heap.size w w' := by
  have HL := Lib.hid hL
  have hr : ((w.alloc (.cells (sums f).toArray 48)).alloc (.cells lit32 24)).rangeAt w.heap.size 0 (sums f) := box_range _
  have hb := build_sums0
  have he := fun wx => sums_binop f (fun _ => 0) wx
  rw [sums_zero, h0] at he
  have hg := fun x y wx => sums_guard f (fun _ => 0) x y wx
  rw [sums_zero] at hg
  have HIx := Lib.hid fun k hk wx => index_sums f k hk wx
  have HTx := Lib.hid fun (k : Nat) wx => text_any (fun j => f (k * 32 + j)) (fun j => hf _) wx
  have HI : Hid ((Tryd.prog.info? 48).map (·.size) = some (sums f).length) := Lib.hid (by rw [sums_len]; kernel_rfl)
  have HDn := Lib.hid (digNew w (sums f))
  have u1 := u32_as_u64 l hl
  have HP : Hid (∀ k, k < 8 → ([78] ++ enc l 1 ++ texts8 f k).length < 900000) := Lib.hid fun k hk => by rw [digText_len]; omega
  have HT8 : Hid (∀ k, [78] ++ enc l 1 ++ texts8 f k ++ (txt fun j => f (k * 32 + j)) = [78] ++ enc l 1 ++ texts8 f (k + 1)) := Lib.hid fun k => by
    rw [List.append_assoc]
    rfl
  obtain ⟨L, hLe⟩ : ∃ L, arr (Sha.dg (shaOf (digText l f))) = L := ⟨_, rfl⟩
  have HV : Hid (sumVal (digText l f) = .agg L.toArray) := Lib.hid (by rw [← hLe]; rfl)
  have hlenL : L.length = 32 := by rw [← hLe]; exact arr_len _
  have HO : Hid (L.toArray.all (·.oneCell') = true) := Lib.hid (by rw [← hLe]; exact arr_one _)
  have HI2 : Hid ((Tryd.prog.info? 24).map (·.size) = some L.length) := Lib.hid (by rw [hlenL]; kernel_rfl)
  have HI3 : Hid ((Tryd.prog.info? 24).map (·.size) = some L.toArray.size) := Lib.hid (by rw [List.size_toArray, hlenL]; kernel_rfl)
  have HLen := Lib.hid hlenL
  rw [HV.out]
  clear hLe hlenL
  generalize sums f = X at *
  generalize sums0 = Z at *
  clear h0 hL hl
  go_enter Tryd.func25, Tryd.ntmps25
  go_upto_region 3 with (first
    | (with_reducible refine wpList_alloc rfl 24 rfl _ (alloc_sum _) ?_)
    | (with_reducible refine wpList_build0 rfl 48 rfl _ (hb _) ?_)
    | (with_reducible refine wpList_load_mid rfl 48 _ rfl w.heap.size 0 rfl X _ hr Tryd.underlying48 rfl HI.out ?_))
  clear hb he hg hr
  go_wp2_with fail
  generalize ((w.alloc (.cells X.toArray 48)).alloc (.cells lit32 24)).alloc (.cells #[.slice none 0 0] 72) = W at *
  generalize w.heap.size + 1 + 1 + 1 = B at *
  generalize w.heap.size + 1 + 1 = o at *
  generalize w.heap.size + 1 = R at *
  obtain ⟨b, hbq⟩ : ∃ b, w.heap.size = b := ⟨_, rfl⟩
  have HBq := Lib.hid hbq
  rw [hbq] at HDn ⊢
  clear hbq
  refine (outText_any B o _ [] ⟨#[78]⟩ W HDn.out.out (by decide)).mono ?_
  rintro e w1 ⟨rfl, T1⟩
  obtain ⟨v1, H1⟩ := HDn.out.to T1
  clear T1 HDn
  go_wp2_with fail
  refine (outNum_any B o v1 _ l 1 w1 H1.out.out (by simp)).mono ?_
  rintro e w2 ⟨rfl, T2⟩
  obtain ⟨v2, H2'⟩ := H1.out.to T2
  have H2 : Hid (DigAt w b X B o R v2 ([78] ++ enc l 1 ++ texts8 f 0) w2) := Lib.hid (by
    have := H2'.out
    rw [wid1] at this
    show DigAt w b X B o R v2 ([78] ++ enc l 1 ++ []) w2
    rw [List.append_nil]
    exact this)
  clear T2 H1 H2'
  have hs2 := H2.out.src
  go_wp2_with (with_reducible refine wpList_load_mid rfl 48 _ rfl b 0 rfl X _ hs2 Tryd.underlying48 rfl HI.out ?_)
  clear hs2
  go_loopw [18] (fun i wx => ∃ (k : Nat) (v : Value), k ≤ 8 ∧ i = .int .i64 (k : Int) ∧ DigAt w b X B o R v ([78] ++ enc l 1 ++ texts8 f k) wx) (fun i _ => 8 - (intOf i).toNat)
  case atStart => exact ⟨0, v2, by omega, rfl, H2.out⟩
  case round =>
    obtain ⟨k, v, hk, rfl, hd⟩ := hrel
    have HD := Lib.hid hd
    clear hd H2
    by_cases hlt : k < 8
    · have i0 : (k : Int) < 8 := by omega
      have hix := HIx.out k hlt
      have HTk := Lib.hid (HTx.out k)
      have HPk := Lib.hid (HP.out k hlt)
      have HTn := Lib.hid (HT8.out k)
      obtain ⟨Y, hY⟩ : ∃ Y, arr (fun j => f (k * 32 + j)) = Y := ⟨_, rfl⟩
      have hlenY : Y.length = 32 := by rw [← hY]; exact arr_len _
      have HOY : Hid (Y.toArray.all (·.oneCell') = true) := Lib.hid (by rw [← hY]; exact arr_one _)
      have HIY2 : Hid ((Tryd.prog.info? 24).map (·.size) = some Y.length) := Lib.hid (by rw [hlenY]; kernel_rfl)
      have HIY3 : Hid ((Tryd.prog.info? 24).map (·.size) = some Y.toArray.size) := Lib.hid (by rw [List.size_toArray, hlenY]; kernel_rfl)
      have HThY : Hid ((wr.alloc (.cells lit32 24)).there wr.heap.size 0 Y.toArray.size) := Lib.hid ((Cells.new wr 32 _ 24 _ lit32_at).there 0 _ (by simp [hlenY]))
      rw [hY] at hix HTk
      have HW2 : Hid (Below wr.heap.size wr ((wr.alloc (.cells lit32 24)).setCells wr.heap.size 0 Y)) := Lib.hid (below_row ((Below.refl _ wr).alloc (Nat.le_refl _) _) Y (Nat.le_refl _))
      have HRg : Hid (((wr.alloc (.cells lit32 24)).setCells wr.heap.size 0 Y).rangeAt wr.heap.size 0 Y) := Lib.hid (World.rangeAt_setCells_same _ _ _ _ (by have z := HThY.out; rwa [List.size_toArray] at z))
      have HK := Lib.hid hlt
      have HTT : Hid ((⟨(txt fun j => f (k * 32 + j)).toArray⟩ : ByteArray).data.toList = txt fun j => f (k * 32 + j)) := Lib.hid rfl
      have HTs : Hid ((⟨(txt fun j => f (k * 32 + j)).toArray⟩ : ByteArray).size = 32) := Lib.hid (by show (txt fun j => f (k * 32 + j)).length = 32; exact txt_len _)
      clear hlt hk hY hlenY HIx HTx HP HT8
      generalize (⟨(txt fun j => f (k * 32 + j)).toArray⟩ : ByteArray) = T at *
      go_upto_region 7 with (first
        | (with_reducible refine wpList_alloc rfl 24 rfl _ (alloc_sum _) ?_)
        | (with_reducible refine wpList_store_mid rfl 24 _ _ rfl wr.heap.size 0 Y.toArray rfl rfl HThY.out HIY3.out HOY.out ?_))
      have HD2 := Lib.hid (HD.out.step HW2.out)
      have hrg := HRg.out
      clear HThY HW2 HRg hix
      change Code.wp _ _ _ _ ((wr.alloc (.cells lit32 24)).setCells wr.heap.size 0 Y)
      generalize (wr.alloc (.cells lit32 24)).setCells wr.heap.size 0 Y = W2 at *
      generalize wr.heap.size = g at *
      go_wp2_with (with_reducible refine wpList_load_mid rfl 24 _ rfl g 0 rfl Y _ hrg Tryd.underlying24 rfl HIY2.out ?_)
      refine (HTk.out _).mono ?_
      rintro e w4 ⟨rfl, hb4⟩
      have HD4 := Lib.hid (HD2.out.step hb4)
      clear hb4 HD2 hrg
      go_wp2_with fail
      refine (outText_any B o v _ T w4 HD4.out.out (by have := HPk.out; have := HTs.out; omega)).mono ?_
      rintro e w5 ⟨rfl, T5⟩
      obtain ⟨v5, H5⟩ := HD4.out.to T5
      clear T5
      go_wp2_with fail
      go_roundw
      case rel => exact ⟨k + 1, v5, by have := HK.out; omega, by go_num, by have := H5.out; rw [HTT.out, HTn.out] at this; exact this⟩
      case measure => simp [intOf]; have := HK.out; omega
    · have i0 : ¬ (k : Int) < 8 := by omega
      have hk8 : k = 8 := by omega
      have HD8 : Hid (DigAt w b X B o R v (digText l f) wr) := Lib.hid (by
        have := HD.out
        rw [hk8] at this
        exact this)
      have HA : Hid (At w (wr.alloc (.cells #[.string ⟨(digText l f).toArray⟩] 9))) := Lib.hid ((⟨HL.out.below HD8.out.below, HD8.out.below⟩ : At w wr).alloc _)
      have HDl := Lib.hid (digLen l f)
      clear hk8 hk hlt HD HIx HTx HP HT8 hf
      generalize digText l f = D at *
      go_wp2_with fail
      refine (outBytes_any B o v _ wr HD8.out.out).mono ?_
      rintro e w6 ⟨rfl, rfl⟩
      go_wp2_with fail
      with_reducible refine (of_one' w wr.heap.size 1 ⟨D.toArray⟩ (.agg L.toArray) _ (show sumVal D = _ from HV.out) HA.out HDl.out ?_).mono ?_
      · exact cell_at0 rfl
      rintro e w7 ⟨rfl, hb7⟩
      have HD9 := Lib.hid ((HD8.out.step ((Below.refl _ wr).alloc (Nat.le_refl _) _)).step hb7)
      have HTh : Hid (w7.there R 0 L.toArray.size) := Lib.hid (HD9.out.res.there 0 _ (by have := HLen.out; simp [this]))
      clear hb7 HD8 HA
      go_wp2_with (with_reducible refine wpList_store_mid rfl 24 _ _ rfl R 0 L.toArray rfl rfl HTh.out HI3.out HO.out ?_)
      refine bodyPost_ret (v := .agg L.toArray) ?_ rfl ⟨rfl, below_row HD9.out.below L HD9.out.lo⟩
      exact results_mid Tryd.results25 _ _ R 0 L _ rfl (World.rangeAt_setCells_same _ _ _ _ (by have z := HTh.out; rwa [List.size_toArray] at z)) Tryd.underlying24 rfl HI2.out
theorem digest_none (f : Nat → Nat) (l : Int) (h0 : all8 f (fun _ => 0) = true) (w : World) : Calls Tryd.prog 25 #[.int .i64 l, .agg (sums f).toArray] w fun e w' => e = .returned (.agg sum0.toArray) ∧ Below w.heap.size w w' := by
  have e : sums f = sums0 := by
    rw [← sums_zero]
    unfold sums
    exact List.map_congr_left fun j hj => by rw [(all8_iff f fun _ => 0).1 h0 j (by simpa using hj)]
  rw [e]
  exact digest_nought l w
/-- a node's digest, as a value -/
def digVal (l : Nat) (f : Nat → Nat) : Value := if all8 f (fun _ => 0) then .agg sum0.toArray else sumVal (digText l f)
theorem digest_any (f : Nat → Nat) (hf : ∀ j, f j < 256) (l : Nat) (hl : l < 4294967296) (w : World) (hL : Laid KK SS w) :
    Calls Tryd.prog 25 #[.int .i64 (l : Int), .agg (sums f).toArray] w fun e w' => e = .returned (digVal l f) ∧ Below w.heap.size w w' := by
  unfold digVal
  cases h : all8 f fun _ => 0 with
  | true => exact digest_none f l h w
  | false => exact digest_some f hf l hl h w hL
end Go.Proofs.YtheccbnejamhlaaDoor
