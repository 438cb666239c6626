/-
  extent: a head's bytes.
-/
import Derived.Test.YtbohpffigmllkaaGreatDoorExtHead
import Derived.Test.YtbohpffigmllkaaGreatDoorBoxes
import Derived.Deep.Grids
namespace Go.Proofs.YtbohpffigmllkaaGreatDoor
open Go.RowKit

theorem plainInt : Tryz.prog.plainKey 3 = true := by kernel_rfl
theorem plainU32 : Tryz.prog.plainKey 89 = true := by kernel_rfl
theorem cells_int : Tryz.prog.cellsOf 3 = 1 := by kernel_rfl
theorem cells_u32 : Tryz.prog.cellsOf 89 = 1 := by kernel_rfl
theorem index_at (a : Nat → Nat) (k : Nat) (h : k < 4) (w : World) : (Instr.index 88 (.agg (atL a).toArray) (.int .i64 (k : Int))).run Tryz.prog w = .ok (.int .i64 (a k : Nat)) w := by
  obtain ⟨i, hi⟩ : ∃ i, Tryz.prog.info? 3 = some i := info_of_underlying Tryz.underlying3
  have hs := run_sizeOf (P := Tryz.prog) w hi
  rw [cells_int] at hs
  have e : (part 3 (atL a).toArray k).run Tryz.prog w = .ok (.int .i64 (a k : Nat)) w := run_part_plain w plainInt (by rw [List.getElem?_toArray]; exact atL_at a k h)
  generalize atL a = X at *
  simp [Instr.index, asIntOf, run_underlying Tryz.underlying88, hs, e]
  omega
theorem index_sm (a : Nat → Nat) (k : Nat) (h : k < 4) (w : World) : (Instr.index 90 (.agg (smL a).toArray) (.int .i64 (k : Int))).run Tryz.prog w = .ok (.int .u32 (a k : Nat)) w := by
  obtain ⟨i, hi⟩ : ∃ i, Tryz.prog.info? 89 = some i := info_of_underlying Tryz.underlying89
  have hs := run_sizeOf (P := Tryz.prog) w hi
  rw [cells_u32] at hs
  have e : (part 89 (smL a).toArray k).run Tryz.prog w = .ok (.int .u32 (a k : Nat)) w := run_part_plain w plainU32 (by rw [List.getElem?_toArray]; exact smL_at a k h)
  generalize smL a = X at *
  simp [Instr.index, asIntOf, run_underlying Tryz.underlying90, hs, e]
  omega
theorem range_below {X : Nat} {L : List Value} {w w' : World} (h : w.rangeAt X 0 L) (hx : X < w.heap.size) (k : Below w.heap.size w w') : w'.rangeAt X 0 L := fun j v hv => by
  rw [k.cell (p := ⟨X, 0 + j, none⟩) hx]
  exact h j v hv
/-- within Bytes: the head in its block, the Out on its way, all that was there -/
structure HbAt (w : World) (b : Nat) (N : List Value) (B o : Nat) (v1 : Value) (l : List UInt8) (wx : World) : Prop where
  src : wx.rangeAt b 0 N
  out : OutAt B o v1 l wx
  below : Below w.heap.size w wx
  lo : w.heap.size ≤ b
  bo : b < o
theorem HbAt.to {w : World} {b : Nat} {N : List Value} {B o : Nat} {v1 : Value} {l l2 : List UInt8} {wx wy : World} (h : HbAt w b N B o v1 l wx) (k : OutTo B o v1 l2 wx wy) : ∃ v2, Hid (HbAt w b N B o v2 l2 wy) := by
  obtain ⟨v2, a, _, c⟩ := k
  have hB := h.out.lt
  have hlo := h.lo
  have hbo := h.bo
  have hbs := h.out.base
  refine ⟨v2, Lib.hid ⟨fun j v hv => ?_, a, c.below h.below h.below.size ?_, hlo, hbo⟩⟩
  · rw [c.cell (by show b < _; omega) ?_]
    · exact h.src j v hv
    · rintro (e | e)
      · have e : b = o := e
        omega
      · have := h.out.own _ e
        have : B ≤ b := this
        omega
  · rintro q (e | e)
    · omega
    · have := h.out.own _ e
      omega
theorem HbAt.step {w : World} {b : Nat} {N : List Value} {B o : Nat} {v1 : Value} {l : List UInt8} {wx wy : World} (h : HbAt w b N B o v1 l wx) (k : Below wx.heap.size wx wy) : HbAt w b N B o v1 l wy :=
  ⟨range_below h.src (by have := h.bo; have := h.out.lt; have := h.out.base; omega) k, h.out.kept (S := fun _ => False) (Grew.of_below k) (fun e => e) (fun _ _ e => e), h.below.trans (k.mono h.below.size), h.lo, h.bo⟩
theorem hbNew (w W : World) (N : List Value) (hW : W.heap.size = w.heap.size + 1) (hr : W.rangeAt w.heap.size 0 N) (hb : Below w.heap.size w W) : HbAt w w.heap.size N (w.heap.size + 1 + 1) (w.heap.size + 1) (.slice none 0 0) [] (W.alloc (.cells #[.slice none 0 0] 97)) := by
  have h := boxNew (w := W) (t := 97) (v := .slice none 0 0) hW
  have h2 := boxFree (w := W) (t := 97) (v := .slice none 0 0) hW
  exact ⟨World.rangeAt_alloc hr _, ⟨by omega, by simp; omega, h, h2, by simp [cellsOf, World.ownsRow]⟩, hb.alloc (by omega) _, by omega, by omega⟩
theorem wid2 : wid 2 = 2 := rfl
set_option maxRecDepth 100000 in
set_option maxHeartbeats 4000000 in
theorem bytes_any (a m f : Nat → Nat) (ha : ∀ j, a j < 65536) (hm : ∀ j, m j < 4294967296) (hf : ∀ j, f j < 256) (w : World) : Calls Tryz.prog 98 #[.agg (headL a m f).toArray] w fun e w' => e = .returned (.string (sealS (headT a m f))) ∧ Below w.heap.size w w' := by
  have hr : (w.alloc (.cells (headL a m f).toArray 92)).rangeAt w.heap.size 0 (headL a m f) := fun j v hv => by rw [World.cell?_alloc_new, List.getElem?_toArray, Nat.zero_add]; exact hv
  have HN0 := Lib.hid (hbNew w (w.alloc (.cells (headL a m f).toArray 92)) (headL a m f) (by simp) hr ((Below.refl _ w).alloc (Nat.le_refl _) _))
  have HIx := Lib.hid fun k hk wx => index_at a k hk wx
  have HIy := Lib.hid fun k hk wx => index_sm m k hk wx
  have HTx := Lib.hid fun wx => text_any f hf wx
  have HI4 : Hid ((Tryz.prog.info? 88).map (·.size) = some (atL a).length) := Lib.hid (by rw [atL_len]; kernel_rfl)
  have HJ4 : Hid ((Tryz.prog.info? 90).map (·.size) = some (smL m).length) := Lib.hid (by rw [smL_len]; kernel_rfl)
  have HIA : Hid ((Tryz.prog.info? 51).map (·.size) = some (arr f).length) := Lib.hid (by rw [arr_len]; kernel_rfl)
  have HRa := Lib.hid (fun (W : World) (b : Nat) => range_at (W := W) (b := b) (a := a) (m := m) (f := f))
  have HRm := Lib.hid (fun (W : World) (b : Nat) => range_sm (W := W) (b := b) (a := a) (m := m) (f := f))
  have HRs := Lib.hid (fun (W : World) (b : Nat) => range_sum (W := W) (b := b) (a := a) (m := m) (f := f))
  have HA := Lib.hid ha
  have HM := Lib.hid hm
  have HP1 : Hid (∀ k, k ≤ 4 → ([69] ++ atsT a k).length ≤ 9) := Lib.hid fun k hk => by simp [atsT_len]; omega
  have HP2 : Hid (∀ k, k ≤ 4 → ([69] ++ atsT a 4 ++ smsT m k).length ≤ 25) := Lib.hid fun k hk => by simp [atsT_len, smsT_len]; omega
  have HTT : Hid ((⟨(txt f).toArray⟩ : ByteArray).data.toList = txt f) := Lib.hid rfl
  have HTs : Hid ((⟨(txt f).toArray⟩ : ByteArray).size = 32) := Lib.hid (by show (txt f).length = 32; exact txt_len _)
  have HT8 : Hid ([69] ++ atsT a 4 ++ smsT m 4 ++ txt f = headT a m f) := Lib.hid rfl
  have HNl := Lib.hid (headT_60 a m f)
  have HSl : Hid ((⟨(sealed (headT a m f)).toArray⟩ : ByteArray) = sealS (headT a m f)) := Lib.hid rfl
  generalize headL a m f = N at *
  generalize atL a = A4 at *
  generalize smL m = M4 at *
  generalize arr f = X at *
  generalize (⟨(txt f).toArray⟩ : ByteArray) = T at *
  clear hf ha hm hr
  go_enter Tryz.func98, Tryz.ntmps98
  go_wp2_with fail
  refine (outText_any (w.heap.size + 1 + 1) (w.heap.size + 1) _ [] ⟨#[69]⟩ _ HN0.out.out (by decide)).mono ?_
  rintro e w1 ⟨rfl, T1⟩
  obtain ⟨v1, H1'⟩ := HN0.out.to T1
  have H1 : Hid (HbAt w w.heap.size N (w.heap.size + 1 + 1) (w.heap.size + 1) v1 ([69] ++ atsT a 0) w1) := H1'
  clear T1 HN0 H1'
  have hs2 := HRa.out _ _ H1.out.src
  generalize w.heap.size + 1 + 1 = B at *
  generalize w.heap.size + 1 = o at *
  obtain ⟨b, hbq⟩ : ∃ b, w.heap.size = b := ⟨_, rfl⟩
  have HBl : Hid (∀ W, Below b w W → Below w.heap.size w W) := Lib.hid fun W h => by rw [hbq]; exact h
  have H3 : Hid (HbAt w b N B o v1 ([69] ++ atsT a 0) w1) := Lib.hid (by rw [← hbq]; exact H1.out)
  rw [hbq] at hs2 ⊢
  clear hbq H1
  go_wp2_with (with_reducible refine wpList_load_mid rfl 88 _ rfl b 0 rfl A4 _ hs2 Tryz.underlying88 rfl HI4.out ?_)
  clear hs2
  go_loopw [12] (fun i wx => ∃ (k : Nat) (v : Value), k ≤ 4 ∧ i = .int .i64 (k : Int) ∧ HbAt w b N B o v ([69] ++ atsT a k) wx) (fun i _ => 4 - (intOf i).toNat)
  case atStart => exact ⟨0, v1, by omega, rfl, H3.out⟩
  case round =>
    obtain ⟨k, v, hk, rfl, hd⟩ := hrel
    have HD := Lib.hid hd
    clear hd H3
    by_cases hlt : k < 4
    · have i0 : (k : Int) < 4 := by omega
      have hix := HIx.out k hlt
      have u2 := u32_as_u64 (a k) (by have := HA.out k; omega)
      have HPk := Lib.hid (HP1.out k hk)
      have HTn : Hid ([69] ++ atsT a k ++ enc (a k) 2 = [69] ++ atsT a (k + 1)) := Lib.hid (by rw [List.append_assoc]; rfl)
      have HK := Lib.hid hlt
      clear hlt hk
      generalize a k = q at *
      go_wp2_with fail
      refine (outNum_any B o v _ q 2 wr HD.out.out (by have := HPk.out; omega)).mono ?_
      rintro e w5 ⟨rfl, T5⟩
      obtain ⟨v5, H5⟩ := HD.out.to T5
      clear T5
      go_wp2_with fail
      go_roundw
      case rel => exact ⟨k + 1, v5, by have := HK.out; omega, by go_num, by have := H5.out; rw [wid2, HTn.out] at this; exact this⟩
      case measure => simp [intOf]; have := HK.out; omega
    · have i0 : ¬ (k : Int) < 4 := by omega
      obtain rfl : k = 4 := by omega
      have hs3 := HRm.out _ _ HD.out.src
      have HD0 : Hid (HbAt w b N B o v ([69] ++ atsT a 4 ++ smsT m 0) wr) := Lib.hid (by have := HD.out; unfold smsT; rw [List.append_nil]; exact this)
      clear hlt hk HD
      go_wp2_with (with_reducible refine wpList_load_mid rfl 90 _ rfl b 4 rfl M4 _ hs3 Tryz.underlying90 rfl HJ4.out ?_)
      clear hs3
      go_loopw [22] (fun i wx => ∃ (k : Nat) (v : Value), k ≤ 4 ∧ i = .int .i64 (k : Int) ∧ HbAt w b N B o v ([69] ++ atsT a 4 ++ smsT m k) wx) (fun i _ => 4 - (intOf i).toNat)
      case atStart => exact ⟨0, v, by omega, rfl, HD0.out⟩
      case round =>
        obtain ⟨k, v, hk, rfl, hd⟩ := hrel
        have HD := Lib.hid hd
        clear hd HD0
        by_cases hlt : k < 4
        · have i0 : (k : Int) < 4 := by omega
          have hix := HIy.out k hlt
          have u2 := u32_as_u64 (m k) (by have := HM.out k; omega)
          have HPk := Lib.hid (HP2.out k hk)
          have HTn : Hid ([69] ++ atsT a 4 ++ smsT m k ++ enc (m k) 4 = [69] ++ atsT a 4 ++ smsT m (k + 1)) := Lib.hid (by rw [List.append_assoc]; rfl)
          have HK := Lib.hid hlt
          clear hlt hk
          generalize m k = q at *
          go_wp2_with fail
          refine (outNum_any B o v _ q 4 _ HD.out.out (by have := HPk.out; omega)).mono ?_
          rintro e w5 ⟨rfl, T5⟩
          obtain ⟨v5, H5⟩ := HD.out.to T5
          clear T5
          go_wp2_with fail
          go_roundw
          case rel => exact ⟨k + 1, v5, by have := HK.out; omega, by go_num, by have := H5.out; rw [wid4, HTn.out] at this; exact this⟩
          case measure => simp [intOf]; have := HK.out; omega
        · have i0 : ¬ (k : Int) < 4 := by omega
          obtain rfl : k = 4 := by omega
          have hs9 := HRs.out _ _ HD.out.src
          have HPk := Lib.hid (HP2.out 4 hk)
          clear hlt hk
          go_wp2_with (with_reducible refine wpList_load_mid rfl 51 _ rfl b 8 rfl X _ hs9 Tryz.underlying51 rfl HIA.out ?_)
          clear hs9
          refine (HTx.out _).mono ?_
          rintro e w4 ⟨rfl, hb4⟩
          have HD4 := Lib.hid (HD.out.step hb4)
          clear hb4 HD
          go_wp2_with fail
          refine (outText_any B o v _ T w4 HD4.out.out (by have := HPk.out; have := HTs.out; omega)).mono ?_
          rintro e w5 ⟨rfl, T5⟩
          obtain ⟨v5, H5⟩ := HD4.out.to T5
          clear T5 HD4
          rw [HTT.out, HT8.out] at H5
          go_wp2_with fail
          refine (close_any B o v5 _ w5 H5.out.out HNl.out).mono ?_
          rintro e w6 ⟨rfl, T6⟩
          obtain ⟨v6, H6⟩ := H5.out.to T6
          clear T6 H5
          go_wp2_with fail
          go_ret
          exact ⟨by rw [← HSl.out]; rfl, H6.out.below⟩
end Go.Proofs.YtbohpffigmllkaaGreatDoor
