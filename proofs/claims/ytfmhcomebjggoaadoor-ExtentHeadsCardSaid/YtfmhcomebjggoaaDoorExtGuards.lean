/-
  ExtentHeads: the law's two Guards around extent.Parse.
-/
import Derived.Test.YtfmhcomebjggoaaDoorExtKit
import Derived.Test.YtfmhcomebjggoaaDoorGuardGrew
import Derived.Test.YtfmhcomebjggoaaDoorBoxes
namespace Go.Proofs.YtfmhcomebjggoaaDoor
open Go.RowKit

/-- what Parse answers of a text: a head, or ErrSum -/
def ParseIs (s : ByteArray) (N : List Value) (o : Option Int) : Prop :=
  (o = none ∧ ∀ wx : World, Calls Tryd.prog 11 #[.string s] wx fun e w' => e = .returned (.agg N.toArray) ∧ Below wx.heap.size wx w') ∨
  (o = some 11 ∧ ∀ wx : World, Calls Tryd.prog 11 #[.string s] wx fun e w' => e = failed 11 ∧ Below wx.heap.size wx w')
theorem guard1_any (s : ByteArray) (a m f : Nat → Nat) (x c : Nat) (W : World) (hP : ∀ wx : World, Calls Tryd.prog 11 #[.string s] wx fun e w' => e = .returned (.agg (headL a m f).toArray) ∧ Below wx.heap.size wx w')
    (hc : W.cell? ⟨x, 0, none⟩ = some (.string s)) (hn : Cells c 40 (headAt zf zf zf) W) :
    Calls Tryd.prog 9 #[.func (.func 10) #[] #[.pointer (some ⟨x, 0, none⟩), .pointer (some ⟨c, 0, none⟩)]] W fun e w' => e = .returned (.int .i64 0) ∧ Cells c 40 (headAt a m f) w' ∧ Grew (fun k => k = c) W w' := by
  have hlt := hn.1
  refine (guard_grew 10 #[.pointer (some ⟨x, 0, none⟩), .pointer (some ⟨c, 0, none⟩)] W (fun k => k = c) (fun o w1 => o = none ∧ Cells c 40 (headAt a m f) w1) (by omega) (fun _ => by kernel_rfl) ?_).mono ?_
  · have hc1 : (W.alloc errBox).cell? ⟨x, 0, none⟩ = some (.string s) := boxOld hc (cell_lt hc)
    have hn1 : Cells c 40 (headAt zf zf zf) (W.alloc errBox) := hn.alloc _
    generalize W.alloc errBox = w at *
    have HN := Lib.hid hn1
    have HP := Lib.hid hP
    obtain ⟨N, hN⟩ : ∃ N, headL a m f = N := ⟨_, rfl⟩
    have HNl : Hid (N.length = 40) := Lib.hid (by rw [← hN]; exact headL_len _ _ _)
    have HNo : Hid (N.toArray.all (·.oneCell') = true) := Lib.hid (by rw [← hN]; exact headL_one _ _ _)
    have HIN : Hid ((Tryd.prog.info? 30).map (·.size) = some N.toArray.size) := Lib.hid (by rw [List.size_toArray, HNl.out]; kernel_rfl)
    have HF : Hid (∀ wx : World, Cells c 40 (headAt zf zf zf) wx → Cells c 40 (headAt a m f) (wx.setCells c 0 N)) := Lib.hid fun wx h => by rw [← hN]; exact h.headFill
    rw [hN] at HP
    clear hN hc hn hn1 hP
    go_enter Tryd.func10, Tryd.ntmps10
    go_wp2_with fail
    refine (HP.out _).mono ?_
    rintro e w1 ⟨rfl, hb⟩
    have HB := Lib.hid hb
    have HN1 := Lib.hid (HN.out.below hb)
    clear hb
    have HTh : Hid (w1.there c 0 N.toArray.size) := Lib.hid (HN1.out.there 0 _ (by have := HNl.out; simp [this]))
    go_wp2_with (with_reducible refine wpList_store_mid rfl 30 _ _ rfl c 0 N.toArray rfl rfl HTh.out HIN.out HNo.out ?_)
    go_end0
    exact ⟨none, rfl, (Grew.of_below HB.out).row c 0 N fun _ => rfl, rfl, HF.out _ HN1.out⟩
  · rintro e w' ⟨o, w1, rfl, ⟨rfl, hq⟩, rfl, hg, hl⟩
    have gd := done_only W.heap.size none w1
    exact ⟨rfl, hq.block (gd.block _ (by omega) (by omega)) gd.size, hg⟩
theorem guard2_any (s : ByteArray) (N : List Value) (o : Option Int) (hP : ParseIs s N o) (hNl : N.length = 40) (hNo : N.toArray.all (·.oneCell') = true) (x D cap c : Nat) (W : World) (hs : s.size = 64)
    (hc : W.cell? ⟨x, 0, none⟩ = some (.slice (some ⟨D, 0, none⟩) 64 cap)) (hr : RowIs D 64 (fun j => (s.data.toList.getD j 0).toNat) W) (g : Nat → Value) (hn : Cells c 40 g W) :
    Calls Tryd.prog 9 #[.func (.func 13) #[] #[.pointer (some ⟨x, 0, none⟩), .pointer (some ⟨c, 0, none⟩)]] W fun e w' => e = .returned (.int .i64 (o.getD 0)) ∧ Grew (fun k => k = c) W w' := by
  have hlt := hn.1
  refine (guard_grew 13 #[.pointer (some ⟨x, 0, none⟩), .pointer (some ⟨c, 0, none⟩)] W (fun k => k = c) (fun o1 w1 => o1 = o) (by omega) (fun _ => by kernel_rfl) ?_).mono ?_
  · have hc1 : (W.alloc errBox).cell? ⟨x, 0, none⟩ = some (.slice (some ⟨D, 0, none⟩) 64 cap) := boxOld hc (cell_lt hc)
    have hn1 : Cells c 40 g (W.alloc errBox) := hn.alloc _
    have hr1 := hr.alloc errBox
    generalize W.alloc errBox = w at *
    have HN := Lib.hid hn1
    have HIN : Hid ((Tryd.prog.info? 30).map (·.size) = some N.toArray.size) := Lib.hid (by rw [List.size_toArray, hNl]; kernel_rfl)
    have hcv : (convert 33 9 (.slice (some ⟨D, 0, none⟩) 64 cap)).run Tryd.prog w = .ok (.string s) w := by
      have h := conv_row D 64 cap s.data.toList (by rw [← hs]; simp) w hr1
      rwa [bl_of s] at h
    have HNl := Lib.hid hNl
    have HNo := Lib.hid hNo
    rcases hP with ⟨rfl, hP⟩ | ⟨rfl, hP⟩
    · have HP := Lib.hid hP
      clear hc hn hn1 hr hr1 hP hs hNl hNo
      go_enter Tryd.func13, Tryd.ntmps13
      go_wp2_with fail
      refine (HP.out _).mono ?_
      rintro e w1 ⟨rfl, hb⟩
      have HB := Lib.hid hb
      have HN1 := Lib.hid (HN.out.below hb)
      clear hb
      have HTh : Hid (w1.there c 0 N.toArray.size) := Lib.hid (HN1.out.there 0 _ (by have := HNl.out; simp [this]))
      go_wp2_with (with_reducible refine wpList_store_mid rfl 30 _ _ rfl c 0 N.toArray rfl rfl HTh.out HIN.out HNo.out ?_)
      go_end0
      exact ⟨rfl, (Grew.of_below HB.out).row c 0 N fun _ => rfl⟩
    · have HP := Lib.hid hP
      clear hc hn hn1 hr hr1 hP hs hNl hNo
      go_enter Tryd.func13, Tryd.ntmps13
      go_wp2_with fail
      refine (HP.out _).mono ?_
      rintro e w1 ⟨rfl, hb⟩
      have HB := Lib.hid hb
      clear hb
      unfold failed
      go_wp2_with fail
      exact ⟨rfl, some 11, rfl, Grew.of_below HB.out, rfl⟩
  · rintro e w' ⟨o1, w1, rfl, rfl, rfl, hg, hl⟩
    exact ⟨rfl, hg⟩
end Go.Proofs.YtfmhcomebjggoaaDoor
