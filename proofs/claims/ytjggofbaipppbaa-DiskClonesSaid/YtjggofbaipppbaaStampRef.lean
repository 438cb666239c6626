/-
  The document's own frame, and what it opens: for every stamp, text and sector.
-/
import Derived.Test.YtjggofbaipppbaaStampOpen
import Derived.Test.YtjggofbaipppbaaPackRefNum
import Derived.Deep.RegionWith
namespace Go.Proofs.Ytjggofbaipppbaa
open Go.RowKit
theorem refStamp_any (a b : Nat) (w : World) (ha : a < 4294967296) (hb : b < 4294967296) :
    Calls Try.prog 70 #[.int .u32 a, .int .u32 b] w fun e w' => e = .returned (.string ⟨(stampOf a b).toArray⟩) ∧ Below w.heap.size w w' := by
  have u1 := u32_as_u64 a ha
  have u2 := u32_as_u64 b hb
  have HA : Hid (∀ wx : World, Calls Try.prog 54 #[.int .u64 a, .int .i64 4] wx fun e w' => e = .returned (.string ⟨(enc a 4).toArray⟩) ∧ Below wx.heap.size wx w') := Lib.hid fun wx => refNum_any a 4 wx (by omega)
  have HB : Hid (∀ wx : World, Calls Try.prog 54 #[.int .u64 b, .int .i64 4] wx fun e w' => e = .returned (.string ⟨(enc b 4).toArray⟩) ∧ Below wx.heap.size wx w') := Lib.hid fun wx => refNum_any b 4 wx (by omega)
  have za : (⟨(enc a 4).toArray⟩ : ByteArray).size = 4 := by show (enc a 4).length = 4; rw [enc_len]
  have zb : (⟨(enc b 4).toArray⟩ : ByteArray).size = 4 := by show (enc b 4).length = 4; rw [enc_len]
  have e1 : (⟨(stampOf a b).toArray⟩ : ByteArray) = ⟨(enc a 4).toArray⟩ ++ ⟨(enc b 4).toArray⟩ := by
    apply ByteArray.ext
    simp [stampOf, ByteArray.data_append]
  rw [e1]
  clear e1
  generalize (⟨(enc a 4).toArray⟩ : ByteArray) = A at *
  generalize (⟨(enc b 4).toArray⟩ : ByteArray) = B at *
  have hc1 : ∀ wx : World, (Op.stringOp .add A B).run Try.prog wx = .ok (.string (A ++ B)) wx := fun wx => run_string_add_sum wx A B (by omega)
  go_enter Try.func70, Try.ntmps70
  go_wp2_with fail
  refine (HA.out _).mono ?_
  rintro e w1 ⟨rfl, hb1⟩
  have HB1 := Lib.hid hb1
  clear hb1
  go_wp2_with fail
  refine (HB.out _).mono ?_
  rintro e w2 ⟨rfl, hb2⟩
  have HB2 := Lib.hid (HB1.out.trans (hb2.mono HB1.out.size))
  clear hb2
  go_wp2_with fail
  go_ret
  exact ⟨rfl, HB2.out⟩

def lenOf : Value → Nat
  | .string s => s.size
  | _ => 0
/-- a text with bytes 0 behind it -/
def tail0 (p : ByteArray) (k : Nat) : ByteArray := p ++ ⟨(List.replicate k 0).toArray⟩
theorem tail0_zero (p : ByteArray) : tail0 p 0 = p := by
  apply ByteArray.ext
  simp [tail0, ByteArray.data_append]
theorem tail0_size (p : ByteArray) (k : Nat) : (tail0 p k).size = p.size + k := by
  unfold tail0
  rw [ByteArray.size_append]
  show _ + (List.replicate k (0 : UInt8)).length = _
  simp
theorem tail0_succ (p : ByteArray) (k : Nat) : tail0 p (k + 1) = tail0 p k ++ ⟨#[0]⟩ := by
  apply ByteArray.ext
  apply Array.toList_inj.mp
  simp [tail0, ByteArray.data_append, List.replicate_succ']
theorem one_at (W : World) (g : Nat) (b : UInt8) (h : W.cell? ⟨g, 0, none⟩ = some (.int .u8 (b.toNat : Int))) : (convert 100 9 (.slice (some ⟨g, 0, none⟩) 1 1)).run Try.prog W = .ok (.string ⟨#[b]⟩) W := by
  refine run_convert_bytes_back _ _ _ 5 ⟨g, 0, none⟩ 1 [b] Try.underlying100 Try.underlying5 Try.underlying9 fun j hj => ?_
  have : j = 0 := by simpa using hj
  subst this
  rw [Addr.add_lit]
  simpa using h
theorem one_behind (w : World) (n : UInt8) (w1 : World) (h : Below (w.alloc (.cells #[.int .u8 (n.toNat : Int)] 5)).drew.heap.size (w.alloc (.cells #[.int .u8 (n.toNat : Int)] 5)).drew w1) :
    (convert 100 9 (.slice (some ⟨w.heap.size, 0, none⟩) 1 1)).run Try.prog w1 = .ok (.string ⟨#[n]⟩) w1 :=
  one_at w1 w.heap.size n (by rw [h.cell (by show w.heap.size < (w.alloc _).heap.size; simp)]; exact boxNew rfl)
theorem below_behind {w w1 : World} {o : Obj} (h : Below (w.alloc o).drew.heap.size (w.alloc o).drew w1) : Below w.heap.size w w1 :=
  (((Below.refl _ _).alloc (Nat.le_refl _) o).drew).trans (h.mono (by show w.heap.size ≤ (w.alloc o).heap.size; simp))
set_option maxRecDepth 100000 in
set_option maxHeartbeats 2000000 in
theorem refFrame_any (a b : Nat) (t : ByteArray) (w : World) (ha : a < 4294967296) (hb : b < 4294967296) (ht : t.size ≤ 47) :
    Calls Try.prog 55 #[.int .u32 a, .int .u32 b, .string t] w fun e w' => e = .returned (.string ⟨(frameOf a b t.data.toList).toArray⟩) ∧ Below w.heap.size w w' := by
  have HR : Hid (∀ wx : World, Calls Try.prog 70 #[.int .u32 a, .int .u32 b] wx fun e w' => e = .returned (.string ⟨(stampOf a b).toArray⟩) ∧ Below wx.heap.size wx w') := Lib.hid fun wx => refStamp_any a b wx ha hb
  have zs : (⟨(stampOf a b).toArray⟩ : ByteArray).size = 8 := by show (stampOf a b).length = 8; rw [stampOf_len]
  have hw : IntKind.u8.wrap (t.size : Int) = ((UInt8.ofNat t.size).toNat : Int) := by
    simp only [IntKind.wrap, IntKind.bits, IntKind.signed, UInt8.toNat_ofNat']
    simp
  have hE : ∀ k, 9 + t.size + k = 56 → (⟨(frameOf a b t.data.toList).toArray⟩ : ByteArray) = tail0 (⟨(stampOf a b).toArray⟩ ++ ⟨#[UInt8.ofNat t.size]⟩ ++ t) k ++ ⟨(stampOf a b).toArray⟩ := fun k hk => by
    have hT : t.data.toList.length = t.size := by simp
    have hk2 : 47 - t.size = k := by omega
    apply ByteArray.ext
    apply Array.toList_inj.mp
    simp [tail0, frameOf, ByteArray.data_append, enc, hT, hk2]
  generalize (⟨(frameOf a b t.data.toList).toArray⟩ : ByteArray) = F at *
  generalize UInt8.ofNat t.size = n at *
  generalize (⟨(stampOf a b).toArray⟩ : ByteArray) = S at *
  have zn : (⟨#[n]⟩ : ByteArray).size = 1 := rfl
  have hone := one_at ((w.alloc (.cells #[.int .u8 (n.toNat : Int)] 5)).drew) w.heap.size n (boxNew rfl)
  generalize hN : (⟨#[n]⟩ : ByteArray) = N at *
  have hc1 : ∀ wx : World, (Op.stringOp .add S N).run Try.prog wx = .ok (.string (S ++ N)) wx := fun wx => run_string_add_sum wx S N (by omega)
  have hc2 : ∀ wx : World, (Op.stringOp .add (S ++ N) t).run Try.prog wx = .ok (.string (S ++ N ++ t)) wx := fun wx => run_string_add_sum wx (S ++ N) t (by rw [ByteArray.size_append]; omega)
  have HD : Hid (Below w.heap.size w w.drew) := Lib.hid (Below.refl _ _).drew
  go_enter Try.func55, Try.ntmps55
  go_wp2_with fail
  go_cut [7] (fun s7 wx => s7 = .string (S ++ N ++ t) ∧ Below w.heap.size w wx)
  case first =>
    go_region_with (first
        | (go_at_call 70; (with_reducible refine (HR.out w.drew).mono ?_); rintro e w1 ⟨rfl, hb1⟩; (have hone1 := one_byte w1 n); (rw [hN] at hone1); (have HB1 : Hid (Below w.heap.size w w1) := Lib.hid (HD.out.trans hb1)); clear hb1)
        | (go_at_call 70; (with_reducible refine (HR.out (w.alloc (.cells #[.int .u8 (n.toNat : Int)] 5)).drew).mono ?_); rintro e w1 ⟨rfl, hb1⟩; (have hone1 := one_behind w n w1 hb1); (rw [hN] at hone1); (have HB1 := Lib.hid (below_behind hb1)); clear hb1))
    all_goals
      clear hone
      go_wp2_with fail
      go_meet
      first | exact ⟨rfl, HB1.out⟩ | exact ⟨rfl, HB1.out.alloc HB1.out.size _⟩
  case rest =>
    obtain ⟨rfl, hBc⟩ := hcut
    clear hone hc1 hc2
    go_wp2_with fail
    go_loopw [7] (fun s7 wx => ∃ k : Nat, 9 + t.size + k ≤ 56 ∧ s7 = .string (tail0 (S ++ N ++ t) k) ∧ Below w.heap.size w wx) (fun s7 _ => 56 - lenOf s7)
    case atStart => exact ⟨0, by omega, by rw [tail0_zero], hBc⟩
    case round =>
      obtain ⟨k, hk, rfl, hB⟩ := hrel
      have HB := Lib.hid hB
      have HT := Lib.hid (tail0_succ (S ++ N ++ t) k)
      have hz : (tail0 (S ++ N ++ t) k).size = 9 + t.size + k := by rw [tail0_size, ByteArray.size_append, ByteArray.size_append]; omega
      have HE := Lib.hid hE
      clear hB hBc hE hN
      generalize hP : tail0 (S ++ N ++ t) k = P at *
      have HP := Lib.hid hP
      clear hP
      have HZ := Lib.hid hz
      by_cases hlt : 9 + t.size + k < 56
      · have hi : (P.size : Int) < 56 := by omega
        have hc : ∀ wx : World, (Op.stringOp .add P ⟨#[0]⟩).run Try.prog wx = .ok (.string (P ++ ⟨#[0]⟩)) wx := fun wx => run_string_add_sum wx P _ (by show P.size + 1 ≤ _; omega)
        clear hz
        go_wp2_with fail
        go_roundw
        case rel => exact ⟨k + 1, by omega, by rw [HT.out], HB.out⟩
        case measure =>
          show 56 - (P ++ (⟨#[0]⟩ : ByteArray)).size < 56 - P.size
          rw [ByteArray.size_append]
          show 56 - (P.size + 1) < _
          have := HZ.out
          omega
      · have hi : ¬ (P.size : Int) < 56 := by omega
        have hc : ∀ wx : World, (Op.stringOp .add P S).run Try.prog wx = .ok (.string (P ++ S)) wx := fun wx => run_string_add_sum wx P _ (by omega)
        clear hz
        go_wp2_with fail

        refine (HR.out _).mono ?_
        rintro e w2 ⟨rfl, hb2⟩
        have HB2 := Lib.hid (HB.out.trans (hb2.mono HB.out.size))
        clear hb2
        go_wp2_with fail
        go_ret
        refine ⟨?_, HB2.out⟩
        rw [HE.out k (by omega), HP.out]
        rfl
theorem textIn_eq (s : ByteArray) (hn : bears s ≤ 47) : s.extract 9 (9 + bears s) = textIn s := by
  unfold textIn
  generalize bears s = n at *
  apply ByteArray.ext
  simp only [ByteArray.data_extract]
  rw [Array.extract_extract]
  have : min (9 + n) 64 = 9 + n := by omega
  simp [this]
end Go.Proofs.Ytjggofbaipppbaa
