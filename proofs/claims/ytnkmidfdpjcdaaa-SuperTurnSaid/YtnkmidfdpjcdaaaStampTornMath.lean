/-
  TORN: what has first bytes of a frame, and other last bytes behind them, opens just if it is the frame: mathematics alone.
-/
import Derived.Test.YtnkmidfdpjcdaaaStampMath
namespace Go.Proofs.Ytnkmidfdpjcdaaa
open Go.RowKit

theorem textIn_list (s : ByteArray) (h : bears s ≤ 47) : (textIn s).data.toList = ((s.data.toList.take 56).drop 9).take (bears s) := by
  unfold textIn
  simp only [ByteArray.data_extract, Array.toList_extract, List.extract_eq_take_drop, List.drop_zero, List.drop_take, List.take_take]
  congr 1
  omega
theorem bears_take (s : ByteArray) : bears s = ((s.data.toList.take 56).getD 8 0).toNat := by
  unfold bears
  rw [List.getD_eq_getElem?_getD, List.getD_eq_getElem?_getD, List.getElem?_take_of_lt (by decide)]
theorem agree56 (s u : ByteArray) (h : s.data.toList.take 56 = u.data.toList.take 56) : bears s = bears u ∧ (bears s ≤ 47 → textIn s = textIn u) := by
  have hb : bears s = bears u := by rw [bears_take, bears_take, h]
  refine ⟨hb, fun hn => ?_⟩
  apply ByteArray.ext
  apply Array.toList_inj.mp
  rw [textIn_list s hn, textIn_list u (by omega), h, hb]
theorem frame_end (a b : Nat) (T : List UInt8) (h : T.length ≤ 47) : (frameOf a b T).drop 56 = stampOf a b := by
  unfold frameOf
  rw [show stampOf a b ++ (enc T.length 1 ++ (T ++ (List.replicate (47 - T.length) 0 ++ stampOf a b))) = (stampOf a b ++ (enc T.length 1 ++ (T ++ List.replicate (47 - T.length) 0))) ++ stampOf a b by simp [List.append_assoc]]
  refine List.drop_left' ?_
  simp [stampOf_len, enc_len]
  omega
/-- a frame's first bytes, and behind them another sector's -/
def tornOf (F O : ByteArray) (m : Nat) : ByteArray := F.extract 0 m ++ O.extract m 64
theorem torn_list (F O : ByteArray) (m : Nat) (hO : O.size = 64) : (tornOf F O m).data.toList = F.data.toList.take m ++ O.data.toList.drop m := by
  have hl : O.data.toList.length = 64 := by simpa using hO
  unfold tornOf
  simp only [ByteArray.data_append, Array.toList_append, ByteArray.data_extract, Array.toList_extract, List.extract_eq_take_drop, List.drop_zero]
  congr 1
  refine List.take_of_length_le ?_
  rw [List.length_drop]
  omega
theorem torn_is (a b : Nat) (t O : ByteArray) (m : Nat) (ht : t.size ≤ 47) (hO : O.size = 64) (hm : m ≤ 64) (he : ¬ O.extract 56 64 = (mkFrame a b t).extract 56 64) :
    isFrame a b (tornOf (mkFrame a b t) O m) ↔ tornOf (mkFrame a b t) O m = mkFrame a b t := by
  have hl : O.data.toList.length = 64 := by simpa using hO
  have hF : (mkFrame a b t).data.toList.length = 64 := by rw [mkFrame_list]; exact frameOf_len a b _ (by simpa using ht)
  constructor
  · intro h
    have hlist := torn_list (mkFrame a b t) O m hO
    rcases Nat.lt_or_ge 56 m with h56 | h56
    · have h1 : (tornOf (mkFrame a b t) O m).data.toList.take 56 = (mkFrame a b t).data.toList.take 56 := by
        rw [hlist, List.take_append_of_le_length (by rw [List.length_take]; omega), List.take_take]
        congr 1
        omega
      have h2 := (agree56 _ _ h1).2 h.2.1
      rw [textIn_frame a b t ht] at h2
      have h3 := h.2.2
      rw [h2] at h3
      exact h3
    · exfalso
      apply he
      have h3 : (tornOf (mkFrame a b t) O m).data.toList.drop 56 = stampOf a b := by
        have h4 := congrArg (fun s : ByteArray => s.data.toList) h.2.2
        have h5 : (tornOf (mkFrame a b t) O m).data.toList = frameOf a b (textIn (tornOf (mkFrame a b t) O m)).data.toList := by simpa using h4
        rw [h5]
        exact frame_end a b _ (by rw [textIn_list _ h.2.1, List.length_take]; have := h.2.1; omega)
      have h4 : (tornOf (mkFrame a b t) O m).data.toList.drop 56 = O.data.toList.drop 56 := by
        rw [hlist, List.drop_append, List.length_take, List.drop_drop, List.drop_eq_nil_of_le (by rw [List.length_take]; omega), List.nil_append]
        congr 1
        omega
      have h5 : (mkFrame a b t).data.toList.drop 56 = stampOf a b := by rw [mkFrame_list]; exact frame_end a b _ (by simpa using ht)
      apply ByteArray.ext
      apply Array.toList_inj.mp
      simp only [ByteArray.data_extract, Array.toList_extract, List.extract_eq_take_drop]
      rw [← h4, h3, h5]
  · intro h
    rw [h]
    exact isFrame_own a b t ht
/-- what is opened of it -/
theorem torn_open (a b : Nat) (t O : ByteArray) (m : Nat) (ha : a < 4294967296) (hb : b < 4294967296) (ht : t.size ≤ 47) (hO : O.size = 64) (hm : m ≤ 64) (he : ¬ O.extract 56 64 = (mkFrame a b t).extract 56 64) (w : World) :
    Calls Try.prog 78 #[.agg #[.int .u32 a, .int .u32 b], .string (tornOf (mkFrame a b t) O m)] w fun e w' =>
      ((tornOf (mkFrame a b t) O m = mkFrame a b t → e = .returned (.tuple #[.string t, .bool true])) ∧ (¬ tornOf (mkFrame a b t) O m = mkFrame a b t → e = .returned (.tuple #[.string ⟨#[]⟩, .bool false]))) ∧ Below w.heap.size w w' := by
  have hi := torn_is a b t O m ht hO hm he
  refine (open_any a b _ w ha hb).mono ?_
  rintro e w' ⟨h1, h2, h3⟩
  refine ⟨⟨fun h => ?_, fun h => h2 fun k => h (hi.1 k)⟩, h3⟩
  have h4 := h1 (hi.2 h)
  rw [h, textIn_frame a b t ht] at h4
  exact h4
end Go.Proofs.Ytnkmidfdpjcdaaa
