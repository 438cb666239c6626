/-
  What a frame bears, and by which stamps it opens: mathematics alone.
-/
import Derived.Test.YtnkmidfdpjcdaaaStampRef
namespace Go.Proofs.Ytnkmidfdpjcdaaa
open Go.RowKit

def mkFrame (a b : Nat) (t : ByteArray) : ByteArray := ⟨(frameOf a b t.data.toList).toArray⟩
theorem mkFrame_list (a b : Nat) (t : ByteArray) : (mkFrame a b t).data.toList = frameOf a b t.data.toList := rfl
theorem mkFrame_size (a b : Nat) (t : ByteArray) (h : t.size ≤ 47) : (mkFrame a b t).size = 64 := frameOf_len a b _ (by simpa using h)
theorem bears_frame (a b : Nat) (t : ByteArray) (h : t.size ≤ 47) : bears (mkFrame a b t) = t.size := by
  have hl : t.data.toList.length = t.size := by simp
  unfold bears
  rw [mkFrame_list, List.getD_eq_getElem?_getD]
  unfold frameOf
  rw [List.getElem?_append_right (by rw [stampOf_len]; decide), stampOf_len, hl]
  rw [List.getElem?_append_left (by rw [enc_len]; decide)]
  simp [enc]
  omega
theorem textIn_frame (a b : Nat) (t : ByteArray) (h : t.size ≤ 47) : textIn (mkFrame a b t) = t := by
  have hl : t.data.toList.length = t.size := by simp
  unfold textIn
  rw [bears_frame a b t h]
  apply ByteArray.ext
  apply Array.toList_inj.mp
  simp only [ByteArray.data_extract, Array.toList_extract, List.extract_eq_take_drop]
  rw [mkFrame_list, List.drop_zero, List.take_take]
  unfold frameOf
  have e9 : List.drop 9 (stampOf a b ++ (enc t.data.toList.length 1 ++ (t.data.toList ++ (List.replicate (47 - t.data.toList.length) 0 ++ stampOf a b)))) = t.data.toList ++ (List.replicate (47 - t.data.toList.length) 0 ++ stampOf a b) := by
    rw [← List.append_assoc]
    exact List.drop_left' (by rw [List.length_append, stampOf_len, enc_len])
  rw [e9]
  exact List.take_left' (by rw [hl]; omega)
theorem isFrame_own (a b : Nat) (t : ByteArray) (h : t.size ≤ 47) : isFrame a b (mkFrame a b t) :=
  ⟨mkFrame_size a b t h, by rw [bears_frame a b t h]; exact h, by rw [textIn_frame a b t h]; rfl⟩
theorem enc4_inj (a b : Nat) (ha : a < 4294967296) (hb : b < 4294967296) (h : enc a 4 = enc b 4) : a = b := by
  have h2 := congrArg num h
  rw [num_enc, num_enc] at h2
  omega
theorem stampOf_inj (a b c d : Nat) (ha : a < 4294967296) (hb : b < 4294967296) (hc : c < 4294967296) (hd : d < 4294967296) (h : stampOf a b = stampOf c d) : a = c ∧ b = d := by
  obtain ⟨h1, h2⟩ := List.append_inj h (by rw [enc_len, enc_len])
  exact ⟨enc4_inj a c ha hc h1, enc4_inj b d hb hd h2⟩
theorem isFrame_other (a b c d : Nat) (t : ByteArray) (ht : t.size ≤ 47) (ha : a < 4294967296) (hb : b < 4294967296) (hc : c < 4294967296) (hd : d < 4294967296) : isFrame c d (mkFrame a b t) ↔ (a = c ∧ b = d) := by
  constructor
  · intro h
    have h3 := h.2.2
    rw [textIn_frame a b t ht] at h3
    have h4 : frameOf a b t.data.toList = frameOf c d t.data.toList := by
      have := congrArg (fun s : ByteArray => s.data.toList) h3
      simpa [mkFrame] using this
    have h5 := (List.append_inj h4 (by rw [stampOf_len, stampOf_len])).1
    exact stampOf_inj a b c d ha hb hc hd h5
  · rintro ⟨rfl, rfl⟩
    exact isFrame_own a b t ht
theorem take4_frame (a b : Nat) (t : ByteArray) (ha : a < 4294967296) (hb : b < 4294967296) : num ((mkFrame a b t).data.toList.take 4) = a ∧ num (((mkFrame a b t).data.toList.drop 4).take 4) = b := by
  rw [mkFrame_list]
  unfold frameOf stampOf
  rw [List.append_assoc]
  have e1 : ∀ r : List UInt8, List.take 4 (enc a 4 ++ r) = enc a 4 := fun r => List.take_left' (enc_len a 4)
  have e2 : ∀ r : List UInt8, List.drop 4 (enc a 4 ++ r) = r := fun r => List.drop_left' (enc_len a 4)
  have e3 : ∀ r : List UInt8, List.take 4 (enc b 4 ++ r) = enc b 4 := fun r => List.take_left' (enc_len b 4)
  rw [e1, e2, e3, num_enc, num_enc]
  omega
end Go.Proofs.Ytnkmidfdpjcdaaa
