/-
  What a sealed text says of itself; one byte of it another: it doesn't bear its sum.
-/
import Derived.Test.YtbohpffigmllkaaGreatDoorNodeOpen
namespace Go.Proofs.YtbohpffigmllkaaGreatDoor
open Go.RowKit

theorem ext_list (s : ByteArray) (a b : Nat) : (s.extract a b).data.toList = (s.data.toList.drop a).take (b - a) := by
  rw [ByteArray.data_extract, Array.toList_extract, List.extract_eq_take_drop]
theorem ext_end (s : ByteArray) (a : Nat) : (s.extract a s.size).data.toList = s.data.toList.drop a := by
  rw [ext_list, List.take_of_length_le]
  rw [List.length_drop]
  show s.data.toList.length - a ≤ s.size - a
  simp
theorem ahead_list (s : ByteArray) : (ahead s).data.toList = s.data.toList.take 60 := by
  unfold ahead
  rw [ext_list, List.drop_zero]
/-- a sealed text -/
def sealS (l : List UInt8) : ByteArray := ⟨(sealed l).toArray⟩
theorem sealS_list (l : List UInt8) : (sealS l).data.toList = sealed l := rfl
theorem sealed_len (l : List UInt8) (h : l.length ≤ 60) : (sealed l).length = 64 := by
  unfold sealed
  rw [List.length_append, padTo_len l h, enc_len]
theorem sealS_size (l : List UInt8) (h : l.length ≤ 60) : (sealS l).size = 64 := sealed_len l h
theorem sealS_ahead (l : List UInt8) (h : l.length ≤ 60) : (ahead (sealS l)).data.toList = padTo l := by
  rw [ahead_list, sealS_list]
  unfold sealed
  rw [List.take_append_of_le_length (by rw [padTo_len l h]; exact Nat.le_refl _), List.take_of_length_le (by rw [padTo_len l h]; exact Nat.le_refl _)]
theorem sealS_says (l : List UInt8) (h : l.length ≤ 60) : saysSum (sealS l) = C.Crc.sum (padTo l) := by
  unfold saysSum
  rw [ext_end, sealS_list]
  unfold sealed
  rw [show (60 : Nat) = (padTo l).length from (padTo_len l h).symm, List.drop_left, List.take_of_length_le (by rw [enc_len]; exact Nat.le_refl _), num_enc]
  exact Nat.mod_eq_of_lt (crc_lt _)
theorem sealS_ok (l : List UInt8) (h : l.length ≤ 60) : saysSum (sealS l) = C.Crc.sum (ahead (sealS l)).data.toList := by
  rw [sealS_says l h, sealS_ahead l h]
theorem num_inj {l k : List UInt8} (h : l.length = k.length) (e : num l = num k) : l = k := by
  have := num_eq l k h
  rw [e, decide_eq_true rfl] at this
  exact eq_of_beq this
/-- a text of 64 bytes that bears its sum, one byte of it another: it doesn't bear it -/
theorem turned_sum (s t : ByteArray) (p : Nat) (hp : p < 64) (hs : s.size = 64) (ht : t.size = 64) (h : saysSum s = C.Crc.sum (ahead s).data.toList)
    (hne : s.data.toList[p]? ≠ t.data.toList[p]?) (ho : ∀ j, j ≠ p → s.data.toList[j]? = t.data.toList[j]?) : saysSum t ≠ C.Crc.sum (ahead t).data.toList := by
  intro e
  have hsl : s.data.toList.length = 64 := by rw [← hs]; simp
  have htl : t.data.toList.length = 64 := by rw [← ht]; simp
  rw [ahead_list] at h e
  unfold saysSum at h e
  rw [ext_end] at h e
  generalize s.data.toList = S at *
  generalize t.data.toList = T at *
  by_cases hc : p < 60
  · have e1 : S.drop 60 = T.drop 60 := List.ext_getElem? fun j => by
      rw [List.getElem?_drop, List.getElem?_drop, ho (60 + j) (by omega)]
    have e2 : C.Crc.sum (S.take 60) = C.Crc.sum (T.take 60) := by rw [← h, ← e, e1]
    have cut : ∀ L : List UInt8, L.length = 64 → L.take 60 = L.take p ++ (L.drop p).take 1 ++ (L.drop (p + 1)).take (59 - p) := fun L hL => by
      rw [← List.take_append_drop p (L.take 60), List.take_take, List.append_assoc, Nat.min_eq_left (by omega), List.drop_take]
      congr 1
      rw [show 60 - p = 1 + (59 - p) by omega, List.take_add, List.drop_drop]
    rw [cut S hsl, cut T htl] at e2
    have f1 : S.take p = T.take p := List.ext_getElem? fun j => by
      by_cases hj : j < p
      · rw [List.getElem?_take_of_lt hj, List.getElem?_take_of_lt hj, ho j (by omega)]
      · rw [List.getElem?_take_eq_none (by omega), List.getElem?_take_eq_none (by omega)]
    have f3 : (S.drop (p + 1)) = (T.drop (p + 1)) := List.ext_getElem? fun j => by
      rw [List.getElem?_drop, List.getElem?_drop, ho (p + 1 + j) (by omega)]
    rw [f1, f3] at e2
    have g := C.Crc.sum_spoilt (T.take p) ((S.drop p).take 1) ((T.drop p).take 1) ((T.drop (p + 1)).take (59 - p)) (by rw [List.length_take, List.length_take, List.length_drop, List.length_drop, hsl, htl]) (by rw [List.length_take]; omega) e2
    have g0 := congrArg (fun l => l[0]?) g
    simp only [List.getElem?_take_of_lt (show 0 < 1 by omega), List.getElem?_drop, Nat.add_zero] at g0
    exact hne g0
  · have e1 : S.take 60 = T.take 60 := List.ext_getElem? fun j => by
      by_cases hj : j < 60
      · rw [List.getElem?_take_of_lt hj, List.getElem?_take_of_lt hj, ho j (by omega)]
      · rw [List.getElem?_take_eq_none (by omega), List.getElem?_take_eq_none (by omega)]
    rw [e1, ← e] at h
    have g := num_inj (by rw [List.length_take, List.length_take, List.length_drop, List.length_drop, hsl, htl]) h
    have g0 := congrArg (fun l => l[p - 60]?) g
    simp only [List.getElem?_take_of_lt (show p - 60 < 4 by omega), List.getElem?_drop, show 60 + (p - 60) = p by omega] at g0
    exact hne g0
/-- are these noughts? -/
def zeroB (l : List UInt8) : Bool := l.all (· == 0)
theorem zeroB_iff (r : ByteArray) : zeroB r.data.toList = true ↔ ∀ k (h : k < r.size), r[k] = 0 := by
  unfold zeroB
  rw [List.all_eq_true]
  constructor
  · intro h k hk
    have := h r[k] (Array.mem_toList_iff.2 (Array.getElem_mem (xs := r.data) hk))
    exact eq_of_beq this
  · intro h x hx
    obtain ⟨i, hi, rfl⟩ := Array.mem_iff_getElem.1 (Array.mem_toList_iff.1 hx)
    exact beq_iff_eq.2 (h i hi)
end Go.Proofs.YtbohpffigmllkaaGreatDoor
