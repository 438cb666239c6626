/-
  extent: a head as a value, its text, and what a text says of one.
-/
import Derived.Test.YtbohpffigmllkaaGreatDoorSealBack
import Derived.Test.YtbohpffigmllkaaGreatDoorShas
namespace Go.Proofs.YtbohpffigmllkaaGreatDoor
open Go.RowKit

/-- where an extent's sectors lie -/
def atL (a : Nat → Nat) : List Value := (List.range 4).map fun j => Value.int .i64 (a j : Nat)
/-- their sums -/
def smL (m : Nat → Nat) : List Value := (List.range 4).map fun j => Value.int .u32 (m j : Nat)
theorem atL_at (a : Nat → Nat) (j : Nat) (h : j < 4) : (atL a)[j]? = some (.int .i64 (a j : Nat)) := by
  unfold atL
  rw [List.getElem?_map, List.getElem?_range h]
  rfl
theorem smL_at (a : Nat → Nat) (j : Nat) (h : j < 4) : (smL a)[j]? = some (.int .u32 (a j : Nat)) := by
  unfold smL
  rw [List.getElem?_map, List.getElem?_range h]
  rfl
theorem atL_len (a : Nat → Nat) : (atL a).length = 4 := by simp [atL]
theorem smL_len (a : Nat → Nat) : (smL a).length = 4 := by simp [smL]
/-- a head as a value -/
def headL (a m f : Nat → Nat) : List Value := atL a ++ (smL m ++ arr f)
theorem headL_len (a m f : Nat → Nat) : (headL a m f).length = 40 := by
  unfold headL
  rw [List.length_append, List.length_append, atL_len, smL_len, arr_len]
theorem headL_one (a m f : Nat → Nat) : (headL a m f).toArray.all (·.oneCell') = true :=
  all_oneCell_toArray fun v hv => by
    unfold headL atL smL arr at hv
    simp only [List.mem_append, List.mem_map] at hv
    rcases hv with ⟨_, _, rfl⟩ | ⟨_, _, rfl⟩ | ⟨_, _, rfl⟩ <;> rfl
/-- its cells, one by one -/
def headAt (a m f : Nat → Nat) (j : Nat) : Value := if j < 4 then .int .i64 (a j : Nat) else if j < 8 then .int .u32 (m (j - 4) : Nat) else .int .u8 (f (j - 8) : Nat)
theorem headL_at (a m f : Nat → Nat) (j : Nat) (h : j < 40) : (headL a m f)[j]? = some (headAt a m f j) := by
  unfold headL headAt
  by_cases h1 : j < 4
  · rw [if_pos h1, List.getElem?_append_left (by rw [atL_len]; exact h1), atL_at a j h1]
  · rw [if_neg h1, List.getElem?_append_right (by rw [atL_len]; omega), atL_len]
    by_cases h2 : j < 8
    · rw [if_pos h2, List.getElem?_append_left (by rw [smL_len]; omega), smL_at m _ (by omega)]
    · rw [if_neg h2, List.getElem?_append_right (by rw [smL_len]; omega), smL_len, arr_at f _ (by omega), show j - 4 - 4 = j - 8 by omega]
theorem cellsAt_head (a m f : Nat → Nat) (j : Nat) (h : j < 40) : cellsAt (headL a m f) j = headAt a m f j := by
  have h1 := cellsAt_get (headL a m f) j (by rw [headL_len]; exact h)
  rw [headL_at a m f j h] at h1
  exact (Option.some.inj h1).symm
theorem headAt_congr {a m f b n g : Nat → Nat} (ha : ∀ j, j < 4 → a j = b j) (hm : ∀ j, j < 4 → m j = n j) (hf : ∀ j, j < 32 → f j = g j) (j : Nat) (h : j < 40) : headAt a m f j = headAt b n g j := by
  unfold headAt
  by_cases h1 : j < 4
  · rw [if_pos h1, if_pos h1, ha j h1]
  · rw [if_neg h1, if_neg h1]
    by_cases h2 : j < 8
    · rw [if_pos h2, if_pos h2, hm _ (by omega)]
    · rw [if_neg h2, if_neg h2, hf _ (by omega)]
theorem headL_congr {a m f b n g : Nat → Nat} (ha : ∀ j, j < 4 → a j = b j) (hm : ∀ j, j < 4 → m j = n j) (hf : ∀ j, j < 32 → f j = g j) : headL a m f = headL b n g := by
  refine List.ext_getElem? fun j => ?_
  by_cases hj : j < 40
  · rw [headL_at a m f j hj, headL_at b n g j hj, headAt_congr ha hm hf j hj]
  · rw [List.getElem?_eq_none (by rw [headL_len]; omega), List.getElem?_eq_none (by rw [headL_len]; omega)]
/-- a block that holds a head -/
theorem Cells.head {b : Nat} {a m f : Nat → Nat} {w : World} (h : Cells b 40 (headAt a m f) w) : w.rangeAt b 0 (headL a m f) :=
  h.range 0 _ fun j v hv => by
    have hj := (List.getElem?_eq_some_iff.1 hv).1
    rw [headL_len] at hj
    rw [headL_at a m f j hj] at hv
    exact ⟨by omega, by rw [Nat.zero_add]; exact Option.some.inj hv⟩
theorem head_new (w : World) (a m f : Nat → Nat) (t : TypeId) : Cells w.heap.size 40 (headAt a m f) (w.alloc (.cells (headL a m f).toArray t)) :=
  Cells.new w 40 _ t _ fun j hj => by rw [List.getElem?_toArray]; exact headL_at a m f j hj
theorem Cells.headFill {b : Nat} {g : Nat → Value} {a m f : Nat → Nat} {w : World} (h : Cells b 40 g w) : Cells b 40 (headAt a m f) (w.setCells b 0 (headL a m f)) :=
  h.row _ _ (headL_len a m f) fun j hj => headL_at a m f j hj
theorem range_at {W : World} {b : Nat} {a m f : Nat → Nat} (h : W.rangeAt b 0 (headL a m f)) : W.rangeAt b 0 (atL a) := fun j v hv => by
  have hj : j < 4 := by
    have := (List.getElem?_eq_some_iff.1 hv).1
    rwa [atL_len] at this
  refine h j v ?_
  unfold headL
  rw [List.getElem?_append_left (by rw [atL_len]; exact hj)]
  exact hv
theorem range_sm {W : World} {b : Nat} {a m f : Nat → Nat} (h : W.rangeAt b 0 (headL a m f)) : W.rangeAt b 4 (smL m) := fun j v hv => by
  have hj : j < 4 := by
    have := (List.getElem?_eq_some_iff.1 hv).1
    rwa [smL_len] at this
  have h2 := h (4 + j) v (by
    unfold headL
    rw [List.getElem?_append_right (by rw [atL_len]; omega), atL_len, Nat.add_sub_cancel_left, List.getElem?_append_left (by rw [smL_len]; exact hj)]
    exact hv)
  rwa [Nat.zero_add] at h2
theorem range_sum {W : World} {b : Nat} {a m f : Nat → Nat} (h : W.rangeAt b 0 (headL a m f)) : W.rangeAt b 8 (arr f) := fun j v hv => by
  have h2 := h (8 + j) v (by
    unfold headL
    rw [List.getElem?_append_right (by rw [atL_len]; omega), atL_len, List.getElem?_append_right (by rw [smL_len]; omega), smL_len, show 8 + j - 4 - 4 = j by omega]
    exact hv)
  rwa [Nat.zero_add] at h2
/-- one of a row is another one -/
def updN (a : Nat → Nat) (k v : Nat) (j : Nat) : Nat := if j = k then v else a j
theorem Cells.setAt {b : Nat} {a m f : Nat → Nat} {w : World} (h : Cells b 40 (headAt a m f) w) (k v : Nat) (hk : k < 4) : Cells b 40 (headAt (updN a k v) m f) (w.setCell ⟨b, k, none⟩ (.int .i64 (v : Nat))) :=
  h.set k _ (by omega) (by unfold headAt updN; rw [if_pos hk, if_pos rfl]) fun j _ hne => by
    unfold headAt updN
    rw [if_neg hne]
theorem Cells.setSm {b : Nat} {a m f : Nat → Nat} {w : World} (h : Cells b 40 (headAt a m f) w) (k v : Nat) (hk : k < 4) : Cells b 40 (headAt a (updN m k v) f) (w.setCell ⟨b, 4 + k, none⟩ (.int .u32 (v : Nat))) :=
  h.set (4 + k) _ (by omega) (by unfold headAt updN; rw [if_neg (by omega), if_pos (by omega), if_pos (by omega)]) fun j _ hne => by
    unfold headAt updN
    by_cases h1 : j < 4
    · rw [if_pos h1, if_pos h1]
    · rw [if_neg h1, if_neg h1]
      by_cases h2 : j < 8
      · rw [if_pos h2, if_pos h2, if_neg (by omega)]
      · rw [if_neg h2, if_neg h2]
theorem Cells.setSum {b : Nat} {a m f g : Nat → Nat} {w : World} (h : Cells b 40 (headAt a m f) w) (l : List Value) (hl : l.length = 32) (hg : ∀ j, j < 32 → l[j]? = some (.int .u8 (g j : Nat))) : Cells b 40 (headAt a m g) (w.setCells b 8 l) := by
  refine (h.splice 8 l (by omega)).congr fun j hj => ?_
  unfold headAt
  by_cases h1 : j < 4
  · rw [if_neg (by omega), if_pos h1, if_pos h1]
  · rw [if_neg h1, if_neg h1]
    by_cases h2 : j < 8
    · rw [if_neg (by omega), if_pos h2, if_pos h2]
    · rw [if_pos (by omega), if_neg h2, List.getD_eq_getElem?_getD, hg _ (by omega)]
      rfl
/-- the first sectors' numbers, two bytes each -/
def atsT (a : Nat → Nat) : Nat → List UInt8
  | 0 => []
  | k + 1 => atsT a k ++ enc (a k) 2
/-- the first sums, four bytes each -/
def smsT (m : Nat → Nat) : Nat → List UInt8
  | 0 => []
  | k + 1 => smsT m k ++ enc (m k) 4
theorem atsT_len (a : Nat → Nat) : ∀ k, (atsT a k).length = 2 * k
  | 0 => rfl
  | k + 1 => by
    unfold atsT
    rw [List.length_append, atsT_len a k, enc_len]
    omega
theorem smsT_len (a : Nat → Nat) : ∀ k, (smsT a k).length = 4 * k
  | 0 => rfl
  | k + 1 => by
    unfold smsT
    rw [List.length_append, smsT_len a k, enc_len]
    omega
theorem txt_len (f : Nat → Nat) : (txt f).length = 32 := by simp [txt]
/-- what a head's bytes are made of -/
def headT (a m f : Nat → Nat) : List UInt8 := [69] ++ atsT a 4 ++ smsT m 4 ++ txt f
theorem headT_len (a m f : Nat → Nat) : (headT a m f).length = 57 := by
  unfold headT
  simp [atsT_len, smsT_len, txt_len]
theorem headT_60 (a m f : Nat → Nat) : (headT a m f).length ≤ 60 := by rw [headT_len]; decide
/-- the sectors, the sums and the bytes that a text says -/
def saysAt (t : ByteArray) (j : Nat) : Nat := num ((t.extract (1 + 2 * j) t.size).data.toList.take 2)
def saysSm (t : ByteArray) (j : Nat) : Nat := num ((t.extract (9 + 4 * j) t.size).data.toList.take 4)
def textH (t : ByteArray) : ByteArray := (t.extract 25 t.size).extract 0 32
def byteH (t : ByteArray) (j : Nat) : Nat := ((textH t).data.toList.getD j 0).toNat
theorem saysAt_lt (t : ByteArray) (j : Nat) : saysAt t j < 65536 := by
  have h := num_lt ((t.extract (1 + 2 * j) t.size).data.toList.take 2)
  have h2 : 256 ^ ((t.extract (1 + 2 * j) t.size).data.toList.take 2).length ≤ 256 ^ 2 := Nat.pow_le_pow_right (by decide) (by rw [List.length_take]; omega)
  unfold saysAt
  omega
theorem saysSm_lt (t : ByteArray) (j : Nat) : saysSm t j < 4294967296 := by
  have h := num_lt ((t.extract (9 + 4 * j) t.size).data.toList.take 4)
  have h2 : 256 ^ ((t.extract (9 + 4 * j) t.size).data.toList.take 4).length ≤ 256 ^ 4 := Nat.pow_le_pow_right (by decide) (by rw [List.length_take]; omega)
  unfold saysSm
  omega
theorem byteH_lt (t : ByteArray) (j : Nat) : byteH t j < 256 := by unfold byteH; exact UInt8.toNat_lt _
theorem textH_size (t : ByteArray) (h : t.size = 60) : (textH t).size = 32 := by
  unfold textH
  rw [ByteArray.size_extract, ByteArray.size_extract]
  omega
theorem atsT_at (a : Nat → Nat) (j : Nat) : ∀ n, j < n → ((atsT a n).drop (2 * j)).take 2 = enc (a j) 2
  | 0, h => absurd h (by omega)
  | n + 1, h => by
    unfold atsT
    by_cases e : j = n
    · subst e
      rw [show 2 * j = (atsT a j).length from (atsT_len a j).symm, List.drop_left, List.take_of_length_le (by rw [enc_len]; exact Nat.le_refl _)]
    · rw [List.drop_append_of_le_length (by rw [atsT_len]; omega), List.take_append_of_le_length (by rw [List.length_drop, atsT_len]; omega)]
      exact atsT_at a j n (by omega)
theorem smsT_at (a : Nat → Nat) (j : Nat) : ∀ n, j < n → ((smsT a n).drop (4 * j)).take 4 = enc (a j) 4
  | 0, h => absurd h (by omega)
  | n + 1, h => by
    unfold smsT
    by_cases e : j = n
    · subst e
      rw [show 4 * j = (smsT a j).length from (smsT_len a j).symm, List.drop_left, List.take_of_length_le (by rw [enc_len]; exact Nat.le_refl _)]
    · rw [List.drop_append_of_le_length (by rw [smsT_len]; omega), List.take_append_of_le_length (by rw [List.length_drop, smsT_len]; omega)]
      exact smsT_at a j n (by omega)
theorem headP (a m f : Nat → Nat) : padTo (headT a m f) = [69] ++ (atsT a 4 ++ (smsT m 4 ++ (txt f ++ [0, 0, 0]))) := by
  unfold padTo
  rw [headT_len]
  unfold headT
  simp only [List.append_assoc]
  rfl
theorem headP1 (a m f : Nat → Nat) : (padTo (headT a m f)).drop 1 = atsT a 4 ++ (smsT m 4 ++ (txt f ++ [0, 0, 0])) := by rw [headP]; rfl
theorem headP9 (a m f : Nat → Nat) : (padTo (headT a m f)).drop 9 = smsT m 4 ++ (txt f ++ [0, 0, 0]) := by
  have h := List.drop_left (l₁ := atsT a 4) (l₂ := smsT m 4 ++ (txt f ++ [0, 0, 0]))
  rw [atsT_len, ← headP1, List.drop_drop] at h
  exact h
theorem headP25 (a m f : Nat → Nat) : (padTo (headT a m f)).drop 25 = txt f ++ [0, 0, 0] := by
  have h := List.drop_left (l₁ := smsT m 4) (l₂ := txt f ++ [0, 0, 0])
  rw [smsT_len, ← headP9 a m f, List.drop_drop] at h
  exact h
theorem headP57 (a m f : Nat → Nat) : (padTo (headT a m f)).drop 57 = [0, 0, 0] := by
  have h := List.drop_left (l₁ := txt f) (l₂ := [0, 0, 0])
  rw [txt_len, ← headP25 a m f, List.drop_drop] at h
  exact h
theorem own_at (a m f : Nat → Nat) (ha : ∀ j, a j < 65536) (j : Nat) (hj : j < 4) : saysAt (ahead (sealS (headT a m f))) j = a j := by
  unfold saysAt
  rw [ext_end, sealS_ahead _ (headT_60 a m f), ← List.drop_drop, headP1, List.drop_append_of_le_length (by rw [atsT_len]; omega), List.take_append_of_le_length (by rw [List.length_drop, atsT_len]; omega), atsT_at a j 4 hj, num_enc]
  exact Nat.mod_eq_of_lt (ha j)
theorem own_sm (a m f : Nat → Nat) (hm : ∀ j, m j < 4294967296) (j : Nat) (hj : j < 4) : saysSm (ahead (sealS (headT a m f))) j = m j := by
  unfold saysSm
  rw [ext_end, sealS_ahead _ (headT_60 a m f), ← List.drop_drop, headP9, List.drop_append_of_le_length (by rw [smsT_len]; omega), List.take_append_of_le_length (by rw [List.length_drop, smsT_len]; omega), smsT_at m j 4 hj, num_enc]
  exact Nat.mod_eq_of_lt (hm j)
theorem own_byte (a m f : Nat → Nat) (hf : ∀ j, f j < 256) (j : Nat) (hj : j < 32) : byteH (ahead (sealS (headT a m f))) j = f j := by
  unfold byteH textH
  rw [ext_list, ext_end, sealS_ahead _ (headT_60 a m f), headP25, List.drop_zero, List.take_append_of_le_length (by rw [txt_len]; omega), List.take_of_length_le (by rw [txt_len]; omega)]
  unfold txt
  rw [List.getD_eq_getElem?_getD, List.getElem?_map, List.getElem?_range hj]
  show (UInt8.ofNat (f j)).toNat = f j
  rw [UInt8.toNat_ofNat']
  exact Nat.mod_eq_of_lt (hf j)
/-- a head's bytes say it -/
theorem own_head (a m f : Nat → Nat) (ha : ∀ j, a j < 65536) (hm : ∀ j, m j < 4294967296) (hf : ∀ j, f j < 256) :
    headL (saysAt (ahead (sealS (headT a m f)))) (saysSm (ahead (sealS (headT a m f)))) (byteH (ahead (sealS (headT a m f)))) = headL a m f :=
  headL_congr (fun j h => own_at a m f ha j h) (fun j h => own_sm a m f hm j h) (fun j h => own_byte a m f hf j h)
theorem own_mark (a m f : Nat → Nat) : (ahead (sealS (headT a m f))).extract 0 1 = ⟨#[69]⟩ := by
  refine ByteArray.ext (Array.toList_inj.mp ?_)
  rw [ext_list, sealS_ahead _ (headT_60 a m f), headP]
  rfl
theorem own_zero (a m f : Nat → Nat) : ∀ k (h : k < ((ahead (sealS (headT a m f))).extract 57 (ahead (sealS (headT a m f))).size).size), ((ahead (sealS (headT a m f))).extract 57 (ahead (sealS (headT a m f))).size)[k] = 0 := by
  refine (zeroB_iff _).1 ?_
  rw [ext_end, sealS_ahead _ (headT_60 a m f), headP57]
  decide
end Go.Proofs.YtbohpffigmllkaaGreatDoor
