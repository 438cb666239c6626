/-
  The sum of a text as the document has it: the text with its padding, block by block. It is the same as reading byte by byte.
-/
import Derived.Test.YtheccbnejamhlaaDoorRefMath
import Derived.Test.YtheccbnejamhlaaDoorShaAwake
namespace Go.Proofs.YtheccbnejamhlaaDoor
open Go.RowKit

namespace Sha
def blkAt (t : List UInt8) (m j : Nat) : Nat := (t.getD (64 * m + j) 0).toNat
def blocks (K : Nat → Nat) (s : St) (t : List UInt8) : Nat → St
  | 0 => s
  | m + 1 => comp K (blocks K s t m) (blkAt t m)
theorem word_congr {f g : Nat → Nat} (h : ∀ j, j < 64 → f j = g j) (i : Nat) (hi : i < 16) : word f i = word g i := by
  unfold word
  rw [h _ (by omega), h _ (by omega), h _ (by omega), h _ (by omega)]
theorem ws_congr {f g : Nat → Nat} (h : ∀ j, j < 64 → f j = g j) (k : Nat) : ws f k = ws g k := by
  induction k with
  | zero =>
    unfold ws
    exact List.map_congr_left fun i hi => word_congr h i (by simpa using hi)
  | succ k ih =>
    show ws f k ++ [next (ws f k) k] = ws g k ++ [next (ws g k) k]
    rw [ih]
theorem comp_congr (K : Nat → Nat) (s : St) {f g : Nat → Nat} (h : ∀ j, j < 64 → f j = g j) : comp K s f = comp K s g := by
  unfold comp
  rw [ws_congr h]
theorem blkAt_app (t u : List UInt8) (m j : Nat) (h : 64 * m + j < t.length) : blkAt (t ++ u) m j = blkAt t m j := by
  unfold blkAt
  rw [List.getD_eq_getElem?_getD, List.getD_eq_getElem?_getD, List.getElem?_append_left h]
theorem blocks_app (K : Nat → Nat) (s : St) (t u : List UInt8) (m : Nat) (h : 64 * m ≤ t.length) : blocks K s (t ++ u) m = blocks K s t m := by
  induction m with
  | zero => rfl
  | succ m ih =>
    unfold blocks
    rw [ih (by omega)]
    exact comp_congr K _ fun j hj => blkAt_app t u m j (by omega)
structure Fed (K : Nat → Nat) (s : St) (t : List UInt8) (x : Tx) : Prop where
  s : x.s = blocks K s t (t.length / 64)
  used : x.used = t.length % 64
  blk : ∀ j, j < x.used → x.blk j = blkAt t (t.length / 64) j
theorem Fed.nil (K : Nat → Nat) (s : St) : Fed K s [] (x0 s) := ⟨rfl, rfl, fun j hj => absurd hj (by show ¬ j < 0; omega)⟩
theorem upd_blk {K : Nat → Nat} {s : St} {t : List UInt8} {x : Tx} (h : Fed K s t x) (c : UInt8) (j : Nat) (hj : j ≤ x.used) : upd x.blk x.used c.toNat j = blkAt (t ++ [c]) (t.length / 64) j := by
  unfold upd
  have hu := h.used
  by_cases e : j = x.used
  · rw [if_pos e]
    unfold blkAt
    rw [List.getD_eq_getElem?_getD, show 64 * (t.length / 64) + j = t.length by omega, List.getElem?_append_right (Nat.le_refl _), Nat.sub_self]
    rfl
  · rw [if_neg e, h.blk j (by omega), blkAt_app _ _ _ _ (by omega)]
theorem Fed.step {K : Nat → Nat} {s : St} {t : List UInt8} {x : Tx} (h : Fed K s t x) (c : UInt8) : Fed K s (t ++ [c]) (feed K x c) := by
  have hu := h.used
  have hl : (t ++ [c]).length = t.length + 1 := by simp
  unfold feed
  by_cases e : x.used + 1 = 64
  · rw [if_pos e]
    have hq : (t ++ [c]).length / 64 = t.length / 64 + 1 := by omega
    refine ⟨?_, ?_, fun j hj => absurd hj (by show ¬ j < 0; omega)⟩
    · rw [hq]
      show comp K x.s _ = comp K (blocks K s (t ++ [c]) (t.length / 64)) _
      rw [blocks_app K s t [c] _ (by omega), ← h.s]
      exact comp_congr K _ fun j hj => upd_blk h c j (by omega)
    · show 0 = _
      omega
  · rw [if_neg e]
    have hq : (t ++ [c]).length / 64 = t.length / 64 := by omega
    refine ⟨?_, ?_, fun j hj => ?_⟩
    · rw [hq, blocks_app K s t [c] _ (by omega), ← h.s]
    · show x.used + 1 = _
      omega
    · have hj' : j < x.used + 1 := hj
      rw [hq]
      exact upd_blk h c j (by omega)
theorem Fed.more {K : Nat → Nat} {s : St} {t : List UInt8} {x : Tx} (h : Fed K s t x) (l : List UInt8) : Fed K s (t ++ l) (feeds K x l) := by
  induction l generalizing t x with
  | nil => rw [List.append_nil]; exact h
  | cons c l ih =>
    have := ih (h.step c)
    rw [List.append_assoc] at this
    exact this
/-- how many noughts stand behind the bit -/
def nulls (n : Nat) : Nat := (120 - (n + 1) % 64) % 64
def padded (l : List UInt8) : List UInt8 := l ++ 128 :: List.replicate (nulls l.length) 0
theorem padded_len (l : List UInt8) : (padded l).length % 64 = 56 := by
  unfold padded nulls
  simp only [List.length_append, List.length_cons, List.length_replicate]
  omega
theorem bitsOf_len (n : Nat) : (bitsOf n).length = 8 := by simp [bitsOf]
/-- the sum by blocks -/
theorem sha_blocks (K : Nat → Nat) (s : St) (l : List UInt8) (hl : l.length < 1000000) : sha K s l = blocks K s (padded l ++ bitsOf (8 * l.length)) ((padded l).length / 64 + 1) := by
  have h0 := ((Fed.nil K s).more l).step 128
  rw [List.nil_append] at h0
  have h1 := h0.more (List.replicate ((120 - (feed K (feeds K (x0 s) l) 128).used) % 64) 0)
  have e : l ++ [128] ++ List.replicate ((120 - (feed K (feeds K (x0 s) l) 128).used) % 64) 0 = padded l := by
    rw [h0.used]
    unfold padded nulls
    simp
  rw [e] at h1
  have hb : l.length % M64 * 8 % M64 = 8 * l.length := by unfold M64; omega
  have hp := padded_len l
  unfold sha fin
  rw [hb]
  show comp K (pads K (feed K (feeds K (x0 s) l) 128)).s _ = comp K (blocks K s (padded l ++ bitsOf (8 * l.length)) ((padded l).length / 64)) _
  rw [blocks_app K s (padded l) _ _ (by omega)]
  have hs : (pads K (feed K (feeds K (x0 s) l) 128)).s = blocks K s (padded l) ((padded l).length / 64) := h1.s
  have hu : (pads K (feed K (feeds K (x0 s) l) 128)).used = (padded l).length % 64 := h1.used
  have hk : ∀ j, j < 56 → (pads K (feed K (feeds K (x0 s) l) 128)).blk j = blkAt (padded l) ((padded l).length / 64) j := fun j hj => h1.blk j (by rw [h1.used]; omega)
  rw [hs]
  refine comp_congr K _ fun j hj => ?_
  unfold put
  rw [bitsOf_len]
  by_cases h : 56 ≤ j
  · rw [if_pos ⟨h, by omega⟩]
    unfold blkAt
    rw [List.getD_eq_getElem?_getD, List.getD_eq_getElem?_getD, List.getElem?_append_right (by omega), show 64 * ((padded l).length / 64) + j - (padded l).length = j - 56 by omega]
  · rw [if_neg (by omega), hk j (by omega), blkAt_app _ _ _ _ (by omega)]
theorem blocks_ok (K : Nat → Nat) {s : St} (h : s.ok) (t : List UInt8) (m : Nat) : (blocks K s t m).ok := by
  cases m with
  | zero => exact h
  | succ m => exact plus_ok _ _
theorem blkAt_lt (t : List UInt8) (m j : Nat) : blkAt t m j < 256 := UInt8.toNat_lt _
end Sha
end Go.Proofs.YtheccbnejamhlaaDoor
