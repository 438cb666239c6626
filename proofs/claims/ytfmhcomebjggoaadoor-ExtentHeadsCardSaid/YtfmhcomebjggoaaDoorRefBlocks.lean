/-
  The sum of a text as the document has it: the text with its padding, block by block.
-/
import Derived.Test.YtfmhcomebjggoaaDoorRefMath
namespace Go.Proofs.YtfmhcomebjggoaaDoor
open Go.RowKit

namespace Sha
def comp (K : Nat → Nat) (s : St) (blk : Nat → Nat) : St := plus s (rnds K (fun i => (ws blk 48).getD i 0) s 64)
def bitsOf (n : Nat) : List UInt8 := (List.range 8).map fun i => UInt8.ofNat (n / 2 ^ (56 - 8 * i) % 256)
def blkAt (t : List UInt8) (m j : Nat) : Nat := (t.getD (64 * m + j) 0).toNat
def blocks (K : Nat → Nat) (s : St) (t : List UInt8) : Nat → St
  | 0 => s
  | m + 1 => comp K (blocks K s t m) (blkAt t m)
theorem word_congr {f g : Nat → Nat} (h : ∀ j, j < 64 → f j = g j) (i : Nat) (hi : i < 16) : word f i = word g i := by
  unfold word
  rw [h _ (by omega), h _ (by omega), h _ (by omega), h _ (by omega)]
theorem ws_congr {f g : Nat → Nat} (h : ∀ j, j < 64 → f j = g j) (k : Nat) : ws f k = ws g k := by
  induction k with
  | zero =>
    unfold ws
    exact List.map_congr_left fun i hi => word_congr h i (by simpa using hi)
  | succ k ih =>
    show ws f k ++ [next (ws f k) k] = ws g k ++ [next (ws g k) k]
    rw [ih]
theorem comp_congr (K : Nat → Nat) (s : St) {f g : Nat → Nat} (h : ∀ j, j < 64 → f j = g j) : comp K s f = comp K s g := by
  unfold comp
  rw [ws_congr h]
theorem blkAt_app (t u : List UInt8) (m j : Nat) (h : 64 * m + j < t.length) : blkAt (t ++ u) m j = blkAt t m j := by
  unfold blkAt
  rw [List.getD_eq_getElem?_getD, List.getD_eq_getElem?_getD, List.getElem?_append_left h]
theorem blocks_app (K : Nat → Nat) (s : St) (t u : List UInt8) (m : Nat) (h : 64 * m ≤ t.length) : blocks K s (t ++ u) m = blocks K s t m := by
  induction m with
  | zero => rfl
  | succ m ih =>
    unfold blocks
    rw [ih (by omega)]
    exact comp_congr K _ fun j hj => blkAt_app t u m j (by omega)
/-- how many noughts stand behind the bit -/
def nulls (n : Nat) : Nat := (120 - (n + 1) % 64) % 64
def padded (l : List UInt8) : List UInt8 := l ++ 128 :: List.replicate (nulls l.length) 0
theorem padded_len (l : List UInt8) : (padded l).length % 64 = 56 := by
  unfold padded nulls
  simp only [List.length_append, List.length_cons, List.length_replicate]
  omega
theorem bitsOf_len (n : Nat) : (bitsOf n).length = 8 := by simp [bitsOf]
theorem blocks_ok (K : Nat → Nat) {s : St} (h : s.ok) (t : List UInt8) (m : Nat) : (blocks K s t m).ok := by
  cases m with
  | zero => exact h
  | succ m => exact plus_ok _ _
theorem blkAt_lt (t : List UInt8) (m j : Nat) : blkAt t m j < 256 := UInt8.toNat_lt _
end Sha
def rounds : List Nat := [1116352408, 1899447441, 3049323471, 3921009573, 961987163, 1508970993, 2453635748, 2870763221, 3624381080, 310598401, 607225278, 1426881987, 1925078388, 2162078206, 2614888103, 3248222580, 3835390401, 4022224774, 264347078, 604807628, 770255983, 1249150122, 1555081692, 1996064986, 2554220882, 2821834349, 2952996808, 3210313671, 3336571891, 3584528711, 113926993, 338241895, 666307205, 773529912, 1294757372, 1396182291, 1695183700, 1986661051, 2177026350, 2456956037, 2730485921, 2820302411, 3259730800, 3345764771, 3516065817, 3600352804, 4094571909, 275423344, 430227734, 506948616, 659060556, 883997877, 958139571, 1322822218, 1537002063, 1747873779, 1955562222, 2024104815, 2227730452, 2361852424, 2428436474, 2756734187, 3204031479, 3329325298]
def KK (i : Nat) : Nat := rounds.getD i 0
def SS : Sha.St := ⟨1779033703, 3144134277, 1013904242, 2773480762, 1359893119, 2600822924, 528734635, 1541459225⟩
theorem KK_lt (i : Nat) : KK i < 4294967296 := by
  unfold KK
  have h : ∀ x ∈ rounds, x < 4294967296 := by decide +kernel
  exact Sha.getD_lt _ h i
theorem SS_ok : SS.ok := by
  unfold Sha.St.ok SS
  decide
/-- the sum of a text, block by block -/
def shaOf (l : List UInt8) : Sha.St := Sha.blocks KK SS (Sha.padded l ++ Sha.bitsOf (8 * l.length)) ((Sha.padded l).length / 64 + 1)
end Go.Proofs.YtfmhcomebjggoaaDoor
