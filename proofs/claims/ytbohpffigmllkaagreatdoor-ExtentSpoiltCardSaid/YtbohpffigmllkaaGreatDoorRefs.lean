/-
  Texts put together: RefMath, RefBlocks, RefTurn, RefBytes, RefWords, RefOf, RefOf2, RefOf3.
-/
import Derived.Test.YtbohpffigmllkaaGreatDoorShas
import Derived.Deep.QuietTactic
import Derived.BigQuiet
import Derived.WalkSmall
import Derived.Test.YtbohpffigmllkaaGreatDoorPackRefNum
import Derived.Laws.BytesArg
import Derived.Laws.OwnMore
import Derived.LoopTactic
import Derived.Deep.AppendLies
import Derived.Deep.RegionLaw
import Derived.Test.YtbohpffigmllkaaGreatDoorExtLaid
import Derived.Deep.DeepCutAuto
/-
  The plain mathematics of the document's own sum: words as whole numbers, one round, a word of four bytes.
-/
namespace Go.Proofs.YtbohpffigmllkaaGreatDoor
open Go.RowKit

theorem i64_and_nat (a b : Nat) (ha : a < 9223372036854775808) (hb : b < 9223372036854775808) : bits .and .i64 (a : Int) (b : Int) = ((a &&& b : Nat) : Int) := by
  have hx : a &&& b < 2 ^ 63 := Nat.and_lt_two_pow _ (by omega)
  show IntKind.i64.wrap ((BitVec.ofInt 64 (a : Int) &&& BitVec.ofInt 64 (b : Int)).toNat : Int) = _
  rw [BitVec.toNat_and, ofInt_u64 a (by omega), ofInt_u64 b (by omega), IntWalk.i64_in _ (by omega)]
theorem i64_or_nat (a b : Nat) (ha : a < 9223372036854775808) (hb : b < 9223372036854775808) : bits .or .i64 (a : Int) (b : Int) = ((a ||| b : Nat) : Int) := by
  have hx : a ||| b < 2 ^ 63 := Nat.or_lt_two_pow (by omega) (by omega)
  show IntKind.i64.wrap ((BitVec.ofInt 64 (a : Int) ||| BitVec.ofInt 64 (b : Int)).toNat : Int) = _
  rw [BitVec.toNat_or, ofInt_u64 a (by omega), ofInt_u64 b (by omega), IntWalk.i64_in _ (by omega)]
theorem i64_xor_nat (a b : Nat) (ha : a < 9223372036854775808) (hb : b < 9223372036854775808) : bits .xor .i64 (a : Int) (b : Int) = ((a ^^^ b : Nat) : Int) := by
  have hx : a ^^^ b < 2 ^ 63 := Nat.xor_lt_two_pow (by omega) (by omega)
  show IntKind.i64.wrap ((BitVec.ofInt 64 (a : Int) ^^^ BitVec.ofInt 64 (b : Int)).toNat : Int) = _
  rw [BitVec.toNat_xor, ofInt_u64 a (by omega), ofInt_u64 b (by omega), IntWalk.i64_in _ (by omega)]

namespace Sha
theorem small {x : Nat} (h : x < 4294967296) : x < 9223372036854775808 := by omega
theorem add_or (x y : Nat) (hx : x < 4294967296) (hy : y < 4294967296) (h : x &&& y = 0) : x + y = x ||| y := by
  have e : BitVec.ofNat 64 x &&& BitVec.ofNat 64 y = 0#64 := by
    apply BitVec.eq_of_toNat_eq
    rw [BitVec.toNat_and, BitVec.toNat_ofNat, BitVec.toNat_ofNat, Nat.mod_eq_of_lt (by omega), Nat.mod_eq_of_lt (by omega), h]
    rfl
  have z := congrArg BitVec.toNat (BitVec.add_eq_or_of_and_eq_zero _ _ e)
  rw [BitVec.toNat_add, BitVec.toNat_or, BitVec.toNat_ofNat, BitVec.toNat_ofNat, Nat.mod_eq_of_lt (a := x) (by omega), Nat.mod_eq_of_lt (a := y) (by omega), Nat.mod_eq_of_lt (by omega)] at z
  exact z
theorem ch_sum (e f g : Nat) (he : e < 4294967296) (hf : f < 4294967296) (hg : g < 4294967296) : (e &&& f) + ((4294967295 - e) &&& g) = ch e f g := by
  rw [add_or _ _ (and_lt hf) (and_lt hg)]
  · unfold ch
    rw [Nat.and_comm g]
  · apply Nat.eq_of_testBit_eq
    intro i
    have e1 : 4294967295 - e = 2 ^ 32 - (e + 1) := by omega
    rw [e1, Nat.testBit_and, Nat.testBit_and, Nat.testBit_and, Nat.testBit_two_pow_sub_succ (by omega), Nat.zero_testBit]
    cases e.testBit i <;> simp
theorem rotr_or (x n : Nat) : (x / 2 ^ n ||| x * 2 ^ (32 - n) % 4294967296) = rotr x n := by
  unfold rotr
  rw [Nat.or_comm]
/-- a round as the document has it: sums of whole numbers, of which the lowest 32 bits are taken -/
theorem rnd_ref (k w : Nat) (s : St) (X Y : Nat) (hX : (s.z + b1 s.e + ch s.e s.f s.g + k + w) % 4294967296 = X) (hY : (b0 s.a + maj s.a s.b s.c) % 4294967296 = Y) :
    rnd k w s = ⟨(X + Y) % 4294967296, s.a, s.b, s.c, (s.d + X) % 4294967296, s.e, s.f, s.g⟩ := by
  subst hX hY
  unfold rnd
  simp only [St.mk.injEq, and_true, true_and]
  generalize b1 s.e = B
  generalize ch s.e s.f s.g = C
  generalize b0 s.a = D
  generalize maj s.a s.b s.c = E
  omega
theorem next_ref (l : List Nat) (k : Nat) : next l k = (l.getD k 0 + s0 (l.getD (k + 1) 0) + l.getD (k + 9) 0 + s1 (l.getD (k + 14) 0)) % 4294967296 := by
  unfold next
  generalize s0 (l.getD (k + 1) 0) = B
  generalize s1 (l.getD (k + 14) 0) = C
  omega
theorem word_ref (x0 x1 x2 x3 : Nat) (y1 : x1 < 256) (y2 : x2 < 256) (y3 : x3 < 256) : (x0 * 16777216 ||| x1 * 65536 ||| x2 * 256 ||| x3) = 256 * (256 * (256 * (256 * 0 + x0) + x1) + x2) + x3 := by
  rw [nat_join 24 (x0 * 16777216) (x1 * 65536) (by omega) (by omega), nat_join 16 (x0 * 16777216 + x1 * 65536) (x2 * 256) (by omega) (by omega), nat_join 8 (x0 * 16777216 + x1 * 65536 + x2 * 256) x3 (by omega) (by omega)]
  omega
/-- the first m of four bytes as a number -/
def part4 (f : Nat → Nat) : Nat → Nat
  | 0 => 0
  | m + 1 => 256 * part4 f m + f m
theorem part4_lt (f : Nat → Nat) (h : ∀ i, f i < 256) (m : Nat) : part4 f m < 256 ^ m := by
  induction m with
  | zero => simp [part4]
  | succ m ih =>
    have := h m
    have hp : 256 ^ (m + 1) = 256 * 256 ^ m := by rw [Nat.pow_succ, Nat.mul_comm]
    unfold part4
    omega
theorem part4_word (blk : Nat → Nat) (h : ∀ i, blk i < 256) (i : Nat) : part4 (fun m => blk (4 * i + m)) 4 = word blk i := by
  unfold word
  rw [word_ref _ _ _ _ (h _) (h _) (h _)]
  rfl
end Sha
end Go.Proofs.YtbohpffigmllkaaGreatDoor

/-
  The sum of a text as the document has it: the text with its padding, block by block. It is the same as reading byte by byte.
-/
namespace Go.Proofs.YtbohpffigmllkaaGreatDoor
open Go.RowKit

namespace Sha
def blkAt (t : List UInt8) (m j : Nat) : Nat := (t.getD (64 * m + j) 0).toNat
def blocks (K : Nat → Nat) (s : St) (t : List UInt8) : Nat → St
  | 0 => s
  | m + 1 => comp K (blocks K s t m) (blkAt t m)
theorem word_congr {f g : Nat → Nat} (h : ∀ j, j < 64 → f j = g j) (i : Nat) (hi : i < 16) : word f i = word g i := by
  unfold word
  rw [h _ (by omega), h _ (by omega), h _ (by omega), h _ (by omega)]
theorem ws_congr {f g : Nat → Nat} (h : ∀ j, j < 64 → f j = g j) (k : Nat) : ws f k = ws g k := by
  induction k with
  | zero =>
    unfold ws
    exact List.map_congr_left fun i hi => word_congr h i (by simpa using hi)
  | succ k ih =>
    show ws f k ++ [next (ws f k) k] = ws g k ++ [next (ws g k) k]
    rw [ih]
theorem comp_congr (K : Nat → Nat) (s : St) {f g : Nat → Nat} (h : ∀ j, j < 64 → f j = g j) : comp K s f = comp K s g := by
  unfold comp
  rw [ws_congr h]
theorem blkAt_app (t u : List UInt8) (m j : Nat) (h : 64 * m + j < t.length) : blkAt (t ++ u) m j = blkAt t m j := by
  unfold blkAt
  rw [List.getD_eq_getElem?_getD, List.getD_eq_getElem?_getD, List.getElem?_append_left h]
theorem blocks_app (K : Nat → Nat) (s : St) (t u : List UInt8) (m : Nat) (h : 64 * m ≤ t.length) : blocks K s (t ++ u) m = blocks K s t m := by
  induction m with
  | zero => rfl
  | succ m ih =>
    unfold blocks
    rw [ih (by omega)]
    exact comp_congr K _ fun j hj => blkAt_app t u m j (by omega)
structure Fed (K : Nat → Nat) (s : St) (t : List UInt8) (x : Tx) : Prop where
  s : x.s = blocks K s t (t.length / 64)
  used : x.used = t.length % 64
  blk : ∀ j, j < x.used → x.blk j = blkAt t (t.length / 64) j
theorem Fed.nil (K : Nat → Nat) (s : St) : Fed K s [] (x0 s) := ⟨rfl, rfl, fun j hj => absurd hj (by show ¬ j < 0; omega)⟩
theorem upd_blk {K : Nat → Nat} {s : St} {t : List UInt8} {x : Tx} (h : Fed K s t x) (c : UInt8) (j : Nat) (hj : j ≤ x.used) : upd x.blk x.used c.toNat j = blkAt (t ++ [c]) (t.length / 64) j := by
  unfold upd
  have hu := h.used
  by_cases e : j = x.used
  · rw [if_pos e]
    unfold blkAt
    rw [List.getD_eq_getElem?_getD, show 64 * (t.length / 64) + j = t.length by omega, List.getElem?_append_right (Nat.le_refl _), Nat.sub_self]
    rfl
  · rw [if_neg e, h.blk j (by omega), blkAt_app _ _ _ _ (by omega)]
theorem Fed.step {K : Nat → Nat} {s : St} {t : List UInt8} {x : Tx} (h : Fed K s t x) (c : UInt8) : Fed K s (t ++ [c]) (feed K x c) := by
  have hu := h.used
  have hl : (t ++ [c]).length = t.length + 1 := by simp
  unfold feed
  by_cases e : x.used + 1 = 64
  · rw [if_pos e]
    have hq : (t ++ [c]).length / 64 = t.length / 64 + 1 := by omega
    refine ⟨?_, ?_, fun j hj => absurd hj (by show ¬ j < 0; omega)⟩
    · rw [hq]
      show comp K x.s _ = comp K (blocks K s (t ++ [c]) (t.length / 64)) _
      rw [blocks_app K s t [c] _ (by omega), ← h.s]
      exact comp_congr K _ fun j hj => upd_blk h c j (by omega)
    · show 0 = _
      omega
  · rw [if_neg e]
    have hq : (t ++ [c]).length / 64 = t.length / 64 := by omega
    refine ⟨?_, ?_, fun j hj => ?_⟩
    · rw [hq, blocks_app K s t [c] _ (by omega), ← h.s]
    · show x.used + 1 = _
      omega
    · have hj' : j < x.used + 1 := hj
      rw [hq]
      exact upd_blk h c j (by omega)
theorem Fed.more {K : Nat → Nat} {s : St} {t : List UInt8} {x : Tx} (h : Fed K s t x) (l : List UInt8) : Fed K s (t ++ l) (feeds K x l) := by
  induction l generalizing t x with
  | nil => rw [List.append_nil]; exact h
  | cons c l ih =>
    have := ih (h.step c)
    rw [List.append_assoc] at this
    exact this
/-- how many noughts stand behind the bit -/
def nulls (n : Nat) : Nat := (120 - (n + 1) % 64) % 64
def padded (l : List UInt8) : List UInt8 := l ++ 128 :: List.replicate (nulls l.length) 0
theorem padded_len (l : List UInt8) : (padded l).length % 64 = 56 := by
  unfold padded nulls
  simp only [List.length_append, List.length_cons, List.length_replicate]
  omega
theorem bitsOf_len (n : Nat) : (bitsOf n).length = 8 := by simp [bitsOf]
/-- the sum by blocks -/
theorem sha_blocks (K : Nat → Nat) (s : St) (l : List UInt8) (hl : l.length < 1000000) : sha K s l = blocks K s (padded l ++ bitsOf (8 * l.length)) ((padded l).length / 64 + 1) := by
  have h0 := ((Fed.nil K s).more l).step 128
  rw [List.nil_append] at h0
  have h1 := h0.more (List.replicate ((120 - (feed K (feeds K (x0 s) l) 128).used) % 64) 0)
  have e : l ++ [128] ++ List.replicate ((120 - (feed K (feeds K (x0 s) l) 128).used) % 64) 0 = padded l := by
    rw [h0.used]
    unfold padded nulls
    simp
  rw [e] at h1
  have hb : l.length % M64 * 8 % M64 = 8 * l.length := by unfold M64; omega
  have hp := padded_len l
  unfold sha fin
  rw [hb]
  show comp K (pads K (feed K (feeds K (x0 s) l) 128)).s _ = comp K (blocks K s (padded l ++ bitsOf (8 * l.length)) ((padded l).length / 64)) _
  rw [blocks_app K s (padded l) _ _ (by omega)]
  have hs : (pads K (feed K (feeds K (x0 s) l) 128)).s = blocks K s (padded l) ((padded l).length / 64) := h1.s
  have hu : (pads K (feed K (feeds K (x0 s) l) 128)).used = (padded l).length % 64 := h1.used
  have hk : ∀ j, j < 56 → (pads K (feed K (feeds K (x0 s) l) 128)).blk j = blkAt (padded l) ((padded l).length / 64) j := fun j hj => h1.blk j (by rw [h1.used]; omega)
  rw [hs]
  refine comp_congr K _ fun j hj => ?_
  unfold put
  rw [bitsOf_len]
  by_cases h : 56 ≤ j
  · rw [if_pos ⟨h, by omega⟩]
    unfold blkAt
    rw [List.getD_eq_getElem?_getD, List.getD_eq_getElem?_getD, List.getElem?_append_right (by omega), show 64 * ((padded l).length / 64) + j - (padded l).length = j - 56 by omega]
  · rw [if_neg (by omega), hk j (by omega), blkAt_app _ _ _ _ (by omega)]
theorem blocks_ok (K : Nat → Nat) {s : St} (h : s.ok) (t : List UInt8) (m : Nat) : (blocks K s t m).ok := by
  cases m with
  | zero => exact h
  | succ m => exact plus_ok _ _
theorem blkAt_lt (t : List UInt8) (m j : Nat) : blkAt t m j < 256 := UInt8.toNat_lt _
end Sha
end Go.Proofs.YtbohpffigmllkaaGreatDoor

/-
  The document's own sum: a word, a turn by each number of bits that it takes: contracts.
-/
namespace Go.Proofs.YtbohpffigmllkaaGreatDoor
open Go.RowKit

theorem word_any (n : Nat) (hn : n < 9223372036854775808) (w : World) : Calls Tryz.prog 77 #[.int .i64 (n : Int)] w fun e w' => e = .returned (.int .i64 ((n % 4294967296 : Nat) : Int)) ∧ w = w' := by
  have h0 : (0 : Int) ≤ (n : Int) := by omega
  go_enter Tryz.func77, Tryz.ntmps77
  go_wp2_with fail
  go_ret
  exact ⟨by show Ending.returned (.int .i64 ((n : Int) % 4294967296)) = _; rw [show ((n % 4294967296 : Nat) : Int) = (n : Int) % 4294967296 by omega], rfl⟩
theorem turn2 (x : Nat) (hx : x < 4294967296) (w : World) : Calls Tryz.prog 78 #[.int .i64 (x : Int), .int .i64 2] w fun e w' => e = .returned (.int .i64 (Sha.rotr x 2 : Nat)) ∧ ∃ k, w' = w.drewN k := by
  have h0 : (0 : Int) ≤ (x : Int) := by omega
  have h1 : (x : Int) ≤ 4294967295 := by omega
  have e1 : IntKind.i64.wrap 30 = 30 := by decide
  have e2 : IntKind.i64.wrap ((x : Int) * 1073741824) = (x : Int) * 1073741824 := IntWalk.i64_in _ (by omega)
  have e3 : bits .or .i64 ((x : Int) / 4) ((x * 1073741824 % 4294967296 : Nat) : Int) = ((Sha.rotr x 2 : Nat) : Int) := by
    rw [show (x : Int) / 4 = ((x / 4 : Nat) : Int) by omega, i64_or_nat _ _ (by omega) (by omega)]
    congr 1
    exact Sha.rotr_or x 2
  have HW : Hid (∀ wx : World, Calls Tryz.prog 77 #[.int .i64 ((x : Int) * 1073741824)] wx fun e w' => e = .returned (.int .i64 ((x * 1073741824 % 4294967296 : Nat) : Int)) ∧ w' = wx) := Lib.hid fun wx => (word_any (x * 1073741824) (by omega) wx).mono fun _ _ ⟨h1, h2⟩ => ⟨h1, h2.symm⟩
  obtain ⟨V, hV⟩ : ∃ V, x * 1073741824 % 4294967296 = V := ⟨_, rfl⟩
  rw [hV] at HW e3
  clear hV
  clear hx
  generalize Sha.rotr x 2 = R at *
  go_enter Tryz.func78, Tryz.ntmps78
  go_wp2_with fail
  go_quiet ((go_at_call 77; exact Calls.quiet_of_same (HW.out _)))
  go_wp2_with fail
  go_ret
  exact ⟨rfl, _, rfl⟩
theorem turn6 (x : Nat) (hx : x < 4294967296) (w : World) : Calls Tryz.prog 78 #[.int .i64 (x : Int), .int .i64 6] w fun e w' => e = .returned (.int .i64 (Sha.rotr x 6 : Nat)) ∧ ∃ k, w' = w.drewN k := by
  have h0 : (0 : Int) ≤ (x : Int) := by omega
  have h1 : (x : Int) ≤ 4294967295 := by omega
  have e1 : IntKind.i64.wrap 26 = 26 := by decide
  have e2 : IntKind.i64.wrap ((x : Int) * 67108864) = (x : Int) * 67108864 := IntWalk.i64_in _ (by omega)
  have e3 : bits .or .i64 ((x : Int) / 64) ((x * 67108864 % 4294967296 : Nat) : Int) = ((Sha.rotr x 6 : Nat) : Int) := by
    rw [show (x : Int) / 64 = ((x / 64 : Nat) : Int) by omega, i64_or_nat _ _ (by omega) (by omega)]
    congr 1
    exact Sha.rotr_or x 6
  have HW : Hid (∀ wx : World, Calls Tryz.prog 77 #[.int .i64 ((x : Int) * 67108864)] wx fun e w' => e = .returned (.int .i64 ((x * 67108864 % 4294967296 : Nat) : Int)) ∧ w' = wx) := Lib.hid fun wx => (word_any (x * 67108864) (by omega) wx).mono fun _ _ ⟨h1, h2⟩ => ⟨h1, h2.symm⟩
  obtain ⟨V, hV⟩ : ∃ V, x * 67108864 % 4294967296 = V := ⟨_, rfl⟩
  rw [hV] at HW e3
  clear hV
  clear hx
  generalize Sha.rotr x 6 = R at *
  go_enter Tryz.func78, Tryz.ntmps78
  go_wp2_with fail
  go_quiet ((go_at_call 77; exact Calls.quiet_of_same (HW.out _)))
  go_wp2_with fail
  go_ret
  exact ⟨rfl, _, rfl⟩
theorem turn7 (x : Nat) (hx : x < 4294967296) (w : World) : Calls Tryz.prog 78 #[.int .i64 (x : Int), .int .i64 7] w fun e w' => e = .returned (.int .i64 (Sha.rotr x 7 : Nat)) ∧ ∃ k, w' = w.drewN k := by
  have h0 : (0 : Int) ≤ (x : Int) := by omega
  have h1 : (x : Int) ≤ 4294967295 := by omega
  have e1 : IntKind.i64.wrap 25 = 25 := by decide
  have e2 : IntKind.i64.wrap ((x : Int) * 33554432) = (x : Int) * 33554432 := IntWalk.i64_in _ (by omega)
  have e3 : bits .or .i64 ((x : Int) / 128) ((x * 33554432 % 4294967296 : Nat) : Int) = ((Sha.rotr x 7 : Nat) : Int) := by
    rw [show (x : Int) / 128 = ((x / 128 : Nat) : Int) by omega, i64_or_nat _ _ (by omega) (by omega)]
    congr 1
    exact Sha.rotr_or x 7
  have HW : Hid (∀ wx : World, Calls Tryz.prog 77 #[.int .i64 ((x : Int) * 33554432)] wx fun e w' => e = .returned (.int .i64 ((x * 33554432 % 4294967296 : Nat) : Int)) ∧ w' = wx) := Lib.hid fun wx => (word_any (x * 33554432) (by omega) wx).mono fun _ _ ⟨h1, h2⟩ => ⟨h1, h2.symm⟩
  obtain ⟨V, hV⟩ : ∃ V, x * 33554432 % 4294967296 = V := ⟨_, rfl⟩
  rw [hV] at HW e3
  clear hV
  clear hx
  generalize Sha.rotr x 7 = R at *
  go_enter Tryz.func78, Tryz.ntmps78
  go_wp2_with fail
  go_quiet ((go_at_call 77; exact Calls.quiet_of_same (HW.out _)))
  go_wp2_with fail
  go_ret
  exact ⟨rfl, _, rfl⟩
theorem turn11 (x : Nat) (hx : x < 4294967296) (w : World) : Calls Tryz.prog 78 #[.int .i64 (x : Int), .int .i64 11] w fun e w' => e = .returned (.int .i64 (Sha.rotr x 11 : Nat)) ∧ ∃ k, w' = w.drewN k := by
  have h0 : (0 : Int) ≤ (x : Int) := by omega
  have h1 : (x : Int) ≤ 4294967295 := by omega
  have e1 : IntKind.i64.wrap 21 = 21 := by decide
  have e2 : IntKind.i64.wrap ((x : Int) * 2097152) = (x : Int) * 2097152 := IntWalk.i64_in _ (by omega)
  have e3 : bits .or .i64 ((x : Int) / 2048) ((x * 2097152 % 4294967296 : Nat) : Int) = ((Sha.rotr x 11 : Nat) : Int) := by
    rw [show (x : Int) / 2048 = ((x / 2048 : Nat) : Int) by omega, i64_or_nat _ _ (by omega) (by omega)]
    congr 1
    exact Sha.rotr_or x 11
  have HW : Hid (∀ wx : World, Calls Tryz.prog 77 #[.int .i64 ((x : Int) * 2097152)] wx fun e w' => e = .returned (.int .i64 ((x * 2097152 % 4294967296 : Nat) : Int)) ∧ w' = wx) := Lib.hid fun wx => (word_any (x * 2097152) (by omega) wx).mono fun _ _ ⟨h1, h2⟩ => ⟨h1, h2.symm⟩
  obtain ⟨V, hV⟩ : ∃ V, x * 2097152 % 4294967296 = V := ⟨_, rfl⟩
  rw [hV] at HW e3
  clear hV
  clear hx
  generalize Sha.rotr x 11 = R at *
  go_enter Tryz.func78, Tryz.ntmps78
  go_wp2_with fail
  go_quiet ((go_at_call 77; exact Calls.quiet_of_same (HW.out _)))
  go_wp2_with fail
  go_ret
  exact ⟨rfl, _, rfl⟩
theorem turn13 (x : Nat) (hx : x < 4294967296) (w : World) : Calls Tryz.prog 78 #[.int .i64 (x : Int), .int .i64 13] w fun e w' => e = .returned (.int .i64 (Sha.rotr x 13 : Nat)) ∧ ∃ k, w' = w.drewN k := by
  have h0 : (0 : Int) ≤ (x : Int) := by omega
  have h1 : (x : Int) ≤ 4294967295 := by omega
  have e1 : IntKind.i64.wrap 19 = 19 := by decide
  have e2 : IntKind.i64.wrap ((x : Int) * 524288) = (x : Int) * 524288 := IntWalk.i64_in _ (by omega)
  have e3 : bits .or .i64 ((x : Int) / 8192) ((x * 524288 % 4294967296 : Nat) : Int) = ((Sha.rotr x 13 : Nat) : Int) := by
    rw [show (x : Int) / 8192 = ((x / 8192 : Nat) : Int) by omega, i64_or_nat _ _ (by omega) (by omega)]
    congr 1
    exact Sha.rotr_or x 13
  have HW : Hid (∀ wx : World, Calls Tryz.prog 77 #[.int .i64 ((x : Int) * 524288)] wx fun e w' => e = .returned (.int .i64 ((x * 524288 % 4294967296 : Nat) : Int)) ∧ w' = wx) := Lib.hid fun wx => (word_any (x * 524288) (by omega) wx).mono fun _ _ ⟨h1, h2⟩ => ⟨h1, h2.symm⟩
  obtain ⟨V, hV⟩ : ∃ V, x * 524288 % 4294967296 = V := ⟨_, rfl⟩
  rw [hV] at HW e3
  clear hV
  clear hx
  generalize Sha.rotr x 13 = R at *
  go_enter Tryz.func78, Tryz.ntmps78
  go_wp2_with fail
  go_quiet ((go_at_call 77; exact Calls.quiet_of_same (HW.out _)))
  go_wp2_with fail
  go_ret
  exact ⟨rfl, _, rfl⟩
theorem turn17 (x : Nat) (hx : x < 4294967296) (w : World) : Calls Tryz.prog 78 #[.int .i64 (x : Int), .int .i64 17] w fun e w' => e = .returned (.int .i64 (Sha.rotr x 17 : Nat)) ∧ ∃ k, w' = w.drewN k := by
  have h0 : (0 : Int) ≤ (x : Int) := by omega
  have h1 : (x : Int) ≤ 4294967295 := by omega
  have e1 : IntKind.i64.wrap 15 = 15 := by decide
  have e2 : IntKind.i64.wrap ((x : Int) * 32768) = (x : Int) * 32768 := IntWalk.i64_in _ (by omega)
  have e3 : bits .or .i64 ((x : Int) / 131072) ((x * 32768 % 4294967296 : Nat) : Int) = ((Sha.rotr x 17 : Nat) : Int) := by
    rw [show (x : Int) / 131072 = ((x / 131072 : Nat) : Int) by omega, i64_or_nat _ _ (by omega) (by omega)]
    congr 1
    exact Sha.rotr_or x 17
  have HW : Hid (∀ wx : World, Calls Tryz.prog 77 #[.int .i64 ((x : Int) * 32768)] wx fun e w' => e = .returned (.int .i64 ((x * 32768 % 4294967296 : Nat) : Int)) ∧ w' = wx) := Lib.hid fun wx => (word_any (x * 32768) (by omega) wx).mono fun _ _ ⟨h1, h2⟩ => ⟨h1, h2.symm⟩
  obtain ⟨V, hV⟩ : ∃ V, x * 32768 % 4294967296 = V := ⟨_, rfl⟩
  rw [hV] at HW e3
  clear hV
  clear hx
  generalize Sha.rotr x 17 = R at *
  go_enter Tryz.func78, Tryz.ntmps78
  go_wp2_with fail
  go_quiet ((go_at_call 77; exact Calls.quiet_of_same (HW.out _)))
  go_wp2_with fail
  go_ret
  exact ⟨rfl, _, rfl⟩
theorem turn18 (x : Nat) (hx : x < 4294967296) (w : World) : Calls Tryz.prog 78 #[.int .i64 (x : Int), .int .i64 18] w fun e w' => e = .returned (.int .i64 (Sha.rotr x 18 : Nat)) ∧ ∃ k, w' = w.drewN k := by
  have h0 : (0 : Int) ≤ (x : Int) := by omega
  have h1 : (x : Int) ≤ 4294967295 := by omega
  have e1 : IntKind.i64.wrap 14 = 14 := by decide
  have e2 : IntKind.i64.wrap ((x : Int) * 16384) = (x : Int) * 16384 := IntWalk.i64_in _ (by omega)
  have e3 : bits .or .i64 ((x : Int) / 262144) ((x * 16384 % 4294967296 : Nat) : Int) = ((Sha.rotr x 18 : Nat) : Int) := by
    rw [show (x : Int) / 262144 = ((x / 262144 : Nat) : Int) by omega, i64_or_nat _ _ (by omega) (by omega)]
    congr 1
    exact Sha.rotr_or x 18
  have HW : Hid (∀ wx : World, Calls Tryz.prog 77 #[.int .i64 ((x : Int) * 16384)] wx fun e w' => e = .returned (.int .i64 ((x * 16384 % 4294967296 : Nat) : Int)) ∧ w' = wx) := Lib.hid fun wx => (word_any (x * 16384) (by omega) wx).mono fun _ _ ⟨h1, h2⟩ => ⟨h1, h2.symm⟩
  obtain ⟨V, hV⟩ : ∃ V, x * 16384 % 4294967296 = V := ⟨_, rfl⟩
  rw [hV] at HW e3
  clear hV
  clear hx
  generalize Sha.rotr x 18 = R at *
  go_enter Tryz.func78, Tryz.ntmps78
  go_wp2_with fail
  go_quiet ((go_at_call 77; exact Calls.quiet_of_same (HW.out _)))
  go_wp2_with fail
  go_ret
  exact ⟨rfl, _, rfl⟩
theorem turn19 (x : Nat) (hx : x < 4294967296) (w : World) : Calls Tryz.prog 78 #[.int .i64 (x : Int), .int .i64 19] w fun e w' => e = .returned (.int .i64 (Sha.rotr x 19 : Nat)) ∧ ∃ k, w' = w.drewN k := by
  have h0 : (0 : Int) ≤ (x : Int) := by omega
  have h1 : (x : Int) ≤ 4294967295 := by omega
  have e1 : IntKind.i64.wrap 13 = 13 := by decide
  have e2 : IntKind.i64.wrap ((x : Int) * 8192) = (x : Int) * 8192 := IntWalk.i64_in _ (by omega)
  have e3 : bits .or .i64 ((x : Int) / 524288) ((x * 8192 % 4294967296 : Nat) : Int) = ((Sha.rotr x 19 : Nat) : Int) := by
    rw [show (x : Int) / 524288 = ((x / 524288 : Nat) : Int) by omega, i64_or_nat _ _ (by omega) (by omega)]
    congr 1
    exact Sha.rotr_or x 19
  have HW : Hid (∀ wx : World, Calls Tryz.prog 77 #[.int .i64 ((x : Int) * 8192)] wx fun e w' => e = .returned (.int .i64 ((x * 8192 % 4294967296 : Nat) : Int)) ∧ w' = wx) := Lib.hid fun wx => (word_any (x * 8192) (by omega) wx).mono fun _ _ ⟨h1, h2⟩ => ⟨h1, h2.symm⟩
  obtain ⟨V, hV⟩ : ∃ V, x * 8192 % 4294967296 = V := ⟨_, rfl⟩
  rw [hV] at HW e3
  clear hV
  clear hx
  generalize Sha.rotr x 19 = R at *
  go_enter Tryz.func78, Tryz.ntmps78
  go_wp2_with fail
  go_quiet ((go_at_call 77; exact Calls.quiet_of_same (HW.out _)))
  go_wp2_with fail
  go_ret
  exact ⟨rfl, _, rfl⟩
theorem turn22 (x : Nat) (hx : x < 4294967296) (w : World) : Calls Tryz.prog 78 #[.int .i64 (x : Int), .int .i64 22] w fun e w' => e = .returned (.int .i64 (Sha.rotr x 22 : Nat)) ∧ ∃ k, w' = w.drewN k := by
  have h0 : (0 : Int) ≤ (x : Int) := by omega
  have h1 : (x : Int) ≤ 4294967295 := by omega
  have e1 : IntKind.i64.wrap 10 = 10 := by decide
  have e2 : IntKind.i64.wrap ((x : Int) * 1024) = (x : Int) * 1024 := IntWalk.i64_in _ (by omega)
  have e3 : bits .or .i64 ((x : Int) / 4194304) ((x * 1024 % 4294967296 : Nat) : Int) = ((Sha.rotr x 22 : Nat) : Int) := by
    rw [show (x : Int) / 4194304 = ((x / 4194304 : Nat) : Int) by omega, i64_or_nat _ _ (by omega) (by omega)]
    congr 1
    exact Sha.rotr_or x 22
  have HW : Hid (∀ wx : World, Calls Tryz.prog 77 #[.int .i64 ((x : Int) * 1024)] wx fun e w' => e = .returned (.int .i64 ((x * 1024 % 4294967296 : Nat) : Int)) ∧ w' = wx) := Lib.hid fun wx => (word_any (x * 1024) (by omega) wx).mono fun _ _ ⟨h1, h2⟩ => ⟨h1, h2.symm⟩
  obtain ⟨V, hV⟩ : ∃ V, x * 1024 % 4294967296 = V := ⟨_, rfl⟩
  rw [hV] at HW e3
  clear hV
  clear hx
  generalize Sha.rotr x 22 = R at *
  go_enter Tryz.func78, Tryz.ntmps78
  go_wp2_with fail
  go_quiet ((go_at_call 77; exact Calls.quiet_of_same (HW.out _)))
  go_wp2_with fail
  go_ret
  exact ⟨rfl, _, rfl⟩
theorem turn25 (x : Nat) (hx : x < 4294967296) (w : World) : Calls Tryz.prog 78 #[.int .i64 (x : Int), .int .i64 25] w fun e w' => e = .returned (.int .i64 (Sha.rotr x 25 : Nat)) ∧ ∃ k, w' = w.drewN k := by
  have h0 : (0 : Int) ≤ (x : Int) := by omega
  have h1 : (x : Int) ≤ 4294967295 := by omega
  have e1 : IntKind.i64.wrap 7 = 7 := by decide
  have e2 : IntKind.i64.wrap ((x : Int) * 128) = (x : Int) * 128 := IntWalk.i64_in _ (by omega)
  have e3 : bits .or .i64 ((x : Int) / 33554432) ((x * 128 % 4294967296 : Nat) : Int) = ((Sha.rotr x 25 : Nat) : Int) := by
    rw [show (x : Int) / 33554432 = ((x / 33554432 : Nat) : Int) by omega, i64_or_nat _ _ (by omega) (by omega)]
    congr 1
    exact Sha.rotr_or x 25
  have HW : Hid (∀ wx : World, Calls Tryz.prog 77 #[.int .i64 ((x : Int) * 128)] wx fun e w' => e = .returned (.int .i64 ((x * 128 % 4294967296 : Nat) : Int)) ∧ w' = wx) := Lib.hid fun wx => (word_any (x * 128) (by omega) wx).mono fun _ _ ⟨h1, h2⟩ => ⟨h1, h2.symm⟩
  obtain ⟨V, hV⟩ : ∃ V, x * 128 % 4294967296 = V := ⟨_, rfl⟩
  rw [hV] at HW e3
  clear hV
  clear hx
  generalize Sha.rotr x 25 = R at *
  go_enter Tryz.func78, Tryz.ntmps78
  go_wp2_with fail
  go_quiet ((go_at_call 77; exact Calls.quiet_of_same (HW.out _)))
  go_wp2_with fail
  go_ret
  exact ⟨rfl, _, rfl⟩
end Go.Proofs.YtbohpffigmllkaaGreatDoor

/-
  The document's own sum: a number as bytes: a contract.
-/
namespace Go.Proofs.YtbohpffigmllkaaGreatDoor
open Go.RowKit

theorem rowGe {wx : World} {B : Nat} {e : TypeId} {v : Value} {n : Nat} {xs : List Value} (h : wx.ownsRow B e 1 v n xs) : ∀ q, v.ownBlock = some q → B ≤ q := by
  intro q hq
  rcases h.2 with ⟨rfl, _⟩ | ⟨g, cap, cur, rfl, hg, _⟩
  · simp [Value.ownBlock] at hq
  · simp [Value.ownBlock] at hq
    omega
theorem rowText {wx : World} {B n : Nat} {v : Value} {l : List UInt8} (h : wx.ownsRow B 5 1 v n (cellsOf l)) :
    (v = .slice none 0 0 ∧ l = []) ∨ ∃ g cap, v = .slice (some ⟨g, 0, none⟩) n cap ∧ (convert 81 9 (.slice (some ⟨g, 0, none⟩) n cap)).run Tryz.prog wx = .ok (.string ⟨l.toArray⟩) wx := by
  have hl : l.length = n := by have := h.1; simpa [cellsOf] using this
  rcases h.2 with ⟨rfl, hn⟩ | ⟨g, cap, cur, rfl, hg, hh, hnc, hcm, hcs, htake⟩
  · exact .inl ⟨rfl, List.eq_nil_of_length_eq_zero (by omega)⟩
  · refine .inr ⟨g, cap, rfl, ?_⟩
    have z := run_convert_bytes_back (P := Tryz.prog) wx 81 9 5 ⟨g, 0, none⟩ cap l Tryz.underlying81 Tryz.underlying5 Tryz.underlying9 fun j hj => by
      rw [Addr.add_mid, Nat.zero_add, h.cellAt j (by omega)]
      unfold cellsOf
      rw [List.getElem?_map, List.getElem?_eq_getElem hj]
      rfl
    rw [hl] at z
    exact z
set_option maxRecDepth 100000 in
set_option maxHeartbeats 2000000 in
theorem refBytes_any (a c : Nat) (ha : a < 9223372036854775808) (hc : 1 ≤ c ∧ c ≤ 8) (w : World) :
    Calls Tryz.prog 74 #[.int .i64 (a : Int), .int .i64 (c : Int)] w fun e w' => e = .returned (.string ⟨(enc a c).toArray⟩) ∧ Below w.heap.size w w' := by
  obtain ⟨i0, hi, hz0, hz1, hz2⟩ := info_parts info8p
  have HI := Lib.hid hi
  have HZ0 := Lib.hid hz0
  have HZ1 := Lib.hid hz1
  have HZ2 := Lib.hid hz2
  clear hi hz0 hz1 hz2
  have ha0 : (0 : Int) ≤ (a : Int) ∧ (a : Int) ≤ 9223372036854775807 := by omega
  have hc0 : (1 : Int) ≤ (c : Int) ∧ (c : Int) ≤ 8 := by omega
  have HC := Lib.hid hc
  clear ha hc
  go_enter Tryz.func74, Tryz.ntmps74
  go_wp2_with fail
  go_loopw [5, 6] (fun v i wx => ∃ k : Nat, ∃ I : Int, k ≤ c ∧ I = (c : Int) - 1 - k ∧ i = .int .i64 I ∧ wx.ownsRow w.heap.size 5 1 v k (cellsOf ((enc a c).take k)) ∧ Below w.heap.size w wx) (fun _ i _ => (intOf i + 1).toNat)
  case atStart => exact ⟨0, (c : Int) - 1, by omega, by omega, rfl, World.ownsRow_lit w #[] 0 (Nat.le_refl _) (by decide) rfl, (Below.refl _ _).alloc (Nat.le_refl _) _⟩
  case round =>
    obtain ⟨k, I, hk, hI, rfl, hown, hbel⟩ := hrel
    have HOwn := Lib.hid hown
    have HBel := Lib.hid hbel
    clear hown hbel
    by_cases hlt : k < c
    · have i1 : (0 : Int) ≤ I := by omega
      have i2 : I ≤ 7 := by omega
      obtain ⟨S, hS⟩ : ∃ S, 8 * (c - 1 - k) = S := ⟨_, rfl⟩
      have hsh : (8 * I).toNat = S := by omega
      obtain ⟨z, hz⟩ : ∃ z, a / 2 ^ S = z := ⟨_, rfl⟩
      have hzi : (a : Int) / 2 ^ S = (z : Int) := by rw [← hz]; simp
      have hzb := byte_mod z
      have hzl : z ≤ a := by rw [← hz]; exact Nat.div_le_self _ _
      have HN : Hid (cellsOf ((enc a c).take k) ++ [.int .u8 ((UInt8.ofNat z).toNat : Int)] = cellsOf ((enc a c).take (k + 1))) := Lib.hid (by
        rw [enc_take a c k hlt, ← hz, ← hS, Nat.pow_mul]
        simp [cellsOf])
      have HL : Hid (k ≤ 8) := Lib.hid (by have := HC.out; omega)
      have HI' := Lib.hid hI
      have HLt := Lib.hid hlt
      have hzl' : (z : Int) ≤ 9223372036854775807 := by omega
      clear hz hS hI hlt hk
      generalize UInt8.ofNat z = b at *
      go_wp2_with (at_builtin; refine wpList_append_own _ rfl _ _ 81 rfl w.heap.size 5 i0 (.int .u8 0) 1 1 Tryz.underlying81 HI.out HZ0.out HZ1.out HZ2.out rfl (by decide) _ _ _ rfl (HOwn.out.alloc _) ⟨wr.heap.size, 0, none⟩ 1 1 [.int .u8 (b.toNat : Nat)] rfl rfl ?c1 ?c2 ?c3 ?c4 ?c5 ?_)
      case c1 => exact news_one wr _ _
      case c2 => first | rfl | (intro u hu; simp at hu; subst hu; rfl)
      case c3 => (have hk8 : k ≤ 8 := HL.out); (first | omega | (unfold maxLen; omega))
      case c4 => (have hk8 : k ≤ 8 := HL.out); omega
      case c5 => have := HBel.out.size; first | omega | (simp; omega)
      · intro v' w1 hown' hgrow _
        rw [HN.out] at hown'
        have HO1 := Lib.hid hown'
        have HB1 := Lib.hid ((HBel.out.alloc HBel.out.size (.cells #[.int .u8 (b.toNat : Nat)] 5)).grown hgrow (by have := HBel.out.size; simp; omega) (rowGe HOwn.out))
        clear hown' hgrow
        go_wp2
        go_roundw
        case rel => exact ⟨k + 1, I - 1, by have := HLt.out; omega, by have := HI'.out; omega, rfl, HO1.out, HB1.out⟩
        case measure => simp [intOf]; omega
    · have i1 : I < 0 := by omega
      have i2 : ¬ (0 : Int) ≤ I := by omega
      have i3 : (-1 : Int) ≤ I := by omega
      obtain rfl : k = c := by omega
      have hown := HOwn.out
      rw [List.take_of_length_le (by rw [enc_len]; exact Nat.le_refl _)] at hown
      rcases rowText hown with ⟨rfl, hk0⟩ | ⟨g, cap, rfl, hkc⟩
      · have := congrArg List.length hk0
        rw [enc_len] at this
        have h1 := HC.out.1
        exact absurd this (by simp; omega)
      · clear hown hI HOwn
        go_wp2
        go_ret
        exact ⟨rfl, HBel.out⟩
end Go.Proofs.YtbohpffigmllkaaGreatDoor

/-
  The document's own sum: the words of a block: a contract.
-/
namespace Go.Proofs.YtbohpffigmllkaaGreatDoor
open Go.RowKit

def natInts (l : List Nat) : List Value := l.map fun (x : Nat) => Value.int .i64 ((x : Nat) : Int)
theorem natInts_len (l : List Nat) : (natInts l).length = l.length := by simp [natInts]
theorem natInts_get (l : List Nat) (j : Nat) (h : j < l.length) : (natInts l)[j]? = some (.int .i64 ((l.getD j 0 : Nat) : Int)) := by
  unfold natInts
  rw [List.getElem?_map, List.getD_eq_getElem?_getD, List.getElem?_eq_getElem h]
  rfl
theorem infoInt : (Tryz.prog.info? 3).map (fun i => (i.zero, i.size, i.bytes)) = some (some (.int .i64 0), 1, 8) := by kernel_rfl
theorem newsInt (w : World) (x : Nat) : ∀ j u, [Value.int .i64 (x : Int)][j]? = some u → (w.alloc (.cells #[.int .i64 (x : Int)] 3)).cell? ((⟨w.heap.size, 0, none⟩ : Addr).add j) = some u := news_one w _ _
/-- the bytes of a block as numbers -/
def blkOf (s : ByteArray) (j : Nat) : Nat := (s.data.toList.getD j 0).toNat
theorem blkOf_lt (s : ByteArray) (j : Nat) : blkOf s j < 256 := UInt8.toNat_lt _
theorem blkOf_at (s : ByteArray) (j : Nat) (h : j < s.size) : ((s[j]'h).toNat : Nat) = blkOf s j := by
  unfold blkOf
  rw [List.getD_eq_getElem?_getD, List.getElem?_eq_getElem (by simpa using h)]
  rfl
theorem words_next (blk : Nat → Nat) (k : Nat) : natInts ((List.range k).map (Sha.word blk)) ++ [.int .i64 ((Sha.word blk k : Nat) : Int)] = natInts ((List.range (k + 1)).map (Sha.word blk)) := by
  rw [List.range_succ]
  simp [natInts]
theorem ws_next (blk : Nat → Nat) (k : Nat) : natInts (Sha.ws blk k) ++ [.int .i64 ((Sha.next (Sha.ws blk k) k : Nat) : Int)] = natInts (Sha.ws blk (k + 1)) := by
  show _ = natInts (Sha.ws blk k ++ [Sha.next (Sha.ws blk k) k])
  simp [natInts]
theorem rowSome {wx : World} {B n : Nat} {v : Value} {l : List Nat} (h : wx.ownsRow B 3 1 v n (natInts l)) (hn : 0 < n) : ∃ g cap, v = .slice (some ⟨g, 0, none⟩) n cap ∧ n ≤ cap ∧ ∀ j, j < l.length → wx.cell? ⟨g, j, none⟩ = some (.int .i64 ((l.getD j 0 : Nat) : Int)) := by
  rcases h.2 with ⟨rfl, hz⟩ | ⟨g, cap, cur, rfl, hg, hh, hnc, hcm, hcs, htake⟩
  · omega
  · refine ⟨g, cap, rfl, hnc, fun j hj => ?_⟩
    have := h.cells (g := g) rfl j _ (natInts_get l j hj)
    rw [Addr.add_lit] at this
    simpa using this
set_option maxRecDepth 100000 in
set_option maxHeartbeats 4000000 in
theorem refWords_any (s : ByteArray) (hs : s.size = 64) (w : World) :
    Calls Tryz.prog 76 #[.string s] w fun e w' => ∃ v, e = .returned v ∧ w'.ownsRow w.heap.size 3 1 v 64 (natInts (Sha.ws (blkOf s) 48)) ∧ Below w.heap.size w w' := by
  obtain ⟨i0, hi, hz0, hz1, hz2⟩ := info_parts infoInt
  have HI := Lib.hid hi
  have HZ0 := Lib.hid hz0
  have HZ1 := Lib.hid hz1
  have HZ2 := Lib.hid hz2
  clear hi hz0 hz1 hz2
  have hs0 : (s.size : Int) = 64 := by omega
  have HS := Lib.hid hs
  clear hs
  go_enter Tryz.func76, Tryz.ntmps76
  go_wp2_with fail
  go_loopw [3, 4] (fun v i wx => ∃ k : Nat, k ≤ 16 ∧ i = .int .i64 k ∧ wx.ownsRow w.heap.size 3 1 v k (natInts ((List.range k).map (Sha.word (blkOf s)))) ∧ Below w.heap.size w wx) (fun _ i _ => 16 - (intOf i).toNat)
  case atStart => exact ⟨0, by omega, rfl, World.ownsRow_lit w #[] 0 (Nat.le_refl _) (by decide) rfl, (Below.refl _ _).alloc (Nat.le_refl _) _⟩
  case round =>
    obtain ⟨k, hk, rfl, hown, hbel⟩ := hrel
    have HOwn := Lib.hid hown
    have HBel := Lib.hid hbel
    clear hown hbel
    by_cases hlt : k < 16
    · have i1 : (k : Int) < 16 := by omega
      go_wp2_with fail
      go_loop [5, 6] (fun c b => ∃ m : Nat, m ≤ 4 ∧ b = .int .i64 m ∧ c = .int .i64 (Sha.part4 (fun j => blkOf s (4 * k + j)) m : Nat)) (fun _ b => 4 - (intOf b).toNat)
      case atStart => exact ⟨0, by omega, rfl, rfl⟩
      case round =>
        obtain ⟨m, hm, rfl, rfl⟩ := hrel
        have hcl := Sha.part4_lt (fun j => blkOf s (4 * k + j)) (fun j => blkOf_lt s _) m
        have hp : 256 ^ m ≤ 256 ^ 4 := Nat.pow_le_pow_right (by decide) hm
        have hc2 : Sha.part4 (fun j => blkOf s (4 * k + j)) m < 4294967296 := by omega
        clear hcl hp
        by_cases hm4 : m < 4
        · have HN : Hid (Sha.part4 (fun j => blkOf s (4 * k + j)) (m + 1) = 256 * Sha.part4 (fun j => blkOf s (4 * k + j)) m + blkOf s (4 * k + m)) := Lib.hid rfl
          have hbx := blkOf_at s (4 * k + m) (by rw [HS.out]; omega)
          have hbl := blkOf_lt s (4 * k + m)
          obtain ⟨J, hJ⟩ : ∃ J, 4 * k + m = J := ⟨_, rfl⟩
          have hJi : 4 * (k : Int) + (m : Int) = (J : Int) := by omega
          have hJ1 : (J : Int) < 64 := by omega
          have hJ2 : J < s.size := by rw [HS.out]; omega
          have hx0 : wrap64 ((s[J]'hJ2).toNat : Int) = ((s[J]'hJ2).toNat : Int) := by
            have := (s[J]'hJ2).toNat_lt
            unfold wrap64
            omega
          have hbx2 : (s[J]'hJ2).toNat = blkOf s (4 * k + m) := by
            subst hJ
            exact hbx
          clear hbx hJ
          obtain ⟨B, hB⟩ : ∃ B, (s[J]'hJ2).toNat = B := ⟨_, rfl⟩
          rw [hB] at hx0 hbx2
          rw [← hbx2] at HN hbl
          obtain ⟨P, hP⟩ : ∃ P, Sha.part4 (fun j => blkOf s (4 * k + j)) m = P := ⟨_, rfl⟩
          rw [hP] at HN hc2 ⊢
          have HM := Lib.hid hm4
          clear hP hbx2 hm
          go_wp2
          go_round
          case rel => exact ⟨m + 1, by have := HM.out; omega, by go_num, by rw [HN.out]; go_num⟩
          case measure => simp [intOf]; have := HM.out; omega
        · obtain rfl : m = 4 := by omega
          have hw := Sha.part4_word (blkOf s) (blkOf_lt s) k
          have HNx := Lib.hid (words_next (blkOf s) k)
          rw [hw] at hc2 ⊢
          generalize Sha.word (blkOf s) k = C at *
          have HLt := Lib.hid hlt
          clear hw hm hm4 hlt hk i1
          have i1 : (k : Int) < 16 := by have := HLt.out; omega
          go_wp2_with (at_builtin; refine wpList_append_own _ rfl _ _ 54 rfl w.heap.size 3 i0 (.int .i64 0) 1 8 Tryz.underlying54 HI.out HZ0.out HZ1.out HZ2.out rfl (by decide) _ _ _ rfl (HOwn.out.alloc _) ⟨wr.heap.size, 0, none⟩ 1 1 [.int .i64 (C : Int)] rfl rfl ?c1 ?c2 ?c3 ?c4 ?c5 ?_)
          case c2 => first | rfl | (intro u hu; simp at hu; subst hu; rfl)
          case c3 => (have hk8 : k < 16 := HLt.out); (first | omega | (unfold maxLen; omega))
          case c4 => (have hk8 : k < 16 := HLt.out); omega
          case c5 => have := HBel.out.size; first | omega | (simp; omega)
          · intro v' w1 hown' hgrow _
            rw [HNx.out] at hown'
            have HO1 := Lib.hid hown'
            have HB1 := Lib.hid ((HBel.out.alloc HBel.out.size (.cells #[.int .i64 (C : Int)] 3)).grown hgrow (by have := HBel.out.size; simp; omega) (rowGe HOwn.out))
            clear hown' hgrow
            go_wp2
            go_roundw
            case rel => exact ⟨k + 1, by have := HLt.out; omega, by go_num, HO1.out, HB1.out⟩
            case measure => simp [intOf]; have := HLt.out; omega
    · have hk16 : k = 16 := by omega
      have HW0 : Hid (wr.ownsRow w.heap.size 3 1 u3 16 (natInts (Sha.ws (blkOf s) 0))) := Lib.hid (by have := HOwn.out; rw [hk16] at this; exact this)
      have hk17 : ¬ (k : Int) < 16 := by omega
      clear hlt hk HOwn hk16
      go_wp2_with fail
      go_loopw [3, 7] (fun v i wx => ∃ k : Nat, ∃ I : Int, k ≤ 48 ∧ I = (16 : Int) + k ∧ i = .int .i64 I ∧ wx.ownsRow w.heap.size 3 1 v (16 + k) (natInts (Sha.ws (blkOf s) k)) ∧ Below w.heap.size w wx) (fun _ i _ => (64 - intOf i).toNat)
      case atStart => exact ⟨0, 16, by omega, rfl, rfl, HW0.out, HBel.out⟩
      case round =>
        obtain ⟨k, I, hk, hI, rfl, hown, hbel⟩ := hrel
        have HBel := Lib.hid hbel
        have hlen := Sha.ws_len (blkOf s) k
        obtain ⟨g, cap, rfl, hcap, hcell⟩ := rowSome hown (by omega)
        have HOwn := Lib.hid hown
        rw [hlen] at hcell
        by_cases hlt : k < 48
        · have i1 : I < 64 := by omega
          have i2 : (16 : Int) ≤ I := by omega
          have c1 := hcell (k + 1) (by omega)
          have c14 := hcell (k + 14) (by omega)
          have c0 := hcell k (by omega)
          have c9 := hcell (k + 9) (by omega)
          have l0 := Sha.ws_lt (blkOf s) (blkOf_lt s) k k
          have l1 := Sha.ws_lt (blkOf s) (blkOf_lt s) k (k + 1)
          have l9 := Sha.ws_lt (blkOf s) (blkOf_lt s) k (k + 9)
          have l14 := Sha.ws_lt (blkOf s) (blkOf_lt s) k (k + 14)
          have HNx := Lib.hid (ws_next (blkOf s) k)
          have HNr := Lib.hid (Sha.next_ref (Sha.ws (blkOf s) k) k)
          clear hown hbel hcell hlen
          generalize (Sha.ws (blkOf s) k).getD k 0 = y0 at *
          generalize (Sha.ws (blkOf s) k).getD (k + 1) 0 = y1 at *
          generalize (Sha.ws (blkOf s) k).getD (k + 9) 0 = y9 at *
          generalize (Sha.ws (blkOf s) k).getD (k + 14) 0 = y14 at *
          have e15 : IntKind.i64.wrap (I - 15) = ((k + 1 : Nat) : Int) := by rw [IntWalk.i64_in _ (by omega)]; omega
          have e2 : IntKind.i64.wrap (I - 2) = ((k + 14 : Nat) : Int) := by rw [IntWalk.i64_in _ (by omega)]; omega
          have e16 : IntKind.i64.wrap (I - 16) = ((k : Nat) : Int) := by rw [IntWalk.i64_in _ (by omega)]; omega
          have e7 : IntKind.i64.wrap (I - 7) = ((k + 9 : Nat) : Int) := by rw [IntWalk.i64_in _ (by omega)]; omega
          have HKl : Hid (k < 48 ∧ I = (16 : Int) + k) := Lib.hid ⟨hlt, hI⟩
          obtain ⟨K1, hK1⟩ : ∃ K1, k + 1 = K1 := ⟨_, rfl⟩
          obtain ⟨K14, hK14⟩ : ∃ K14, k + 14 = K14 := ⟨_, rfl⟩
          obtain ⟨K9, hK9⟩ : ∃ K9, k + 9 = K9 := ⟨_, rfl⟩
          obtain ⟨N, hN⟩ : ∃ N, 16 + k = N := ⟨_, rfl⟩
          have b1 : (0 : Int) ≤ (K1 : Int) ∧ (K1 : Int) < (N : Int) := by omega
          have b14 : (0 : Int) ≤ (K14 : Int) ∧ (K14 : Int) < (N : Int) := by omega
          have b9 : (0 : Int) ≤ (K9 : Int) ∧ (K9 : Int) < (N : Int) := by omega
          have b0 : (0 : Int) ≤ (k : Int) ∧ (k : Int) < (N : Int) := by omega
          rw [hK1] at c1 e15
          rw [hK14] at c14 e2
          rw [hK9] at c9 e7
          rw [hN] at hcap HOwn ⊢
          have HNn := Lib.hid hN
          clear hK1 hK14 hK9 hN hlt hk hI
          have HT7 := Lib.hid fun wx => turn7 y1 l1 wx
          have HT18 := Lib.hid fun wx => turn18 y1 l1 wx
          have HT17 := Lib.hid fun wx => turn17 y14 l14 wx
          have HT19 := Lib.hid fun wx => turn19 y14 l14 wx
          have r7 := Sha.rotr_lt 7 l1
          have r18 := Sha.rotr_lt 18 l1
          have r17 := Sha.rotr_lt 17 l14
          have r19 := Sha.rotr_lt 19 l14
          have p1 := i64_xor_nat _ _ (Sha.small r7) (Sha.small r18)
          have q1 := i64_xor_nat _ _ (Sha.small r17) (Sha.small r19)
          have p2 : bits .xor .i64 ((Sha.rotr y1 7 ^^^ Sha.rotr y1 18 : Nat) : Int) ((y1 : Int) / 8) = ((Sha.s0 y1 : Nat) : Int) := by
            rw [show (y1 : Int) / 8 = ((y1 / 8 : Nat) : Int) by omega, i64_xor_nat _ _ (Sha.small (Sha.xor_lt r7 r18)) (by omega)]
            rfl
          have q2 : bits .xor .i64 ((Sha.rotr y14 17 ^^^ Sha.rotr y14 19 : Nat) : Int) ((y14 : Int) / 1024) = ((Sha.s1 y14 : Nat) : Int) := by
            rw [show (y14 : Int) / 1024 = ((y14 / 1024 : Nat) : Int) by omega, i64_xor_nat _ _ (Sha.small (Sha.xor_lt r17 r19)) (by omega)]
            rfl
          have p3 := Sha.s0_lt l1
          have q3 := Sha.s1_lt l14
          clear r7 r18 r17 r19
          generalize Sha.rotr y1 7 = R7 at *
          generalize Sha.rotr y1 18 = R18 at *
          generalize Sha.rotr y14 17 = R17 at *
          generalize Sha.rotr y14 19 = R19 at *
          generalize R7 ^^^ R18 = X7 at *
          generalize R17 ^^^ R19 = X17 at *
          generalize Sha.s0 y1 = P at *
          generalize Sha.s1 y14 = Q at *
          obtain ⟨V, hV⟩ : ∃ V, (y0 + P + y9 + Q) % 4294967296 = V := ⟨_, rfl⟩
          have HNe := Lib.hid (HNr.out.trans hV)
          have f1 : IntKind.i64.wrap ((y0 : Int) + (P : Int)) = (y0 : Int) + (P : Int) := IntWalk.i64_in _ (by omega)
          have f2 : IntKind.i64.wrap ((y0 : Int) + (P : Int) + (y9 : Int)) = (y0 : Int) + (P : Int) + (y9 : Int) := IntWalk.i64_in _ (by omega)
          have f3 : IntKind.i64.wrap ((y0 : Int) + (P : Int) + (y9 : Int) + (Q : Int)) = (y0 : Int) + (P : Int) + (y9 : Int) + (Q : Int) := IntWalk.i64_in _ (by omega)
          have HWd : Hid (∀ wx : World, Calls Tryz.prog 77 #[.int .i64 ((y0 : Int) + (P : Int) + (y9 : Int) + (Q : Int))] wx fun e w' => e = .returned (.int .i64 (V : Int)) ∧ wx = w') := Lib.hid fun wx => by
            have := word_any (y0 + P + y9 + Q) (by omega) wx
            rw [hV, show ((y0 + P + y9 + Q : Nat) : Int) = (y0 : Int) + (P : Int) + (y9 : Int) + (Q : Int) by omega] at this
            exact this
          have HF := Lib.hid (And.intro f1 (And.intro f2 f3))
          clear HNr hV f1 f2 f3 p3 q3
          go_wp2_with fail
          go_quiet (fail)
          have l0' : (y0 : Int) ≤ 4294967295 := by omega
          clear e15 e2 b1 b14 c1 c14
          go_upto_region 17 with (first
            | (go_at_call 78; (with_reducible refine (HT7.out _).mono ?_); rintro e wz ⟨rfl, n7, rfl⟩)
            | (go_at_call 78; (with_reducible refine (HT18.out _).mono ?_); rintro e wz ⟨rfl, n18, rfl⟩)
            | (go_at_call 78; (with_reducible refine (HT17.out _).mono ?_); rintro e wz ⟨rfl, n17, rfl⟩)
            | (go_at_call 78; (with_reducible refine (HT19.out _).mono ?_); rintro e wz ⟨rfl, n19, rfl⟩))
          have HOz : Hid ((wr.drewN (nq + n7 + n18 + n17 + n19)).ownsRow w.heap.size 3 1 (.slice (some ⟨g, 0, none⟩) N cap) N (natInts (Sha.ws (blkOf s) k))) := Lib.hid HOwn.out
          have HBz : Hid (Below w.heap.size w (wr.drewN (nq + n7 + n18 + n17 + n19))) := Lib.hid (below_drewN HBel.out _)
          have z0 : (wr.drewN (nq + n7 + n18 + n17 + n19)).cell? ⟨g, k, none⟩ = some (.int .i64 (y0 : Int)) := c0
          have z9 : (wr.drewN (nq + n7 + n18 + n17 + n19)).cell? ⟨g, K9, none⟩ = some (.int .i64 (y9 : Int)) := c9
          generalize wr.drewN (nq + n7 + n18 + n17 + n19) = wz at *
          clear c0 c9 HT7 HT18 HT17 HT19 p1 p2 q1 q2 HOwn HBel l0 l1 l9 l14
          obtain ⟨f1, f2, f3⟩ := HF.out
          have HOa : Hid ((wz.alloc (.cells #[.int .i64 (V : Int)] 3)).drew.ownsRow w.heap.size 3 1 (.slice (some ⟨g, 0, none⟩) N cap) N (natInts (Sha.ws (blkOf s) k))) := Lib.hid (HOz.out.alloc _)
          have HNw : Hid (∀ j u, [Value.int .i64 (V : Int)][j]? = some u → (wz.alloc (.cells #[.int .i64 (V : Int)] 3)).drew.cell? ((⟨wz.heap.size, 0, none⟩ : Addr).add j) = some u) := Lib.hid (newsInt wz V)
          have HC1 : Hid (∀ u ∈ [Value.int .i64 (V : Int)], u.oneCell' = true) := Lib.hid (by intro u hu; simp at hu; subst hu; rfl)
          have HL1 : Hid (N + 1 ≤ maxLen) := Lib.hid (by have := HKl.out.1; have := HNn.out; unfold maxLen; omega)
          have HL2 : Hid ((N + 1) * 8 ≤ 140737488355328) := Lib.hid (by have := HKl.out.1; have := HNn.out; omega)
          have HL3 : Hid (w.heap.size ≤ (wz.alloc (.cells #[.int .i64 (V : Int)] 3)).drew.heap.size) := Lib.hid (by have := HBz.out.size; show w.heap.size ≤ (wz.alloc _).heap.size; simp; omega)
          go_region_law (first
            | (go_simp; go_at_call 77; (with_reducible refine (HWd.out _).mono ?_); rintro e wy ⟨rfl, rfl⟩)
            | ((refine step_append_lies _ rfl (.tmp 65) (.tmp 82) 54 rfl w.heap.size 3 i0 (.int .i64 0) 1 8 Tryz.underlying54 HI.out HZ0.out HZ1.out HZ2.out rfl (by decide) (.slice (some ⟨g, 0, none⟩) N cap) N (natInts (Sha.ws (blkOf s) k)) rfl HOa.out ⟨wz.heap.size, 0, none⟩ 1 1 [.int .i64 (V : Int)] rfl rfl HNw.out HC1.out (by decide) HL1.out HL2.out HL3.out _ rfl ?_); (intro g2 cap2 w1 hs hg hat hlt'); (have HSr := Lib.hid hs); (have HGr := Lib.hid hg); (clear hs hg hat hlt')))
          all_goals
            go_wp2_with fail
            have HS2 : Hid (w1.ownsRow w.heap.size 3 1 (.slice (some ⟨g2, 0, none⟩) (N + 1) cap2) (16 + (k + 1)) (natInts (Sha.ws (blkOf s) (k + 1)))) := Lib.hid (by
              have := HSr.out
              rw [← HNe.out, HNx.out] at this
              rw [show 16 + (k + 1) = N + 1 by have := HNn.out; omega]
              exact this)
            have HB2 : Hid (Below w.heap.size w w1) := Lib.hid ((HBz.out.alloc HBz.out.size (.cells #[.int .i64 (V : Int)] 3)).drew.grown HGr.out HL3.out (rowGe HOz.out))
            go_roundw
            case rel => exact ⟨k + 1, I + 1, by have := HKl.out.1; omega, by have := HKl.out.2; omega, rfl, HS2.out, HB2.out⟩
            case measure => simp [intOf]; have := HKl.out; omega
        · obtain rfl : k = 48 := by omega
          go_wp2_with fail
          go_ret
          exact ⟨_, rfl, HOwn.out, HBel.out⟩
end Go.Proofs.YtbohpffigmllkaaGreatDoor

/-
  The document's own sum: its table of numbers, one block: contracts.
-/
namespace Go.Proofs.YtbohpffigmllkaaGreatDoor
open Go.RowKit

/-- the numbers of the rounds as the document has them -/
def refK : List Nat := [1116352408, 1899447441, 3049323471, 3921009573, 961987163, 1508970993, 2453635748, 2870763221, 3624381080, 310598401, 607225278, 1426881987, 1925078388, 2162078206, 2614888103, 3248222580, 3835390401, 4022224774, 264347078, 604807628, 770255983, 1249150122, 1555081692, 1996064986, 2554220882, 2821834349, 2952996808, 3210313671, 3336571891, 3584528711, 113926993, 338241895, 666307205, 773529912, 1294757372, 1396182291, 1695183700, 1986661051, 2177026350, 2456956037, 2730485921, 2820302411, 3259730800, 3345764771, 3516065817, 3600352804, 4094571909, 275423344, 430227734, 506948616, 659060556, 883997877, 958139571, 1322822218, 1537002063, 1747873779, 1955562222, 2024104815, 2227730452, 2361852424, 2428436474, 2756734187, 3204031479, 3329325298]
def refKv : Array Value := #[.int .i64 1116352408, .int .i64 1899447441, .int .i64 3049323471, .int .i64 3921009573, .int .i64 961987163, .int .i64 1508970993, .int .i64 2453635748, .int .i64 2870763221, .int .i64 3624381080, .int .i64 310598401, .int .i64 607225278, .int .i64 1426881987, .int .i64 1925078388, .int .i64 2162078206, .int .i64 2614888103, .int .i64 3248222580, .int .i64 3835390401, .int .i64 4022224774, .int .i64 264347078, .int .i64 604807628, .int .i64 770255983, .int .i64 1249150122, .int .i64 1555081692, .int .i64 1996064986, .int .i64 2554220882, .int .i64 2821834349, .int .i64 2952996808, .int .i64 3210313671, .int .i64 3336571891, .int .i64 3584528711, .int .i64 113926993, .int .i64 338241895, .int .i64 666307205, .int .i64 773529912, .int .i64 1294757372, .int .i64 1396182291, .int .i64 1695183700, .int .i64 1986661051, .int .i64 2177026350, .int .i64 2456956037, .int .i64 2730485921, .int .i64 2820302411, .int .i64 3259730800, .int .i64 3345764771, .int .i64 3516065817, .int .i64 3600352804, .int .i64 4094571909, .int .i64 275423344, .int .i64 430227734, .int .i64 506948616, .int .i64 659060556, .int .i64 883997877, .int .i64 958139571, .int .i64 1322822218, .int .i64 1537002063, .int .i64 1747873779, .int .i64 1955562222, .int .i64 2024104815, .int .i64 2227730452, .int .i64 2361852424, .int .i64 2428436474, .int .i64 2756734187, .int .i64 3204031479, .int .i64 3329325298]
theorem refKv_eq : refKv.toList = natInts refK := rfl
theorem refK_lt : ∀ x ∈ refK, x < 4294967296 := by decide
set_option maxRecDepth 100000 in
set_option maxHeartbeats 4000000 in
theorem numbers_any (w : World) : Calls Tryz.prog 75 #[] w fun e w' => e = .returned (.slice (some ⟨w.heap.size, 0, none⟩) 64 64) ∧ w' = w.alloc (.cells refKv 3) := by
  go_enter Tryz.func75, Tryz.ntmps75
  go_wp2_with fail
  go_ret
  exact ⟨rfl, rfl⟩
end Go.Proofs.YtbohpffigmllkaaGreatDoor

/-
  The document's own sum: rows of numbers, and what the walk of Of leans on.
-/
namespace Go.Proofs.YtbohpffigmllkaaGreatDoor
open Go.RowKit

def wl (s : Sha.St) : List Nat := [s.a, s.b, s.c, s.d, s.e, s.f, s.g, s.z]
/-- a sum's bytes as the document has them -/
def sumB (s : Sha.St) : List UInt8 := (wl s).flatMap fun x => enc x 4
/-- a block of ints -/
structure RowI (g : Nat) (l : List Nat) (w : World) : Prop where
  cell : ∀ j, j < l.length → w.cell? ⟨g, j, none⟩ = some (.int .i64 ((l.getD j 0 : Nat) : Int))
  free : ∀ j, j < l.length → w.frozen? ⟨g, j, none⟩ = false
theorem RowI.below {g : Nat} {l : List Nat} {w w' : World} (h : RowI g l w) (hb : Below w.heap.size w w') : RowI g l w' :=
  ⟨fun j hj => by rw [hb.cell (p := ⟨g, j, none⟩) (World.block_lt_of_cell? w _ (h.cell j hj))]; exact h.cell j hj, fun j hj => by rw [hb.frozen (p := ⟨g, j, none⟩) (World.block_lt_of_cell? w _ (h.cell j hj))]; exact h.free j hj⟩
theorem RowI.drewN {g : Nat} {l : List Nat} {w : World} (h : RowI g l w) (n : Nat) : RowI g l (w.drewN n) := ⟨h.cell, h.free⟩
theorem RowI.of {w : World} {g : Nat} {l : List Nat} {t : TypeId} (h : w.heap[g]? = some (.cells (natInts l).toArray t)) : RowI g l w := by
  refine ⟨fun j hj => ?_, fun j hj => by simp [World.frozen?, h]⟩
  have := natInts_get l j hj
  simp only [World.cell?, h]
  simpa using this
theorem RowI.new (w : World) (l : List Nat) (t : TypeId) : RowI w.heap.size l (w.alloc (.cells (natInts l).toArray t)) := RowI.of (heap_alloc_new w _)
theorem RowI.set {g i : Nat} {l : List Nat} {w : World} (h : RowI g l w) (hi : i < l.length) (x : Nat) : RowI g (l.set i x) (w.setCell ⟨g, i, none⟩ (.int .i64 (x : Int))) := by
  have hl : (l.set i x).length = l.length := by simp
  refine ⟨fun j hj => ?_, fun j hj => ?_⟩
  · rw [hl] at hj
    by_cases e : j = i
    · subst e
      rw [World.cell?_setCell_same _ _ _ (h.cell j hj), List.getD_eq_getElem?_getD, List.getElem?_set_self hi]
      rfl
    · rw [World.cell?_setCell_other _ _ _ _ (fun e' => e (by have := congrArg Addr.off e'; exact this.symm)), h.cell j hj, List.getD_eq_getElem?_getD, List.getD_eq_getElem?_getD, List.getElem?_set_ne (fun e' => e e'.symm)]
  · rw [hl] at hj
    have := h.free j hj
    simpa using this
theorem RowI.apart {g b i : Nat} {l : List Nat} {w : World} (h : RowI g l w) (hne : g ≠ b) (v : Value) : RowI g l (w.setCell ⟨b, i, none⟩ v) :=
  ⟨fun j hj => by rw [World.cell?_setCell_other _ _ _ _ (fun e => hne (congrArg Addr.block e).symm)]; exact h.cell j hj, fun j hj => by have := h.free j hj; simpa using this⟩
theorem SS_lit : natInts (wl SS) = [.int .i64 1779033703, .int .i64 3144134277, .int .i64 1013904242, .int .i64 2773480762, .int .i64 1359893119, .int .i64 2600822924, .int .i64 528734635, .int .i64 1541459225] := rfl
theorem refK_KK (i : Nat) : refK.getD i 0 = KK i := rfl
theorem bits_enc (n : Nat) : Sha.bitsOf n = enc n 8 := by
  unfold Sha.bitsOf enc
  refine List.map_congr_left fun i hi => ?_
  have hi' : i < 8 := by simpa using hi
  have e : 2 ^ (56 - 8 * i) = 256 ^ (8 - 1 - i) := by
    rw [show (256 : Nat) = 2 ^ 8 from rfl, ← Nat.pow_mul]
    congr 1
    omega
  rw [e]
  apply UInt8.toNat_inj.1
  rw [UInt8.toNat_ofNat', UInt8.toNat_ofNat']
  omega
/-- the padded text, j noughts behind its bit -/
def padJ (s : ByteArray) (j : Nat) : ByteArray := ⟨(s.data.toList ++ 128 :: List.replicate j 0).toArray⟩
theorem padJ_size (s : ByteArray) (j : Nat) : (padJ s j).size = s.size + 1 + j := by
  show (s.data.toList ++ 128 :: List.replicate j 0).length = _
  simp
  omega
theorem padJ_zero (s : ByteArray) : s ++ ⟨#[128]⟩ = padJ s 0 := by
  apply ByteArray.ext
  apply Array.toList_inj.mp
  simp [padJ, ByteArray.data_append]
theorem padJ_succ (s : ByteArray) (j : Nat) : padJ s j ++ ⟨#[0]⟩ = padJ s (j + 1) := by
  apply ByteArray.ext
  apply Array.toList_inj.mp
  simp [padJ, ByteArray.data_append, List.replicate_succ']
/-- the whole text that is cut into blocks -/
def fullT (s : ByteArray) : ByteArray := ⟨(Sha.padded s.data.toList ++ Sha.bitsOf (8 * s.size)).toArray⟩
theorem fullT_eq (s : ByteArray) : padJ s (Sha.nulls s.size) ++ ⟨(enc (8 * s.size) 8).toArray⟩ = fullT s := by
  apply ByteArray.ext
  apply Array.toList_inj.mp
  simp [padJ, fullT, Sha.padded, ByteArray.data_append, bits_enc]
theorem fullT_size (s : ByteArray) : (fullT s).size = 64 * ((Sha.padded s.data.toList).length / 64 + 1) := by
  have h := Sha.padded_len s.data.toList
  show (Sha.padded s.data.toList ++ Sha.bitsOf (8 * s.size)).length = _
  rw [List.length_append, Sha.bitsOf_len]
  omega
theorem blk_of (T : ByteArray) (m j : Nat) (hj : j < 64) : blkOf (T.extract (64 * m) (64 * m + 64)) j = Sha.blkAt T.data.toList m j := by
  unfold blkOf Sha.blkAt
  rw [ByteArray.data_extract, Array.toList_extract, List.extract_eq_take_drop, List.getD_eq_getElem?_getD, List.getD_eq_getElem?_getD, List.getElem?_take_of_lt (by omega), List.getElem?_drop]
/-- the first j of eight sums are there -/
def addL (h s : List Nat) (j : Nat) : List Nat := (List.range 8).map fun i => if i < j then (h.getD i 0 + s.getD i 0) % 4294967296 else h.getD i 0
theorem addL_len (h s : List Nat) (j : Nat) : (addL h s j).length = 8 := by simp [addL]
theorem addL_zero (s r : Sha.St) : addL (wl s) (wl r) 0 = wl s := rfl
theorem addL_all (s r : Sha.St) : addL (wl s) (wl r) 8 = wl (Sha.plus s r) := rfl
theorem addL_get (h s : List Nat) (j i : Nat) (hi : i < 8) : (addL h s j).getD i 0 = if i < j then (h.getD i 0 + s.getD i 0) % 4294967296 else h.getD i 0 := by
  unfold addL
  rw [List.getD_eq_getElem?_getD, List.getElem?_map, List.getElem?_range hi]
  rfl
theorem addL_step (h s : List Nat) (j : Nat) : (addL h s j).set j ((h.getD j 0 + s.getD j 0) % 4294967296) = addL h s (j + 1) := by
  apply List.ext_getElem
  · simp [addL]
  · intro i h1 h2
    have hi : i < 8 := by simpa [addL] using h2
    rw [List.getElem_set]
    simp only [addL, List.getElem_map, List.getElem_range]
    by_cases e : j = i
    · subst e
      rw [if_pos rfl, if_pos (by omega)]
    · rw [if_neg e]
      by_cases h3 : i < j
      · rw [if_pos h3, if_pos (by omega)]
      · rw [if_neg h3, if_neg (by omega)]
theorem wl_lt {s : Sha.St} (h : s.ok) (i : Nat) : (wl s).getD i 0 < 4294967296 := by
  obtain ⟨ha, hb, hc, hd, he, hf, hg, hz⟩ := h
  refine Sha.getD_lt _ ?_ i
  intro x hx
  simp [wl] at hx
  rcases hx with rfl | rfl | rfl | rfl | rfl | rfl | rfl | rfl <;> assumption
theorem flat_next (l : List Nat) (j : Nat) (hj : j < l.length) : ((l.take j).flatMap fun x => enc x 4) ++ enc (l.getD j 0) 4 = (l.take (j + 1)).flatMap fun x => enc x 4 := by
  rw [List.take_succ_eq_append_getElem hj, List.flatMap_append, List.getD_eq_getElem?_getD, List.getElem?_eq_getElem hj]
  simp
theorem flat_len (l : List Nat) : (l.flatMap fun x => enc x 4).length = 4 * l.length := by
  induction l with
  | nil => rfl
  | cons a l ih => rw [List.flatMap_cons, List.length_append, enc_len, ih, List.length_cons]; omega
end Go.Proofs.YtbohpffigmllkaaGreatDoor

/-
  The document's own sum: Of, for every text: a contract.
-/
namespace Go.Proofs.YtbohpffigmllkaaGreatDoor
open Go.RowKit

def txtLen : Value → Nat
  | .string s => s.size
  | _ => 0
/-- the two rows while blocks are taken -/
structure OfR (w : World) (g gk : Nat) (l : List Nat) (wx : World) : Prop where
  h : RowI g l wx
  k : RowI gk refK wx
  ne : gk ≠ g
  lo : w.heap.size ≤ g
  below : Below w.heap.size w wx
theorem quiet_of2 {P : Program} {f : FuncId} {args : Array Value} {w : World} {q n : Nat} {v : Value}
    (h : Calls P f args (w.drewN (q + n)) fun e w' => e = .returned v ∧ ∃ m, w' = (w.drewN (q + n)).drewN m) : Calls P f args (w.drewN (q + n)) fun e w'' => e = .returned v ∧ ∃ m, w'' = w.drewN (q + m) :=
  h.mono fun _ _ ⟨he, m, hm⟩ => ⟨he, n + m, by rw [hm, World.drewN_drewN, Nat.add_assoc]⟩
theorem quiet_of2_same {P : Program} {f : FuncId} {args : Array Value} {w : World} {q n : Nat} {v : Value}
    (h : Calls P f args (w.drewN (q + n)) fun e w' => e = .returned v ∧ w' = w.drewN (q + n)) : Calls P f args (w.drewN (q + n)) fun e w'' => e = .returned v ∧ ∃ m, w'' = w.drewN (q + m) :=
  h.mono fun _ _ ⟨he, hm⟩ => ⟨he, n, hm⟩

theorem OfR.step {w : World} {g gk : Nat} {l : List Nat} {wx wy : World} (h : OfR w g gk l wx) (hb : Below wx.heap.size wx wy) : OfR w g gk l wy := ⟨h.h.below hb, h.k.below hb, h.ne, h.lo, h.below.trans (hb.mono h.below.size)⟩
theorem OfR.drewN {w : World} {g gk : Nat} {l : List Nat} {wx : World} (h : OfR w g gk l wx) (n : Nat) : OfR w g gk l (wx.drewN n) := ⟨h.h.drewN n, h.k.drewN n, h.ne, h.lo, below_drewN h.below n⟩
theorem OfR.set {w : World} {g gk i : Nat} {l : List Nat} {wx : World} (h : OfR w g gk l wx) (hi : i < l.length) (x : Nat) : OfR w g gk (l.set i x) (wx.setCell ⟨g, i, none⟩ (.int .i64 (x : Int))) := ⟨h.h.set hi x, h.k.apart h.ne _, h.ne, h.lo, h.below.setCell h.lo _⟩
theorem eightAt {g : Nat} {s : Sha.St} {w : World} (h : RowI g (wl s) w) : w.cell? ⟨g, 0, none⟩ = some (.int .i64 s.a) ∧ w.cell? ⟨g, 1, none⟩ = some (.int .i64 s.b) ∧ w.cell? ⟨g, 2, none⟩ = some (.int .i64 s.c) ∧ w.cell? ⟨g, 3, none⟩ = some (.int .i64 s.d) ∧ w.cell? ⟨g, 4, none⟩ = some (.int .i64 s.e) ∧ w.cell? ⟨g, 5, none⟩ = some (.int .i64 s.f) ∧ w.cell? ⟨g, 6, none⟩ = some (.int .i64 s.g) ∧ w.cell? ⟨g, 7, none⟩ = some (.int .i64 s.z) :=
  ⟨h.cell 0 (show 0 < 8 by decide), h.cell 1 (show 1 < 8 by decide), h.cell 2 (show 2 < 8 by decide), h.cell 3 (show 3 < 8 by decide), h.cell 4 (show 4 < 8 by decide), h.cell 5 (show 5 < 8 by decide), h.cell 6 (show 6 < 8 by decide), h.cell 7 (show 7 < 8 by decide)⟩
set_option maxRecDepth 100000 in
set_option maxHeartbeats 20000000 in
theorem refOf_any (s : ByteArray) (hs : s.size < 900000) (w : World) :
    Calls Tryz.prog 34 #[.string s] w fun e w' => e = .returned (.string ⟨(sumB (shaOf s.data.toList)).toArray⟩) ∧ Below w.heap.size w w' := by
  have hs0 : (s.size : Int) ≤ 900000 := by omega
  have HNul : Hid (∀ j, j ≤ Sha.nulls s.size → ((s.size + 1 + j) % 64 = 56 ↔ j = Sha.nulls s.size)) := Lib.hid fun j hj => by unfold Sha.nulls at *; omega
  have HNl : Hid (Sha.nulls s.size < 64) := Lib.hid (by unfold Sha.nulls; omega)
  have HFu := Lib.hid (fullT_eq s)
  have HFs := Lib.hid (fullT_size s)
  have HSha : Hid (shaOf s.data.toList = Sha.blocks KK SS (fullT s).data.toList ((Sha.padded s.data.toList).length / 64 + 1)) := Lib.hid (Sha.sha_blocks KK SS s.data.toList (by simpa using (by omega : s.size < 1000000)))
  have HPl : Hid ((Sha.padded s.data.toList).length / 64 + 1 < 100000) := Lib.hid (by
    have h1 : (Sha.padded s.data.toList).length = s.size + 1 + Sha.nulls s.size := by
      unfold Sha.padded
      have : s.data.toList.length = s.size := by simp
      simp only [List.length_append, List.length_cons, List.length_replicate, this]
      omega
    have := HNl.out
    omega)
  have HBy : Hid (∀ wx : World, Calls Tryz.prog 74 #[.int .i64 (8 * (s.size : Int)), .int .i64 8] wx fun e w' => e = .returned (.string ⟨(enc (8 * s.size) 8).toArray⟩) ∧ Below wx.heap.size wx w') := Lib.hid fun wx => by
    have := refBytes_any (8 * s.size) 8 (by omega) (by decide) wx
    rw [show ((8 * s.size : Nat) : Int) = 8 * (s.size : Int) by omega] at this
    exact this
  have HEz : Hid ((⟨(enc (8 * s.size) 8).toArray⟩ : ByteArray).size = 8) := Lib.hid (enc_len _ _)
  rw [HSha.out]
  clear HSha
  generalize (⟨(enc (8 * s.size) 8).toArray⟩ : ByteArray) = EN at *
  generalize (Sha.padded s.data.toList).length / 64 + 1 = NB at *
  generalize fullT s = T at *
  have HL0 := Lib.hid (RowI.new w (wl SS) 3)
  rw [SS_lit] at HL0
  have HB0 : Hid (Below w.heap.size w (w.alloc (.cells #[.int .i64 1779033703, .int .i64 3144134277, .int .i64 1013904242, .int .i64 2773480762, .int .i64 1359893119, .int .i64 2600822924, .int .i64 528734635, .int .i64 1541459225] 3))) := Lib.hid ((Below.refl _ _).alloc (Nat.le_refl _) _)
  have hrun0 : ∀ wx : World, (Op.stringOp .add s ⟨#[128]⟩).run Tryz.prog wx = .ok (.string (padJ s 0)) wx := fun wx => by
    rw [← padJ_zero]
    exact run_string_add_sum wx _ _ (by show s.size + 1 ≤ _; omega)
  go_enter Tryz.func34, Tryz.ntmps34
  go_wp2_with fail
  generalize hw0 : w.alloc (.cells #[.int .i64 1779033703, .int .i64 3144134277, .int .i64 1013904242, .int .i64 2773480762, .int .i64 1359893119, .int .i64 2600822924, .int .i64 528734635, .int .i64 1541459225] 3) = w0 at *
  have hw0s : w.heap.size < w0.heap.size := by rw [← hw0]; simp
  have HW0 := Lib.hid hw0s
  clear hw0 hw0s
  go_loop [4] (fun t => ∃ j : Nat, j ≤ Sha.nulls s.size ∧ t = .string (padJ s j)) (fun t => 900200 - txtLen t)
  case atStart => exact ⟨0, by omega, rfl⟩
  case round =>
    obtain ⟨j, hj, rfl⟩ := hrel
    have hsz := padJ_size s j
    have hiff := HNul.out j hj
    have hn := HNl.out
    by_cases hq : j = Sha.nulls s.size
    · have hm : ((padJ s j).size : Int) % 64 = 56 := by have := hiff.2 hq; omega
      have hm2 : (((padJ s j).size : Int) % 64 == 56) = true := by rw [beq_iff_eq]; exact hm
      have HM2 : Hid (((padJ s j).size : Int) % 64 = 56) := Lib.hid hm
      have hm3 : (((padJ s j).size : Int) % 64 != 56) = false := by simp [hm]
      have hz0 : (padJ s j).size ≤ 900100 := by omega
      have HT : Hid (padJ s j ++ EN = T) := Lib.hid (by rw [hq]; exact HFu.out)
      generalize padJ s j = P at *
      clear hsz hiff hn hj hq hm HM2 HNul HFu
      have hrun1 : ∀ wx : World, (Op.stringOp .add P EN).run Tryz.prog wx = .ok (.string T) wx := fun wx => by
        rw [← HT.out]
        exact run_string_add_sum wx _ _ (by have := HEz.out; omega)
      clear hz0
      go_wp2_with fail
      refine (HBy.out _).mono ?_
      rintro e w1 ⟨rfl, hb1⟩
      have HL1 := Lib.hid (HL0.out.below hb1)
      have HB1 := Lib.hid (HB0.out.trans (hb1.mono HB0.out.size))
      have HW1 : Hid (w.heap.size < w1.heap.size) := Lib.hid (Nat.lt_of_lt_of_le HW0.out hb1.size)
      clear hb1 HL0 HB0 HBy HT HW0
      go_wp2_with fail
      refine (numbers_any w1).mono ?_
      rintro e w2 ⟨rfl, rfl⟩
      have HR0 : Hid (OfR w w.heap.size w1.heap.size (wl (Sha.blocks KK SS T.data.toList 0)) (w1.alloc (.cells refKv 3))) := Lib.hid ⟨(HL1.out).below ((Below.refl _ _).alloc (Nat.le_refl _) _), RowI.new w1 refK 3, by have := HW1.out; omega, Nat.le_refl _, HB1.out.alloc HB1.out.size _⟩
      generalize w1.alloc (.cells refKv 3) = w2 at *
      generalize w1.heap.size = gk at *
      have hTs : (T.size : Int) = 64 * (NB : Int) := by have := HFs.out; omega
      have hNB : (NB : Int) ≤ 100000 := by have := HPl.out; omega
      have HTs := Lib.hid (And.intro hTs hNB)
      have hTb : (T.size : Int) ≤ 6400000 := by omega
      clear HL1 HB1 HW1 hm2 hm3 hrun0 hrun1 hTs hNB
      go_wp2_with fail
      go_loopw [6] (fun at' wx => ∃ m : Nat, ∃ A : Int, m ≤ NB ∧ A = 64 * m ∧ at' = .int .i64 A ∧ OfR w w.heap.size gk (wl (Sha.blocks KK SS T.data.toList m)) wx) (fun at' _ => (64 * (NB : Int) - intOf at').toNat)
      case atStart => exact ⟨0, 0, by omega, by omega, rfl, HR0.out⟩
      case round =>
        obtain ⟨m, A, hm, hA, rfl, hr⟩ := hrel
        have HR := Lib.hid hr
        clear hr HR0
        by_cases hlt : m < NB
        · have i0 : (0 : Int) ≤ A := by omega
          have i1 : A < (T.size : Int) := by have := HTs.out.1; omega
          have i2 : A + 64 ≤ (T.size : Int) := by have := HTs.out.1; omega
          obtain ⟨a, ha⟩ : ∃ a, 64 * m = a := ⟨_, rfl⟩
          have hA1 : A.toNat = a := by omega
          have hA2 : (A + 64).toNat = a + 64 := by omega
          have HMA := Lib.hid (And.intro hlt (And.intro hA ha))
          have hxs : (T.extract a (a + 64)).size = 64 := by rw [ByteArray.size_extract]; have := HFs.out; omega
          have HWo := Lib.hid fun wx => refWords_any (T.extract a (a + 64)) hxs wx
          have hws : Sha.ws (blkOf (T.extract a (a + 64))) 48 = Sha.ws (Sha.blkAt T.data.toList m) 48 := Sha.ws_congr (fun j hj => by rw [← ha]; exact blk_of T m j hj) 48
          rw [hws] at HWo
          have hok := Sha.blocks_ok KK SS_ok T.data.toList m
          have HNx : Hid (Sha.blocks KK SS T.data.toList (m + 1) = Sha.comp KK (Sha.blocks KK SS T.data.toList m) (Sha.blkAt T.data.toList m)) := Lib.hid rfl
          unfold Sha.comp at HNx
          have hwl := Sha.ws_len (Sha.blkAt T.data.toList m) 48
          have hwlt := fun i => Sha.ws_lt (Sha.blkAt T.data.toList m) (Sha.blkAt_lt T.data.toList m) 48 i
          have HWl := Lib.hid (And.intro hwl hwlt)
          obtain ⟨St1, hSt1⟩ : ∃ x, x = Sha.blocks KK SS T.data.toList (m + 1) := ⟨_, rfl⟩
          rw [← hSt1] at HNx
          have HSt1 := Lib.hid hSt1
          clear hSt1
          generalize Sha.blocks KK SS T.data.toList m = St at *
          generalize Sha.ws (Sha.blkAt T.data.toList m) 48 = WL at *
          clear hws hxs hlt hA ha hm hwl hwlt
          go_wp2_with fail
          refine (HWo.out wr).mono ?_
          rintro e w3 ⟨v, rfl, hown, hb3⟩
          have HR3 := Lib.hid (HR.out.step hb3)
          obtain ⟨gw, capw, rfl, hcapw, hcw⟩ := rowSome hown (by decide)
          rw [HWl.out.1] at hcw
          have HCw : Hid (∀ j, j < 64 → w3.cell? ⟨gw, j, none⟩ = some (.int .i64 ((WL.getD j 0 : Nat) : Int))) := Lib.hid hcw
          obtain ⟨k0, k1, k2, k3, k4, k5, k6, k7⟩ := eightAt HR3.out.h
          clear hb3 hown hcw HR HWo hA1 hA2
          go_upto_region 11 with fail
          go_quiet (fail)
          have HRq := Lib.hid (HR3.out.drewN nq)
          have HCq : Hid (∀ j, j < 64 → (w3.drewN nq).cell? ⟨gw, j, none⟩ = some (.int .i64 ((WL.getD j 0 : Nat) : Int))) := Lib.hid HCw.out
          generalize w3.drewN nq = wB at *
          clear k0 k1 k2 k3 k4 k5 k6 k7 HR3 HCw
          have HOk := Lib.hid hok
          have HWb : Hid (∀ i, WL.getD i 0 < 4294967296) := Lib.hid HWl.out.2
          have hcap64 : (64 : Int) ≤ (capw : Int) := by omega
          clear hok HWl hcapw
          obtain ⟨WF, hWF⟩ : ∃ WF : Nat → Nat, (fun i => WL.getD i 0) = WF := ⟨_, rfl⟩
          have HWF : Hid (∀ i, WL.getD i 0 = WF i) := Lib.hid fun i => by rw [← hWF]
          rw [hWF] at HNx
          clear hWF
          go_wp2_with fail
          go_loopw [8, 9, 10, 11, 12, 13, 14, 15, 16] (fun va vb vc vd ve vf vg vz i wx => ∃ n : Nat, ∃ s' : Sha.St, s' = Sha.rnds KK WF St n ∧ n ≤ 64 ∧ i = .int .i64 n ∧ va = .int .i64 s'.a ∧ vb = .int .i64 s'.b ∧ vc = .int .i64 s'.c ∧ vd = .int .i64 s'.d ∧ ve = .int .i64 s'.e ∧ vf = .int .i64 s'.f ∧ vg = .int .i64 s'.g ∧ vz = .int .i64 s'.z ∧ ∃ q, wx = wB.drewN q) (fun _ _ _ _ _ _ _ _ i _ => 64 - (intOf i).toNat)
          case atStart => exact ⟨0, St, rfl, by omega, rfl, rfl, rfl, rfl, rfl, rfl, rfl, rfl, rfl, 0, rfl⟩
          case round =>
            obtain ⟨n, s', hs', hn, rfl, rfl, rfl, rfl, rfl, rfl, rfl, rfl, rfl, q, rfl⟩ := hrel
            have hok' : s'.ok := by rw [hs']; exact Sha.rnds_ok HOk.out n
            have HS' := Lib.hid hs'
            clear hs'
            by_cases hlt : n < 64
            · have i0 : (0 : Int) ≤ (n : Int) ∧ (n : Int) < 64 := by omega
              have HNext : Hid (Sha.rnd (KK n) (WF n) s' = Sha.rnds KK WF St (n + 1)) := Lib.hid (by
                show _ = Sha.rnd (KK n) (WF n) (Sha.rnds KK WF St n)
                rw [← HS'.out])
              have ck : wB.cell? ⟨gk, n, none⟩ = some (.int .i64 ((KK n : Nat) : Int)) := HRq.out.k.cell n hlt
              have cw : wB.cell? ⟨gw, n, none⟩ = some (.int .i64 ((WF n : Nat) : Int)) := by
                rw [← HWF.out n]
                exact HCq.out n hlt
              have lk := KK_lt n
              have lw : WF n < 4294967296 := by rw [← HWF.out n]; exact HWb.out n
              have HLt := Lib.hid hlt
              generalize KK n = K at *
              generalize WF n = Wn at *
              obtain ⟨la, lb, lc, ld, le, lf, lg, lz⟩ := hok'
              have HRf := Lib.hid (Sha.rnd_ref K Wn s' _ _ rfl rfl)
              obtain ⟨a', b', c', d', e', f', g', z'⟩ := s'
              dsimp only at *
              -- the choice
              have t1 := i64_and_nat e' f' (Sha.small le) (Sha.small lf)
              have t2 : bits .and .i64 (4294967295 - (e' : Int)) (g' : Int) = (((4294967295 - e') &&& g' : Nat) : Int) := by
                rw [show (4294967295 : Int) - (e' : Int) = ((4294967295 - e' : Nat) : Int) by omega]
                exact i64_and_nat _ _ (by omega) (Sha.small lg)
              have t3 := Sha.ch_sum e' f' g' le lf lg
              have t4 : e' &&& f' < 4294967296 := Sha.and_lt lf
              have t5 : (4294967295 - e') &&& g' < 4294967296 := Sha.and_lt lg
              have lch := Sha.ch_lt (e := e') (g := g') lf
              generalize e' &&& f' = X1 at *
              generalize (4294967295 - e') &&& g' = X2 at *
              generalize Sha.ch e' f' g' = CH at *
              have hcs : (X1 : Int) + (X2 : Int) = (CH : Int) := by omega
              -- most
              have m1 := i64_and_nat a' b' (Sha.small la) (Sha.small lb)
              have m2 := i64_and_nat a' c' (Sha.small la) (Sha.small lc)
              have m3 := i64_and_nat b' c' (Sha.small lb) (Sha.small lc)
              have lm1 : a' &&& b' < 4294967296 := Sha.and_lt lb
              have lm2 : a' &&& c' < 4294967296 := Sha.and_lt lc
              have lm3 : b' &&& c' < 4294967296 := Sha.and_lt lc
              have m4 := i64_or_nat _ _ (Sha.small lm1) (Sha.small lm2)
              have m5 : bits .or .i64 ((a' &&& b' ||| a' &&& c' : Nat) : Int) ((b' &&& c' : Nat) : Int) = ((Sha.maj a' b' c' : Nat) : Int) := i64_or_nat _ _ (Sha.small (Sha.or_lt lm1 lm2)) (Sha.small lm3)
              have lmj := Sha.maj_lt (a := a') lb lc
              generalize a' &&& b' ||| a' &&& c' = M12 at *
              generalize a' &&& b' = M1 at *
              generalize a' &&& c' = M2 at *
              generalize b' &&& c' = M3 at *
              generalize Sha.maj a' b' c' = MJ at *
              -- turns
              have HT6 := Lib.hid fun wx => turn6 e' le wx
              have HT11 := Lib.hid fun wx => turn11 e' le wx
              have HT25 := Lib.hid fun wx => turn25 e' le wx
              have HT2 := Lib.hid fun wx => turn2 a' la wx
              have HT13 := Lib.hid fun wx => turn13 a' la wx
              have HT22 := Lib.hid fun wx => turn22 a' la wx
              have r6 := Sha.rotr_lt 6 le
              have r11 := Sha.rotr_lt 11 le
              have r25 := Sha.rotr_lt 25 le
              have r2 := Sha.rotr_lt 2 la
              have r13 := Sha.rotr_lt 13 la
              have r22 := Sha.rotr_lt 22 la
              have y1 := i64_xor_nat _ _ (Sha.small r6) (Sha.small r11)
              have y2 : bits .xor .i64 ((Sha.rotr e' 6 ^^^ Sha.rotr e' 11 : Nat) : Int) ((Sha.rotr e' 25 : Nat) : Int) = ((Sha.b1 e' : Nat) : Int) := i64_xor_nat _ _ (Sha.small (Sha.xor_lt r6 r11)) (Sha.small r25)
              have y3 := i64_xor_nat _ _ (Sha.small r2) (Sha.small r13)
              have y4 : bits .xor .i64 ((Sha.rotr a' 2 ^^^ Sha.rotr a' 13 : Nat) : Int) ((Sha.rotr a' 22 : Nat) : Int) = ((Sha.b0 a' : Nat) : Int) := i64_xor_nat _ _ (Sha.small (Sha.xor_lt r2 r13)) (Sha.small r22)
              have lb1 := Sha.b1_lt le
              have lb0 := Sha.b0_lt la
              generalize Sha.rotr e' 6 ^^^ Sha.rotr e' 11 = XE at *
              generalize Sha.rotr a' 2 ^^^ Sha.rotr a' 13 = XA at *
              generalize Sha.rotr e' 6 = R6 at *
              generalize Sha.rotr e' 11 = R11 at *
              generalize Sha.rotr e' 25 = R25 at *
              generalize Sha.rotr a' 2 = R2 at *
              generalize Sha.rotr a' 13 = R13 at *
              generalize Sha.rotr a' 22 = R22 at *
              generalize Sha.b1 e' = B1 at *
              generalize Sha.b0 a' = B0 at *
              -- sums
              have lXX : (z' + B1 + CH + K + Wn) % 4294967296 < 4294967296 := Nat.mod_lt _ (by decide)
              have lYY : (B0 + MJ) % 4294967296 < 4294967296 := Nat.mod_lt _ (by decide)
              have HWd1 : Hid (∀ wx : World, Calls Tryz.prog 77 #[.int .i64 ((z' : Int) + (B1 : Int) + (CH : Int) + (K : Int) + (Wn : Int))] wx fun e w' => e = .returned (.int .i64 (((z' + B1 + CH + K + Wn) % 4294967296 : Nat) : Int)) ∧ w' = wx) := Lib.hid fun wx => by
                have := word_any (z' + B1 + CH + K + Wn) (by omega) wx
                rw [show ((z' + B1 + CH + K + Wn : Nat) : Int) = (z' : Int) + (B1 : Int) + (CH : Int) + (K : Int) + (Wn : Int) by omega] at this
                exact this.mono fun _ _ ⟨h1, h2⟩ => ⟨h1, h2.symm⟩
              have HWd2 : Hid (∀ wx : World, Calls Tryz.prog 77 #[.int .i64 ((B0 : Int) + (MJ : Int))] wx fun e w' => e = .returned (.int .i64 (((B0 + MJ) % 4294967296 : Nat) : Int)) ∧ wx = w') := Lib.hid fun wx => by
                have := word_any (B0 + MJ) (by omega) wx
                rw [show ((B0 + MJ : Nat) : Int) = (B0 : Int) + (MJ : Int) by omega] at this
                exact this
              generalize (z' + B1 + CH + K + Wn) % 4294967296 = XX at *
              generalize (B0 + MJ) % 4294967296 = YY at *
              have HWd3 : Hid (∀ wx : World, Calls Tryz.prog 77 #[.int .i64 ((d' : Int) + (XX : Int))] wx fun e w' => e = .returned (.int .i64 (((d' + XX) % 4294967296 : Nat) : Int)) ∧ wx = w') := Lib.hid fun wx => by
                have := word_any (d' + XX) (by omega) wx
                rw [show ((d' + XX : Nat) : Int) = (d' : Int) + (XX : Int) by omega] at this
                exact this
              have HWd4 : Hid (∀ wx : World, Calls Tryz.prog 77 #[.int .i64 ((XX : Int) + (YY : Int))] wx fun e w' => e = .returned (.int .i64 (((XX + YY) % 4294967296 : Nat) : Int)) ∧ wx = w') := Lib.hid fun wx => by
                have := word_any (XX + YY) (by omega) wx
                rw [show ((XX + YY : Nat) : Int) = (XX : Int) + (YY : Int) by omega] at this
                exact this
              generalize (d' + XX) % 4294967296 = D1 at *
              generalize (XX + YY) % 4294967296 = A1 at *
              have f1 : IntKind.i64.wrap ((z' : Int) + (B1 : Int)) = (z' : Int) + (B1 : Int) := IntWalk.i64_in _ (by omega)
              have f2 : IntKind.i64.wrap ((z' : Int) + (B1 : Int) + (CH : Int)) = (z' : Int) + (B1 : Int) + (CH : Int) := IntWalk.i64_in _ (by omega)
              have f3 : IntKind.i64.wrap ((z' : Int) + (B1 : Int) + (CH : Int) + (K : Int)) = (z' : Int) + (B1 : Int) + (CH : Int) + (K : Int) := IntWalk.i64_in _ (by omega)
              have f4 : IntKind.i64.wrap ((z' : Int) + (B1 : Int) + (CH : Int) + (K : Int) + (Wn : Int)) = (z' : Int) + (B1 : Int) + (CH : Int) + (K : Int) + (Wn : Int) := IntWalk.i64_in _ (by omega)
              have HFf := Lib.hid (And.intro f1 (And.intro f2 (And.intro f3 f4)))
              have j0 : (e' : Int) ≤ 4294967295 := by omega
              have j1 : (X1 : Int) ≤ 4294967295 := by omega
              have j2 : (X2 : Int) ≤ 4294967295 := by omega
              have j3 : (B0 : Int) ≤ 4294967295 := by omega
              have j4 : (MJ : Int) ≤ 4294967295 := by omega
              have j5 : (d' : Int) ≤ 4294967295 := by omega
              have j6 : (XX : Int) ≤ 4294967295 := by omega
              have j7 : (YY : Int) ≤ 4294967295 := by omega
              clear f1 f2 f3 f4 t3 t4 t5 lch lm1 lm2 lm3 lmj r6 r11 r25 r2 r13 r22 lb1 lb0 lXX lYY la lb lc ld le lf lg lz lk lw hlt
              go_upto_region 17 with fail
              obtain ⟨f1, f2, f3, f4⟩ := HFf.out
              go_quiet ((first
                | (go_at_call 78; with_reducible exact quiet_of2 (HT6.out _))
                | (go_at_call 78; with_reducible exact quiet_of2 (HT11.out _))
                | (go_at_call 78; with_reducible exact quiet_of2 (HT25.out _))
                | (go_at_call 77; with_reducible exact quiet_of2_same (HWd1.out _))))
              clear f1 f2 f3 f4 t1 t2 m1 m2 m3 m4 m5 y1 y2 hcs ck cw
              go_wp2_with (first
                | (go_at_call 78; with_reducible refine (HT2.out _).mono ?_; rintro e w' ⟨rfl, n2, rfl⟩)
                | (go_at_call 78; with_reducible refine (HT13.out _).mono ?_; rintro e w' ⟨rfl, n13, rfl⟩)
                | (go_at_call 78; with_reducible refine (HT22.out _).mono ?_; rintro e w' ⟨rfl, n22, rfl⟩)
                | (go_at_call 77; with_reducible refine (HWd2.out _).mono ?_; rintro e w' ⟨rfl, rfl⟩)
                | (go_at_call 77; with_reducible refine (HWd3.out _).mono ?_; rintro e w' ⟨rfl, rfl⟩)
                | (go_at_call 77; with_reducible refine (HWd4.out _).mono ?_; rintro e w' ⟨rfl, rfl⟩))
              refine ⟨⟨n + 1, _, HRf.out.symm.trans HNext.out, by have := HLt.out; omega, rfl, rfl, rfl, rfl, rfl, rfl, rfl, rfl, rfl, _, rfl⟩, ?_⟩
              show 64 - ((n : Int) + 1).toNat < 64 - (n : Int).toNat
              have := HLt.out
              omega
            · --EXIT3
              have hn2 : n = 64 := by omega
              have i0 : ¬ ((n : Int) < 64) := by omega
              have HPl2 : Hid (St1 = Sha.plus St s') := Lib.hid (by
                have h1 := HS'.out
                rw [hn2] at h1
                rw [HNx.out, ← h1])
              have HRc := Lib.hid (HRq.out.drewN q)
              have Hk1 := Lib.hid hok'
              have Hk0 := HOk
              generalize wB.drewN q = wC at *
              have Hg2 : Hid (w.heap.size < wC.heap.size) := Lib.hid (World.block_lt_of_cell? wC _ (HRc.out.h.cell 0 (by show 0 < 8; decide)))
              have HC : Hid (RowI wC.heap.size (wl s') (wC.alloc (.cells #[.int .i64 s'.a, .int .i64 s'.b, .int .i64 s'.c, .int .i64 s'.d, .int .i64 s'.e, .int .i64 s'.f, .int .i64 s'.g, .int .i64 s'.z] 3))) := Lib.hid (RowI.new wC (wl s') _)
              have HO : Hid (OfR w w.heap.size gk (wl St) (wC.alloc (.cells #[.int .i64 s'.a, .int .i64 s'.b, .int .i64 s'.c, .int .i64 s'.d, .int .i64 s'.e, .int .i64 s'.f, .int .i64 s'.g, .int .i64 s'.z] 3))) := Lib.hid (HRc.out.step ((Below.refl _ _).alloc (Nat.le_refl _) _))
              clear hok' hn2 hlt hn HS' HNx HRq HRc HCq HWF HWb
              go_wp2_with fail
              generalize wC.alloc (.cells #[.int .i64 s'.a, .int .i64 s'.b, .int .i64 s'.c, .int .i64 s'.d, .int .i64 s'.e, .int .i64 s'.f, .int .i64 s'.g, .int .i64 s'.z] 3) = wD at *
              generalize wC.heap.size = g2 at *
              go_loopw [159] (fun t wx => ∃ j : Nat, j ≤ 8 ∧ t = .int .i64 j ∧ OfR w w.heap.size gk (addL (wl St) (wl s') j) wx ∧ RowI g2 (wl s') wx) (fun t _ => 8 - (intOf t).toNat)
              case atStart => exact ⟨0, by omega, rfl, HO.out, HC.out⟩
              case round =>
                obtain ⟨j, hj, rfl, ho, hc⟩ := hrel
                have HO4 := Lib.hid ho
                have HC4 := Lib.hid hc
                clear ho hc HO HC
                by_cases hlt : j < 8
                · have i0 : (0 : Int) ≤ (j : Int) ∧ (j : Int) < 8 := by omega
                  have hl8 : j < (addL (wl St) (wl s') j).length := by rw [addL_len]; exact hlt
                  have c1 := HC4.out.cell j hlt
                  have c2 := HO4.out.h.cell j hl8
                  rw [addL_get _ _ _ _ hlt, if_neg (Nat.lt_irrefl j)] at c2
                  have fz := HO4.out.h.free j hl8
                  have lH := wl_lt Hk0.out j
                  have lV := wl_lt Hk1.out j
                  have HSt : Hid (OfR w w.heap.size gk (addL (wl St) (wl s') (j + 1)) (wr.setCell ⟨w.heap.size, j, none⟩ (.int .i64 ((((wl St).getD j 0 + (wl s').getD j 0) % 4294967296 : Nat) : Int)))) := Lib.hid (by
                    have := HO4.out.set (i := j) hl8 (((wl St).getD j 0 + (wl s').getD j 0) % 4294967296)
                    rw [addL_step] at this
                    exact this)
                  have HCt : Hid (RowI g2 (wl s') (wr.setCell ⟨w.heap.size, j, none⟩ (.int .i64 ((((wl St).getD j 0 + (wl s').getD j 0) % 4294967296 : Nat) : Int)))) := Lib.hid (HC4.out.apart (by have := Hg2.out; omega) _)
                  have HWd : Hid (∀ wx : World, Calls Tryz.prog 77 #[.int .i64 (((wl St).getD j 0 : Nat) + ((wl s').getD j 0 : Nat) : Int)] wx fun e w' => e = .returned (.int .i64 ((((wl St).getD j 0 + (wl s').getD j 0) % 4294967296 : Nat) : Int)) ∧ wx = w') := Lib.hid fun wx => by
                    have := word_any ((wl St).getD j 0 + (wl s').getD j 0) (by omega) wx
                    rw [show (((wl St).getD j 0 + (wl s').getD j 0 : Nat) : Int) = ((wl St).getD j 0 : Nat) + ((wl s').getD j 0 : Nat) by omega] at this
                    exact this
                  generalize ((wl St).getD j 0 + (wl s').getD j 0) % 4294967296 = X at *
                  generalize (wl St).getD j 0 = H at *
                  generalize (wl s').getD j 0 = V at *
                  have j0 : (H : Int) ≤ 4294967295 := by omega
                  have j1 : (V : Int) ≤ 4294967295 := by omega
                  clear lH lV hl8
                  go_wp2_with (go_at_call 77; with_reducible refine (HWd.out _).mono ?_; rintro e w' ⟨rfl, rfl⟩)
                  refine ⟨⟨j + 1, by omega, rfl, HSt.out, HCt.out⟩, ?_⟩
                  show 8 - ((j : Int) + 1).toNat < 8 - (j : Int).toNat
                  omega
                · have hj8 : j = 8 := by omega
                  have i0 : ¬ ((j : Int) < 8) := by omega
                  have HO5 : Hid (OfR w w.heap.size gk (wl St1) wr) := Lib.hid (by
                    have h := HO4.out
                    rw [hj8, addL_all] at h
                    rw [HPl2.out]
                    exact h)
                  clear hj8 hlt hj
                  go_wp2_with fail
                  refine ⟨⟨m + 1, A + 64, by have := HMA.out.1; omega, by have := HMA.out.2.1; omega, rfl, by rw [← HSt1.out]; exact HO5.out⟩, ?_⟩
                  show (64 * (NB : Int) - (A + 64)).toNat < (64 * (NB : Int) - A).toNat
                  have := HMA.out.1
                  have := HMA.out.2.1
                  omega
        · --EXIT2
          have hmN : m = NB := by omega
          have i0 : ¬ (A < (T.size : Int)) := by have := HTs.out.1; omega
          rw [hmN] at HR
          have HkF := Lib.hid (Sha.blocks_ok KK SS_ok T.data.toList NB)
          obtain ⟨F, hF⟩ : ∃ x, x = Sha.blocks KK SS T.data.toList NB := ⟨_, rfl⟩
          rw [← hF] at HR HkF
          have HF := Lib.hid hF
          clear hF
          clear hmN hlt hA hm
          go_wp2_with fail
          go_loopw [23, 177] (fun p t wx => ∃ j : Nat, j ≤ 8 ∧ t = .int .i64 j ∧ p = .string ⟨(((wl F).take j).flatMap fun x => enc x 4).toArray⟩ ∧ OfR w w.heap.size gk (wl F) wx) (fun _ t _ => 8 - (intOf t).toNat)
          case atStart => exact ⟨0, by omega, rfl, rfl, HR.out⟩
          case round =>
            obtain ⟨j, hj, rfl, rfl, ho⟩ := hrel
            have HO6 := Lib.hid ho
            clear ho HR
            by_cases hlt : j < 8
            · have i0 : (0 : Int) ≤ (j : Int) ∧ (j : Int) < 8 := by omega
              have c1 := HO6.out.h.cell j hlt
              have lF := wl_lt HkF.out j
              have HBt : Hid (∀ wx : World, Calls Tryz.prog 74 #[.int .i64 (((wl F).getD j 0 : Nat) : Int), .int .i64 4] wx fun e w' => e = .returned (.string ⟨(enc ((wl F).getD j 0) 4).toArray⟩) ∧ Below wx.heap.size wx w') := Lib.hid fun wx => refBytes_any ((wl F).getD j 0) 4 (by omega) (by decide) wx
              have hP : (⟨(((wl F).take j).flatMap fun x => enc x 4).toArray⟩ : ByteArray) ++ ⟨(enc ((wl F).getD j 0) 4).toArray⟩ = ⟨(((wl F).take (j + 1)).flatMap fun x => enc x 4).toArray⟩ := by
                rw [← flat_next (wl F) j hlt]
                apply ByteArray.ext
                apply Array.toList_inj.mp
                simp [ByteArray.data_append]
              have hs1 : (⟨(((wl F).take j).flatMap fun x => enc x 4).toArray⟩ : ByteArray).size ≤ 32 := by
                show ((((wl F).take j).flatMap fun x => enc x 4)).length ≤ 32
                rw [flat_len, List.length_take]
                omega
              have hs2 : (⟨(enc ((wl F).getD j 0) 4).toArray⟩ : ByteArray).size = 4 := enc_len _ _
              obtain ⟨P2, hP2⟩ : ∃ x, x = (⟨(((wl F).take (j + 1)).flatMap fun x => enc x 4).toArray⟩ : ByteArray) := ⟨_, rfl⟩
              rw [← hP2] at hP
              have HP2 := Lib.hid hP2
              clear hP2
              generalize (⟨(((wl F).take j).flatMap fun x => enc x 4).toArray⟩ : ByteArray) = P1 at *
              generalize (⟨(enc ((wl F).getD j 0) 4).toArray⟩ : ByteArray) = Q at *
              generalize (wl F).getD j 0 = V at *
              have hrun2 : ∀ wx : World, (Op.stringOp .add P1 Q).run Tryz.prog wx = .ok (.string P2) wx := fun wx => by
                rw [← hP]
                exact run_string_add_sum wx _ _ (by omega)
              clear lF hP hs1 hs2
              go_wp2_with fail
              with_reducible refine (HBt.out _).mono ?_
              rintro e w5 ⟨rfl, hb5⟩
              have HO7 := Lib.hid (HO6.out.step hb5)
              clear hb5 c1
              go_wp2_with fail
              refine ⟨⟨j + 1, by omega, rfl, congrArg Value.string HP2.out, HO7.out⟩, ?_⟩
              show 8 - ((j : Int) + 1).toNat < 8 - (j : Int).toNat
              omega
            · have hj8 : j = 8 := by omega
              have i0 : ¬ ((j : Int) < 8) := by omega
              have hP : (⟨(((wl F).take j).flatMap fun x => enc x 4).toArray⟩ : ByteArray) = ⟨(sumB F).toArray⟩ := by rw [hj8]; rfl
              have HB9 := Lib.hid HO6.out.below
              rw [hP]
              clear hj8 hlt hj hP
              go_wp2_with fail
              go_ret
              refine ⟨?_, HB9.out⟩
              rw [HF.out]
              rfl
    · have hm : ¬ ((padJ s j).size : Int) % 64 = 56 := by
        intro e
        exact hq (hiff.1 (by omega))
      have hm2 : (((padJ s j).size : Int) % 64 == 56) = false := by rw [beq_eq_false_iff_ne]; exact hm
      have hm3 : (((padJ s j).size : Int) % 64 != 56) = true := by simp [hm]
      have HMs : Hid (900200 - (padJ s (j + 1)).size < 900200 - (padJ s j).size) := Lib.hid (by rw [padJ_size, padJ_size]; omega)
      have hrun : ∀ wx : World, (Op.stringOp .add (padJ s j) ⟨#[0]⟩).run Tryz.prog wx = .ok (.string (padJ s (j + 1))) wx := fun wx => by
        rw [← padJ_succ]
        exact run_string_add_sum wx _ _ (by show (padJ s j).size + 1 ≤ _; omega)
      have HJ : Hid (j + 1 ≤ Sha.nulls s.size) := Lib.hid (by omega)
      clear hsz hiff hn hj hq
      generalize hP1 : padJ s (j + 1) = P1 at *
      have HP1 := Lib.hid hP1
      generalize padJ s j = P at *
      clear hm hP1
      go_wp2_with fail
      go_round
      case rel => exact ⟨j + 1, HJ.out, by rw [HP1.out]⟩
      case measure => exact HMs.out
end Go.Proofs.YtbohpffigmllkaaGreatDoor
