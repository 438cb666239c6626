/-
  The plain mathematics of the document's own sum: words as whole numbers, one round, a word of four bytes.
-/
import Derived.Test.YtfmhcomebjggoaaDoorRows
import Derived.Test.YtfmhcomebjggoaaDoorShaMath
import Derived.WalkKit
import Derived.WalkSpells
import Derived.WalkLawsBesides
import Derived.Lib.Hide
import Derived.Laws.BitsAllLaws
import Derived.Laws.ShiftsVarLaws
import Derived.IntWalk
import Derived.Below
import Derived.Deep.MidRow
import Derived.Lib.LazyBuf
import Derived.RegionTactic
import Derived.WalkSmall
import Derived.Laws.IdiomStrings
import Derived.BigRegion
import Derived.KernelRfl
namespace Go.Proofs.YtfmhcomebjggoaaDoor
open Go.RowKit

theorem ret_int {k : IntKind} {a b : Int} (h : a = b) : Ending.returned (.int k a) = .returned (.int k b) := by rw [h]

theorem i64_and_nat (a b : Nat) (ha : a < 9223372036854775808) (hb : b < 9223372036854775808) : bits .and .i64 (a : Int) (b : Int) = ((a &&& b : Nat) : Int) := by
  have hx : a &&& b < 2 ^ 63 := Nat.and_lt_two_pow _ (by omega)
  show IntKind.i64.wrap ((BitVec.ofInt 64 (a : Int) &&& BitVec.ofInt 64 (b : Int)).toNat : Int) = _
  rw [BitVec.toNat_and, ofInt_u64 a (by omega), ofInt_u64 b (by omega), IntWalk.i64_in _ (by omega)]
theorem i64_or_nat (a b : Nat) (ha : a < 9223372036854775808) (hb : b < 9223372036854775808) : bits .or .i64 (a : Int) (b : Int) = ((a ||| b : Nat) : Int) := by
  have hx : a ||| b < 2 ^ 63 := Nat.or_lt_two_pow (by omega) (by omega)
  show IntKind.i64.wrap ((BitVec.ofInt 64 (a : Int) ||| BitVec.ofInt 64 (b : Int)).toNat : Int) = _
  rw [BitVec.toNat_or, ofInt_u64 a (by omega), ofInt_u64 b (by omega), IntWalk.i64_in _ (by omega)]
theorem i64_xor_nat (a b : Nat) (ha : a < 9223372036854775808) (hb : b < 9223372036854775808) : bits .xor .i64 (a : Int) (b : Int) = ((a ^^^ b : Nat) : Int) := by
  have hx : a ^^^ b < 2 ^ 63 := Nat.xor_lt_two_pow (by omega) (by omega)
  show IntKind.i64.wrap ((BitVec.ofInt 64 (a : Int) ^^^ BitVec.ofInt 64 (b : Int)).toNat : Int) = _
  rw [BitVec.toNat_xor, ofInt_u64 a (by omega), ofInt_u64 b (by omega), IntWalk.i64_in _ (by omega)]

namespace Sha
theorem small {x : Nat} (h : x < 4294967296) : x < 9223372036854775808 := by omega
theorem add_or (x y : Nat) (hx : x < 4294967296) (hy : y < 4294967296) (h : x &&& y = 0) : x + y = x ||| y := by
  have e : BitVec.ofNat 64 x &&& BitVec.ofNat 64 y = 0#64 := by
    apply BitVec.eq_of_toNat_eq
    rw [BitVec.toNat_and, BitVec.toNat_ofNat, BitVec.toNat_ofNat, Nat.mod_eq_of_lt (by omega), Nat.mod_eq_of_lt (by omega), h]
    rfl
  have z := congrArg BitVec.toNat (BitVec.add_eq_or_of_and_eq_zero _ _ e)
  rw [BitVec.toNat_add, BitVec.toNat_or, BitVec.toNat_ofNat, BitVec.toNat_ofNat, Nat.mod_eq_of_lt (a := x) (by omega), Nat.mod_eq_of_lt (a := y) (by omega), Nat.mod_eq_of_lt (by omega)] at z
  exact z
theorem ch_sum (e f g : Nat) (he : e < 4294967296) (hf : f < 4294967296) (hg : g < 4294967296) : (e &&& f) + ((4294967295 - e) &&& g) = ch e f g := by
  rw [add_or _ _ (and_lt hf) (and_lt hg)]
  · unfold ch
    rw [Nat.and_comm g]
  · apply Nat.eq_of_testBit_eq
    intro i
    have e1 : 4294967295 - e = 2 ^ 32 - (e + 1) := by omega
    rw [e1, Nat.testBit_and, Nat.testBit_and, Nat.testBit_and, Nat.testBit_two_pow_sub_succ (by omega), Nat.zero_testBit]
    cases e.testBit i <;> simp
theorem rotr_or (x n : Nat) : (x / 2 ^ n ||| x * 2 ^ (32 - n) % 4294967296) = rotr x n := by
  unfold rotr
  rw [Nat.or_comm]
/-- a round as the document has it: sums of whole numbers, of which the lowest 32 bits are taken -/
theorem rnd_ref (k w : Nat) (s : St) (X Y : Nat) (hX : (s.z + b1 s.e + ch s.e s.f s.g + k + w) % 4294967296 = X) (hY : (b0 s.a + maj s.a s.b s.c) % 4294967296 = Y) :
    rnd k w s = ⟨(X + Y) % 4294967296, s.a, s.b, s.c, (s.d + X) % 4294967296, s.e, s.f, s.g⟩ := by
  subst hX hY
  unfold rnd
  simp only [St.mk.injEq, and_true, true_and]
  generalize b1 s.e = B
  generalize ch s.e s.f s.g = C
  generalize b0 s.a = D
  generalize maj s.a s.b s.c = E
  omega
theorem next_ref (l : List Nat) (k : Nat) : next l k = (l.getD k 0 + s0 (l.getD (k + 1) 0) + l.getD (k + 9) 0 + s1 (l.getD (k + 14) 0)) % 4294967296 := by
  unfold next
  generalize s0 (l.getD (k + 1) 0) = B
  generalize s1 (l.getD (k + 14) 0) = C
  omega
theorem word_ref (x0 x1 x2 x3 : Nat) (y1 : x1 < 256) (y2 : x2 < 256) (y3 : x3 < 256) : (x0 * 16777216 ||| x1 * 65536 ||| x2 * 256 ||| x3) = 256 * (256 * (256 * (256 * 0 + x0) + x1) + x2) + x3 := by
  rw [nat_join 24 (x0 * 16777216) (x1 * 65536) (by omega) (by omega), nat_join 16 (x0 * 16777216 + x1 * 65536) (x2 * 256) (by omega) (by omega), nat_join 8 (x0 * 16777216 + x1 * 65536 + x2 * 256) x3 (by omega) (by omega)]
  omega
/-- the first m of four bytes as a number -/
def part4 (f : Nat → Nat) : Nat → Nat
  | 0 => 0
  | m + 1 => 256 * part4 f m + f m
theorem part4_lt (f : Nat → Nat) (h : ∀ i, f i < 256) (m : Nat) : part4 f m < 256 ^ m := by
  induction m with
  | zero => simp [part4]
  | succ m ih =>
    have := h m
    have hp : 256 ^ (m + 1) = 256 * 256 ^ m := by rw [Nat.pow_succ, Nat.mul_comm]
    unfold part4
    omega
theorem part4_word (blk : Nat → Nat) (h : ∀ i, blk i < 256) (i : Nat) : part4 (fun m => blk (4 * i + m)) 4 = word blk i := by
  unfold word
  rw [word_ref _ _ _ _ (h _) (h _) (h _)]
  rfl
end Sha
end Go.Proofs.YtfmhcomebjggoaaDoor
