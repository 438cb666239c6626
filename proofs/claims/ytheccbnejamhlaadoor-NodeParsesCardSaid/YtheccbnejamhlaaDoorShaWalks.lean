/-
  What the small functions of package sha answer: contracts by walking their text.
-/
import Derived.Test.YtheccbnejamhlaaDoorRows
import Derived.Test.YtheccbnejamhlaaDoorShaMath
import Derived.WalkKit
import Derived.WalkSpells
import Derived.WalkLawsBesides
import Derived.Lib.Hide
import Derived.Laws.BitsAllLaws
import Derived.Laws.ShiftsVarLaws
import Derived.IntWalk
import Derived.Below
namespace Go.Proofs.YtheccbnejamhlaaDoor
open Go.RowKit

theorem ret_int {k : IntKind} {a b : Int} (h : a = b) : Ending.returned (.int k a) = .returned (.int k b) := by rw [h]

set_option maxHeartbeats 400000 in
theorem choice_any (e f g : Nat) (w : World) (he : e < 4294967296) (hf : f < 4294967296) (hg : g < 4294967296) :
    Calls Tryd.prog 55 #[.int .u32 e, .int .u32 f, .int .u32 g] w fun r w' => r = .returned (.int .u32 (Sha.ch e f g)) ∧ w = w' := by
  have h1 := u32_and_nat e f he hf
  have h2 := u32_andNot_nat g e hg he
  have h3 := u32_or_nat (e &&& f) (g &&& (4294967295 - e)) (Sha.and_lt hf) (Sha.and_lt (by omega))
  have HC : Hid (((e &&& f) ||| (g &&& (4294967295 - e))) = Sha.ch e f g) := Lib.hid rfl
  go_enter Tryd.func55, Tryd.ntmps55
  go_wp2
  go_ret
  exact ⟨ret_int (by rw [HC.out]), rfl⟩

set_option maxHeartbeats 400000 in
theorem majority_any (a b c : Nat) (w : World) (ha : a < 4294967296) (hb : b < 4294967296) (hc : c < 4294967296) :
    Calls Tryd.prog 56 #[.int .u32 a, .int .u32 b, .int .u32 c] w fun r w' => r = .returned (.int .u32 (Sha.maj a b c)) ∧ w = w' := by
  have h1 := u32_and_nat a b ha hb
  have h2 := u32_and_nat a c ha hc
  have h3 := u32_and_nat b c hb hc
  have h4 := u32_or_nat (a &&& b) (a &&& c) (Sha.and_lt hb) (Sha.and_lt hc)
  have h5 := u32_or_nat ((a &&& b) ||| (a &&& c)) (b &&& c) (Sha.or_lt (Sha.and_lt hb) (Sha.and_lt hc)) (Sha.and_lt hc)
  have HC : Hid (((a &&& b) ||| (a &&& c) ||| (b &&& c)) = Sha.maj a b c) := Lib.hid rfl
  go_enter Tryd.func56, Tryd.ntmps56
  go_wp2
  go_ret
  exact ⟨ret_int (by rw [HC.out]), rfl⟩

theorem and_31 (n : Nat) (h1 : 1 ≤ n) (h2 : n ≤ 31) : bits .and .u64 (IntKind.u64.wrap (-(n : Int))) 31 = ((32 - n : Nat) : Int) := by
  rw [IntKind.wrap_u64]
  have e : (-(n : Int)) % 18446744073709551616 = ((18446744073709551616 - n : Nat) : Int) := by omega
  rw [e]
  have f := u64_and_nat (18446744073709551616 - n) 31 (by omega) (by omega)
  have g : (18446744073709551616 - n) &&& 31 = 32 - n := by
    have := Nat.and_two_pow_sub_one_eq_mod (18446744073709551616 - n) 5
    have e2 : 2 ^ 5 - 1 = 31 := rfl
    rw [e2] at this
    rw [this]
    omega
  rw [g] at f
  exact f

theorem rot_value (x n m : Nat) (hm : 32 - n = m) (hx : x < 4294967296) (h1 : 1 ≤ n) (h2 : n ≤ 31) :
    bits BinOp.or IntKind.u32 ((x : Int) * 2 ^ m % 4294967296) ((x : Int) / 2 ^ (32 - m)) = ((Sha.rotr x n : Nat) : Int) := by
  have e1 : (x : Int) * 2 ^ m % 4294967296 = ((x * 2 ^ m % 4294967296 : Nat) : Int) := by simp
  have e2 : (x : Int) / 2 ^ (32 - m) = ((x / 2 ^ (32 - m) : Nat) : Int) := by simp
  rw [e1, e2, u32_or_nat _ _ (Sha.mod_lt _) (Sha.div_lt _ hx)]
  unfold Sha.rotr
  rw [hm, show 32 - m = n by omega]

set_option maxHeartbeats 400000 in
theorem rot_any (x n : Nat) (w : World) (hx : x < 4294967296) (h1 : 1 ≤ n) (h2 : n ≤ 31) :
    Calls Tryd.prog 60 #[.int .u32 x, .int .i64 (-(n : Int))] w fun r w' => r = .returned (.int .u32 (Sha.rotr x n)) ∧ w = w' := by
  have ha := and_31 n h1 h2
  obtain ⟨m, hm⟩ : ∃ m, 32 - n = m := ⟨_, rfl⟩
  rw [hm] at ha
  have b1 : (1 : Int) ≤ (m : Int) := by omega
  have b2 : (m : Int) ≤ 31 := by omega
  have HM := Lib.hid hm
  clear hm
  go_enter Tryd.func60, Tryd.ntmps60
  go_wp2
  go_ret
  exact ⟨ret_int (rot_value x n m HM.out hx h1 h2), rfl⟩

set_option maxHeartbeats 400000 in
theorem right_any (x n : Nat) (w : World) (hx : x < 4294967296) (h1 : 1 ≤ n) (h2 : n ≤ 31) :
    Calls Tryd.prog 54 #[.int .u32 x, .int .i64 n] w fun r w' => r = .returned (.int .u32 (Sha.rotr x n)) ∧ w = w' := by
  go_enter Tryd.func54, Tryd.ntmps54
  go_wp2_with (go_at_call 60; refine (rot_any _ _ _ hx h1 h2).mono ?_; rintro e w' ⟨rfl, rfl⟩)
  go_ret
  exact ⟨rfl, rfl⟩
end Go.Proofs.YtheccbnejamhlaaDoor
