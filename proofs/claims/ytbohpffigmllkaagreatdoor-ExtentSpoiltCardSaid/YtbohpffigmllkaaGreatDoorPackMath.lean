/-
  Numbers as bytes: there and back; bytes are ordered as numbers are.
-/
import Derived.Test.YtbohpffigmllkaaGreatDoorPackOuts
namespace Go.Proofs.YtbohpffigmllkaaGreatDoor
open Go.RowKit

theorem enc_succ (a n : Nat) : enc a (n + 1) = enc (a / 256) n ++ [UInt8.ofNat a] := by
  unfold enc
  rw [List.range_succ, List.map_append]
  congr 1
  · refine List.map_congr_left fun i hi => ?_
    have hi' := List.mem_range.1 hi
    rw [show n + 1 - 1 - i = 1 + (n - 1 - i) from by omega, Nat.pow_add, Nat.pow_one, Nat.div_div_eq_div_mul]
  · simp
theorem num_enc (n : Nat) : ∀ a, num (enc a n) = a % 256 ^ n := by
  induction n with
  | zero => intro a; simp [enc, num, Nat.mod_one]
  | succ n ih =>
    intro a
    rw [enc_succ, num_snoc, ih, UInt8.toNat_ofNat', Nat.pow_succ (n := 256), Nat.mul_comm (256 ^ n) 256, Nat.mod_mul (x := a) (a := 256)]
    omega
theorem num_enc8 (a : Nat) (h : a < 18446744073709551616) : num (enc a 8) = a := by
  rw [num_enc]
  exact Nat.mod_eq_of_lt (by omega)
theorem num_foldl_eq (l : List UInt8) (n : Nat) : l.foldl (fun n b => n * 256 + b.toNat) n = n * 256 ^ l.length + num l := by
  induction l generalizing n with
  | nil => simp [num]
  | cons b l ih =>
    unfold num
    rw [List.foldl_cons, List.foldl_cons, ih, ih (0 * 256 + b.toNat), List.length_cons, Nat.pow_succ, Nat.add_mul, Nat.zero_mul, Nat.zero_add, Nat.mul_comm (256 ^ l.length) 256, ← Nat.mul_assoc]
    omega
theorem num_cons (b : UInt8) (l : List UInt8) : num (b :: l) = b.toNat * 256 ^ l.length + num l := by
  have := num_foldl_eq l b.toNat
  unfold num at *
  rw [List.foldl_cons, Nat.zero_mul, Nat.zero_add]
  exact this
theorem num_less : ∀ l k : List UInt8, l.length = k.length → Op.bytesLess l k = decide (num l < num k) := by
  intro l
  induction l with
  | nil =>
    intro k h
    obtain rfl : k = [] := List.eq_nil_of_length_eq_zero h.symm
    rfl
  | cons a l ih =>
    intro k h
    cases k with
    | nil => cases h
    | cons b k =>
      have hl : l.length = k.length := by simpa using h
      have h1 := num_lt l
      have h2 := num_lt k
      rw [← hl] at h2
      rw [num_cons, num_cons, ← hl]
      have := ih k hl
      generalize 256 ^ l.length = p at *
      unfold Op.bytesLess
      rcases Nat.lt_trichotomy a.toNat b.toNat with hab | hab | hab
      · have h3 : (a.toNat + 1) * p ≤ b.toNat * p := Nat.mul_le_mul_right p hab
        rw [Nat.add_mul] at h3
        have : num l + a.toNat * p < b.toNat * p + num k := by omega
        simp [UInt8.lt_iff_toNat_lt, hab]
        omega
      · have e : a = b := UInt8.toNat_inj.1 hab
        subst e
        simp [this]
      · have h3 : (b.toNat + 1) * p ≤ a.toNat * p := Nat.mul_le_mul_right p hab
        rw [Nat.add_mul] at h3
        have hn : ¬ a.toNat < b.toNat := by omega
        have hn' : ¬ a = b := fun e => by subst e; omega
        have h4 : decide (a < b) = false := decide_eq_false fun h => hn (UInt8.lt_iff_toNat_lt.1 h)
        have h5 : (a == b) = false := by rw [beq_eq_false_iff_ne]; exact hn'
        have h6 : decide (a.toNat * p + num l < b.toNat * p + num k) = false := decide_eq_false (by omega)
        rw [h6]
        show (decide (a < b) || (a == b && Op.bytesLess l k)) = false
        rw [h4, h5]
        rfl
theorem num_eq (l k : List UInt8) (h : l.length = k.length) : (l == k) = decide (num l = num k) := by
  rw [Bool.eq_iff_iff]
  simp only [beq_iff_eq, decide_eq_true_eq]
  refine ⟨fun e => by rw [e], fun e => ?_⟩
  induction l generalizing k with
  | nil => exact (List.eq_nil_of_length_eq_zero h.symm).symm
  | cons a l ih =>
    cases k with
    | nil => cases h
    | cons b k =>
      have hl : l.length = k.length := by simpa using h
      have h1 := num_lt l
      have h2 := num_lt k
      rw [num_cons, num_cons, ← hl] at e
      rw [← hl] at h2
      have hp : 0 < 256 ^ l.length := Nat.pow_pos (by decide)
      have ih' := ih k hl
      generalize 256 ^ l.length = p at *
      have e1 : a.toNat = b.toNat := by
        rcases Nat.lt_trichotomy a.toNat b.toNat with hab | hab | hab
        · have h3 : (a.toNat + 1) * p ≤ b.toNat * p := Nat.mul_le_mul_right p hab
          rw [Nat.add_mul] at h3
          omega
        · exact hab
        · have h3 : (b.toNat + 1) * p ≤ a.toNat * p := Nat.mul_le_mul_right p hab
          rw [Nat.add_mul] at h3
          omega
      rw [e1] at e
      rw [UInt8.toNat_inj.1 e1, ih' (by omega)]
end Go.Proofs.YtbohpffigmllkaaGreatDoor
