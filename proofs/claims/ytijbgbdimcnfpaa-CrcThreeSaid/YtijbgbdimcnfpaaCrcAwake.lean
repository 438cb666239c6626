/-
  The law's package: awake answers true; the document's own sum of a text.
-/
import Derived.Test.YtijbgbdimcnfpaaCrcWalks
import Derived.Below
namespace Go.Proofs.Ytijbgbdimcnfpaa
open Go.RowKit

theorem bcell {W w1 : World} (hb : Below W.heap.size W w1) : (∀ b o, b < W.heap.size → w1.cell? ⟨b, o, none⟩ = W.cell? ⟨b, o, none⟩) ∧ (∀ b o, b < W.heap.size → w1.frozen? ⟨b, o, none⟩ = W.frozen? ⟨b, o, none⟩) :=
  ⟨fun b o h => hb.cell (p := ⟨b, o, none⟩) h, fun b o h => hb.frozen (p := ⟨b, o, none⟩) h⟩

theorem sum_one (b cap n : Nat) (s : ByteArray) (w : World) (hn : Crc.sum s.data.toList = n) (hs : s.size ≤ maxLen) (hc : w.cell? ⟨b, 0, none⟩ = some (.string s)) :
    Calls Try.prog 5 #[.slice (some ⟨b, 0, none⟩) 1 cap] w fun e w' => e = .returned (.int .u32 n) ∧ w = w' := by
  have h := sum_any b 0 cap [s] w (by simp) (fun i hi => by have : i < 1 := hi; obtain rfl : i = 0 := (by omega); exact hc) (fun i hi => by have : i < 1 := hi; obtain rfl : i = 0 := (by omega); exact hs)
  refine h.mono fun e w' ⟨he, hw⟩ => ⟨?_, hw⟩
  rw [he, ← hn]
  simp [cat]
theorem sum_two (b cap n : Nat) (s t : ByteArray) (w : World) (hn : Crc.sum (s.data.toList ++ t.data.toList) = n) (hs : s.size ≤ maxLen) (ht : t.size ≤ maxLen) (hc : w.cell? ⟨b, 0, none⟩ = some (.string s)) (hd : w.cell? ⟨b, 1, none⟩ = some (.string t)) :
    Calls Try.prog 5 #[.slice (some ⟨b, 0, none⟩) 2 cap] w fun e w' => e = .returned (.int .u32 n) ∧ w = w' := by
  have h := sum_any b 0 cap [s, t] w (by simp)
    (fun i hi => by
      have : i < 2 := hi
      rcases (by omega : i = 0 ∨ i = 1) with rfl | rfl
      · exact hc
      · exact hd)
    (fun i hi => by
      have : i < 2 := hi
      rcases (by omega : i = 0 ∨ i = 1) with rfl | rfl
      · exact hs
      · exact ht)
  refine h.mono fun e w' ⟨he, hw⟩ => ⟨?_, hw⟩
  rw [he, ← hn]
  simp [cat]

set_option maxHeartbeats 400000 in
theorem awake_any (w : World) :
    Calls Try.prog 4 #[] w fun e w' => e = .returned (.bool true) ∧ Below w.heap.size w w' := by
  go_enter Try.func4, Try.ntmps4
  go_wp2_with fail
  refine (sum_one _ _ 3808858755 ⟨#[49, 50, 51, 52, 53, 54, 55, 56, 57]⟩ _ Crc.awake1 (by decide) (by simp)).mono ?_
  rintro e w' ⟨rfl, rfl⟩
  go_wp2_with fail
  refine (sum_none _).mono ?_
  rintro e w' ⟨rfl, rfl⟩
  go_wp2_with fail
  refine (sum_two _ _ 3808858755 ⟨#[49, 50, 51, 52]⟩ ⟨#[53, 54, 55, 56, 57]⟩ _ Crc.awake1 (by decide) (by decide) (by simp) (by simp)).mono ?_
  rintro e w' ⟨rfl, rfl⟩
  go_wp2
  go_ret
  exact ⟨rfl, ((Below.refl _ _).alloc (Nat.le_refl _) _).alloc (by simp) _⟩

theorem xor_i64 (a b : Nat) (ha : a < 4294967296) (hb : b < 4294967296) : bits .xor .i64 (a : Int) (b : Int) = ((a ^^^ b : Nat) : Int) := by
  have hx := Crc.xor_lt a b ha hb
  have h1 : (BitVec.ofInt 64 (a : Int)).toNat = a := by
    rw [BitVec.ofInt_natCast, BitVec.toNat_ofNat]; exact Nat.mod_eq_of_lt (by omega)
  have h2 : (BitVec.ofInt 64 (b : Int)).toNat = b := by
    rw [BitVec.ofInt_natCast, BitVec.toNat_ofNat]; exact Nat.mod_eq_of_lt (by omega)
  show IntKind.i64.wrap ((BitVec.ofInt 64 (a : Int) ^^^ BitVec.ofInt 64 (b : Int)).toNat : Int) = _
  rw [BitVec.toNat_xor, h1, h2]
  simp only [IntKind.wrap, IntKind.bits, IntKind.signed]
  simp
  omega

theorem xor_byte64 (X : Nat) (b : UInt8) (h : X < 4294967296) : bits .xor .i64 (X : Int) (wrap64 (b.toNat : Int)) = ((X ^^^ b.toNat : Nat) : Int) := by
  have hb := b.toNat_lt
  rw [show wrap64 (b.toNat : Int) = (b.toNat : Int) from by unfold wrap64; omega]
  exact xor_i64 X b.toNat h (by omega)
theorem xor_poly64 (X : Nat) (h : X < 4294967296) : bits .xor .i64 ((X : Int) / 2) 2197175160 = ((X / 2 ^^^ 2197175160 : Nat) : Int) := by
  have e := xor_i64 (X / 2) 2197175160 (by omega) (by omega)
  have d : ((X / 2 : Nat) : Int) = (X : Int) / 2 := by omega
  rw [d] at e
  exact e

end Go.Proofs.Ytijbgbdimcnfpaa
