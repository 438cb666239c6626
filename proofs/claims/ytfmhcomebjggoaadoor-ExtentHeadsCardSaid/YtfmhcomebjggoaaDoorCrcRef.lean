/-
  The document's own sum of a text.
-/
import Derived.Test.YtfmhcomebjggoaaDoorCrcWalks
namespace Go.Proofs.YtfmhcomebjggoaaDoor.C
open Go.RowKit

theorem xor_i64 (a b : Nat) (ha : a < 4294967296) (hb : b < 4294967296) : bits .xor .i64 (a : Int) (b : Int) = ((a ^^^ b : Nat) : Int) := by
  have hx := Crc.xor_lt a b ha hb
  have h1 : (BitVec.ofInt 64 (a : Int)).toNat = a := by
    rw [BitVec.ofInt_natCast, BitVec.toNat_ofNat]; exact Nat.mod_eq_of_lt (by omega)
  have h2 : (BitVec.ofInt 64 (b : Int)).toNat = b := by
    rw [BitVec.ofInt_natCast, BitVec.toNat_ofNat]; exact Nat.mod_eq_of_lt (by omega)
  show IntKind.i64.wrap ((BitVec.ofInt 64 (a : Int) ^^^ BitVec.ofInt 64 (b : Int)).toNat : Int) = _
  rw [BitVec.toNat_xor, h1, h2]
  simp only [IntKind.wrap, IntKind.bits, IntKind.signed]
  simp
  omega

theorem xor_byte64 (X : Nat) (b : UInt8) (h : X < 4294967296) : bits .xor .i64 (X : Int) (wrap64 (b.toNat : Int)) = ((X ^^^ b.toNat : Nat) : Int) := by
  have hb := b.toNat_lt
  rw [show wrap64 (b.toNat : Int) = (b.toNat : Int) from by unfold wrap64; omega]
  exact xor_i64 X b.toNat h (by omega)
theorem xor_poly64 (X : Nat) (h : X < 4294967296) : bits .xor .i64 ((X : Int) / 2) 2197175160 = ((X / 2 ^^^ 2197175160 : Nat) : Int) := by
  have e := xor_i64 (X / 2) 2197175160 (by omega) (by omega)
  have d : ((X / 2 : Nat) : Int) = (X : Int) / 2 := by omega
  rw [d] at e
  exact e

set_option maxHeartbeats 400000 in
theorem ref_any (s : ByteArray) (w : World) (hs : s.size ≤ maxLen) :
    Calls Tryd.prog 22 #[.string s] w fun e w' => e = .returned (.int .i64 (Crc.sum s.data.toList)) ∧ w = w' := by
  unfold maxLen at hs
  go_enter Tryd.func22, Tryd.ntmps22
  go_wp2
  go_loop [3, 4] (fun t i => ∃ k : Nat, k ≤ s.size ∧ i = .int .i64 k ∧ t = .int .i64 (Crc.add 4294967295 (s.data.toList.take k))) (fun _ i => s.size - (intOf i).toNat)
  case atStart => exact ⟨0, by omega, rfl, rfl⟩
  case round =>
    obtain ⟨k, hk, rfl, rfl⟩ := hrel
    have hm := Crc.add_lt 4294967295 (s.data.toList.take k) (by decide)
    by_cases hlt : k < s.size
    · have ho : Crc.add 4294967295 (s.data.toList.take (k + 1)) = Crc.step (Crc.add 4294967295 (s.data.toList.take k) ^^^ (s[k]).toNat) := by rw [take_snoc s k hlt, Crc.add_snoc]
      have HO := Lib.hid ho
      clear ho
      generalize Crc.add 4294967295 (s.data.toList.take k) = X at hm HO
      have hp : bits .xor .i64 (X : Int) (wrap64 ((s[k]).toNat : Int)) = ((X ^^^ (s[k]).toNat : Nat) : Int) := xor_byte64 X s[k] hm
      have hl := Crc.xor_lt X (s[k]).toNat hm (Crc.byte_lt _)
      generalize X ^^^ (s[k]).toNat = Y at hp hl HO
      go_wp2
      go_loop [3, 5] (fun t i => ∃ j : Nat, j ≤ 8 ∧ i = .int .i64 j ∧ t = .int .i64 (Crc.many j Y)) (fun _ i => 8 - (intOf i).toNat)
      case atStart => exact ⟨0, by omega, rfl, rfl⟩
      case round =>
        obtain ⟨j, hj, rfl, rfl⟩ := hrel
        have hz := Crc.many_lt j Y hl
        by_cases hjt : j < 8
        · have hq : Crc.many (j + 1) Y = Crc.one (Crc.many j Y) := rfl
          have HQ := Lib.hid hq
          clear hq
          generalize Crc.many j Y = Z at hz HQ
          have hx := xor_poly64 Z hz
          by_cases hb : Z % 2 = 1
          · have hd : (((Z : Int) % 2) == 1) = true := by simp; omega
            go_wp2
            go_round
            case rel => exact ⟨j + 1, by omega, by go_num, by rw [HQ.out]; unfold Crc.one; rw [if_pos hb]⟩
            case measure => simp [intOf]; omega
          · have hd : (((Z : Int) % 2) == 1) = false := by simp; omega
            go_wp2
            go_round
            case rel => exact ⟨j + 1, by omega, by go_num, by rw [HQ.out]; unfold Crc.one; rw [if_neg hb]; go_num⟩
            case measure => simp [intOf]; omega
        · obtain rfl : j = 8 := by omega
          go_wp2
          go_round
          case rel => exact ⟨k + 1, by omega, by go_num, by rw [HO.out]; rfl⟩
          case measure => simp [intOf]; omega
    · have HT : Hid (s.data.toList.take k = s.data.toList) := Lib.hid (List.take_of_length_le (by simp; omega))
      go_wp2
      go_ret
      exact ⟨ret_int (by rw [HT.out] at hm ⊢; unfold Crc.sum; omega), rfl⟩
end Go.Proofs.YtfmhcomebjggoaaDoor.C
