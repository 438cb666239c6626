/-
  What the functions of package crc, and the small ones of the law's packages, answer for every input: contracts by walking their text.
-/
import Derived.Test.YtbohpffigmllkaaGreatDoorRows
import Derived.Test.YtbohpffigmllkaaGreatDoorCrcMath
import Derived.WalkKit
import Derived.WalkSpells
import Derived.WalkLawsBesides
import Derived.Lib.Hide
import Derived.Laws.BitsAllLaws
namespace Go.Proofs.YtbohpffigmllkaaGreatDoor.C
open Go.RowKit

theorem and_one (X : Nat) (h : X < 4294967296) : bits .and .u32 (X : Int) 1 = ((X % 2 : Nat) : Int) := by
  have e := u32_and_nat X 1 h (by omega)
  rw [Nat.and_one_is_mod] at e
  exact e
theorem xor_poly (X : Nat) (h : X < 4294967296) : bits .xor .u32 ((X : Int) / 2) 2197175160 = ((X / 2 ^^^ 2197175160 : Nat) : Int) := by
  have e := u32_xor_nat (X / 2) 2197175160 (by omega) (by omega)
  have d : ((X / 2 : Nat) : Int) = (X : Int) / 2 := by omega
  rw [d] at e
  exact e

set_option maxHeartbeats 400000 in
theorem step_any (x : Nat) (w : World) (hx : x < 4294967296) :
    Calls Tryz.prog 157 #[.int .u32 x] w fun e w' => e = .returned (.int .u32 (Crc.step x)) ∧ w = w' := by
  go_enter Tryz.func157, Tryz.ntmps157
  go_wp2
  go_loop [0, 4] (fun s i => ∃ k : Nat, k ≤ 8 ∧ i = .int .i64 k ∧ s = .int .u32 (Crc.many k x)) (fun _ i => 8 - (intOf i).toNat)
  case atStart => exact ⟨0, by omega, rfl, rfl⟩
  case round =>
    obtain ⟨k, hk, rfl, rfl⟩ := hrel
    have hm := Crc.many_lt k x hx
    by_cases hlt : k < 8
    · have ho : Crc.many (k + 1) x = Crc.one (Crc.many k x) := rfl
      have HO := Lib.hid ho
      clear ho
      generalize Crc.many k x = X at hm HO
      have ha := and_one X hm
      have hp := xor_poly X hm
      by_cases hb : X % 2 = 1
      · rw [hb] at ha
        go_wp2
        go_round
        case rel => exact ⟨k + 1, by omega, by go_num, by rw [HO.out]; unfold Crc.one; rw [if_pos hb]⟩
        case measure => simp [intOf]; omega
      · rw [show X % 2 = 0 from by omega] at ha
        go_wp2
        go_round
        case rel => exact ⟨k + 1, by omega, by go_num, by rw [HO.out]; unfold Crc.one; rw [if_neg hb]; go_num⟩
        case measure => simp [intOf]; omega
    · obtain rfl : k = 8 := by omega
      go_wp2
      go_ret
      exact ⟨rfl, rfl⟩

theorem ret_int {k : IntKind} {a b : Int} (h : a = b) : Ending.returned (.int k a) = .returned (.int k b) := by rw [h]
theorem xor_byte (X : Nat) (b : UInt8) (h : X < 4294967296) : bits .xor .u32 (X : Int) ((b.toNat : Int) % 4294967296) = ((X ^^^ b.toNat : Nat) : Int) := by
  have := Crc.byte_lt b
  rw [show ((b.toNat : Int) % 4294967296) = (b.toNat : Int) from by omega]
  exact u32_xor_nat X b.toNat h this
theorem take_snoc (s : ByteArray) (k : Nat) (h : k < s.size) : s.data.toList.take (k + 1) = s.data.toList.take k ++ [s[k]] := by
  rw [List.take_succ_eq_append_getElem (by simpa using h)]; rfl

set_option maxHeartbeats 400000 in
theorem add_any (x : Nat) (s : ByteArray) (w : World) (hx : x < 4294967296) (hs : s.size ≤ maxLen) :
    Calls Tryz.prog 123 #[.int .u32 x, .string s] w fun e w' => e = .returned (.int .u32 (Crc.add x s.data.toList)) ∧ w = w' := by
  unfold maxLen at hs
  go_enter Tryz.func123, Tryz.ntmps123
  go_wp2
  go_loop [0, 8] (fun t i => ∃ k : Nat, k ≤ s.size ∧ i = .int .i64 k ∧ t = .int .u32 (Crc.add x (s.data.toList.take k))) (fun _ i => s.size - (intOf i).toNat)
  case atStart => exact ⟨0, by omega, rfl, rfl⟩
  case round =>
    obtain ⟨k, hk, rfl, rfl⟩ := hrel
    have hm := Crc.add_lt x (s.data.toList.take k) hx
    by_cases hlt : k < s.size
    · have ho : Crc.add x (s.data.toList.take (k + 1)) = Crc.step (Crc.add x (s.data.toList.take k) ^^^ (s[k]).toNat) := by rw [take_snoc s k hlt, Crc.add_snoc]
      have HO := Lib.hid ho
      clear ho
      generalize Crc.add x (s.data.toList.take k) = X at hm HO
      have hp := xor_byte X s[k] hm
      have hl := Crc.xor_lt X (s[k]).toNat hm (Crc.byte_lt _)
      go_wp2_with (go_at_call 157; refine (step_any _ _ hl).mono ?_; rintro e w' ⟨rfl, rfl⟩)
      go_round
      case rel => exact ⟨k + 1, by omega, by go_num, by rw [HO.out]⟩
      case measure => simp [intOf]; omega
    · go_wp2
      go_ret
      exact ⟨ret_int (by rw [List.take_of_length_le (by simp; omega)]), rfl⟩

set_option maxHeartbeats 400000 in
theorem cut_any (s : ByteArray) (n : Nat) (w : World) (_hs : s.size ≤ maxLen) (_hn : n < 1000) :
    Calls Tryz.prog 42 #[.string s, .int .i64 n] w fun e w' => e = .returned (.string (s.extract 0 (min n s.size))) ∧ w = w' := by
  unfold maxLen at _hs
  by_cases h : n < s.size
  · rw [Nat.min_eq_left (by omega)]
    go_enter Tryz.func42, Tryz.ntmps42
    go_wp2
    go_ret
    exact ⟨rfl, rfl⟩
  · rw [Nat.min_eq_right (by omega)]
    go_enter Tryz.func42, Tryz.ntmps42
    go_wp2
    go_ret
    refine ⟨?_, rfl⟩
    simp

def cat (ss : List ByteArray) : List UInt8 := (ss.map fun s => s.data.toList).flatten
theorem cat_snoc (ss : List ByteArray) (k : Nat) (h : k < ss.length) : cat (ss.take (k + 1)) = cat (ss.take k) ++ (ss.getD k ByteArray.empty).data.toList := by
  rw [List.take_succ_eq_append_getElem h, List.getD_eq_getElem?_getD, List.getElem?_eq_getElem h]
  unfold cat
  rw [List.map_append, List.flatten_append]
  simp
theorem not_u32 (X : Nat) (h : X < 4294967296) : bits .xor .u32 IntKind.u32.max (X : Int) = ((4294967295 - X : Nat) : Int) := by
  have e : IntKind.u32.max = ((4294967295 : Nat) : Int) := by decide
  rw [e, u32_xor_nat _ _ (by decide) h, Crc.flip X h]

set_option maxHeartbeats 400000 in
theorem sum_any (b off cap : Nat) (ss : List ByteArray) (w : World) (hn : ss.length < 1000)
    (hc : ∀ i, i < ss.length → w.cell? ⟨b, off + i, none⟩ = some (.string (ss.getD i ByteArray.empty))) (hs : ∀ i, i < ss.length → (ss.getD i ByteArray.empty).size ≤ maxLen) :
    Calls Tryz.prog 97 #[.slice (some ⟨b, off, none⟩) ss.length cap] w fun e w' => e = .returned (.int .u32 (Crc.sum (cat ss))) ∧ w = w' := by
  have HC := Lib.hid hc
  clear hc
  go_enter Tryz.func97, Tryz.ntmps97
  go_wp2
  go_loop [3, 8] (fun t i => ∃ k : Nat, k ≤ ss.length ∧ i = .int .i64 k ∧ t = .int .u32 (Crc.add 4294967295 (cat (ss.take k)))) (fun _ i => ss.length - (intOf i).toNat)
  case atStart => exact ⟨0, by omega, rfl, rfl⟩
  case round =>
    obtain ⟨k, hk, rfl, rfl⟩ := hrel
    have hm := Crc.add_lt 4294967295 (cat (ss.take k)) (by decide)
    by_cases hlt : k < ss.length
    · have ho : Crc.add 4294967295 (cat (ss.take (k + 1))) = Crc.add (Crc.add 4294967295 (cat (ss.take k))) (ss.getD k ByteArray.empty).data.toList := by rw [cat_snoc ss k hlt, Crc.add_append]
      have HO := Lib.hid ho
      clear ho
      have hsz := hs k hlt
      have hce := HC.out k hlt
      clear hs
      generalize ss.getD k ByteArray.empty = s at hsz hce HO
      generalize Crc.add 4294967295 (cat (ss.take k)) = X at hm HO
      go_wp2_with (go_at_call 123; refine (add_any _ _ _ hm hsz).mono ?_; rintro e w' ⟨rfl, rfl⟩)
      go_round
      case rel => exact ⟨k + 1, by omega, by go_num, by rw [HO.out]⟩
      case measure => simp [intOf]; omega
    · clear hs
      have HF := Lib.hid (not_u32 _ hm)
      have HT : Hid (ss.take k = ss) := Lib.hid (List.take_of_length_le (by omega))
      go_wp2
      go_ret
      exact ⟨ret_int (by rw [HF.out, HT.out]; rfl), rfl⟩

set_option maxHeartbeats 400000 in
theorem sum_none (w : World) :
    Calls Tryz.prog 97 #[.slice none 0 0] w fun e w' => e = .returned (.int .u32 0) ∧ w = w' := by
  have HF := Lib.hid (not_u32 4294967295 (by decide))
  go_enter Tryz.func97, Tryz.ntmps97
  go_wp2
  go_loop [3, 8] (fun t i => i = .int .i64 0 ∧ t = .int .u32 4294967295) (fun _ _ => 0)
  case atStart => exact ⟨rfl, rfl⟩
  case round =>
    obtain ⟨rfl, rfl⟩ := hrel
    go_wp2
    go_ret
    exact ⟨ret_int HF.out, rfl⟩
end Go.Proofs.YtbohpffigmllkaaGreatDoor.C
