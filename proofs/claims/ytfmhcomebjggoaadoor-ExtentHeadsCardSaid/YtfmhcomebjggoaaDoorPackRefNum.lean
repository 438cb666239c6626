/-
  The document's own bytes of a number.
-/
import Derived.Test.YtfmhcomebjggoaaDoorPackOut2
import Derived.Test.YtfmhcomebjggoaaDoorPackMath
namespace Go.Proofs.YtfmhcomebjggoaaDoor
open Go.RowKit

theorem enc_cons (a n : Nat) : enc a (n + 1) = UInt8.ofNat (a / 256 ^ n) :: enc a n := by
  unfold enc
  rw [List.range_succ_eq_map, List.map_cons, List.map_map]
  congr 1
  refine List.map_congr_left fun i _ => ?_
  show UInt8.ofNat (a / 256 ^ (n + 1 - 1 - (i + 1))) = _
  rw [show n + 1 - 1 - (i + 1) = n - 1 - i from by omega]
theorem byte_mod (x : Nat) : IntKind.u8.wrap ((x : Int) % 256) = ((UInt8.ofNat x).toNat : Int) := by
  rw [UInt8.toNat_ofNat']
  simp only [IntKind.wrap, IntKind.bits, IntKind.signed]
  simp
theorem one_byte (w : World) (b : UInt8) : (convert 33 9 (.slice (some ⟨w.heap.size, 0, none⟩) 1 1)).run Tryd.prog (w.alloc (.cells #[.int .u8 (b.toNat : Int)] 5)) = .ok (.string ⟨#[b]⟩) (w.alloc (.cells #[.int .u8 (b.toNat : Int)] 5)) := by
  refine run_convert_bytes_back _ _ _ 5 ⟨w.heap.size, 0, none⟩ 1 [b] Tryd.underlying33 Tryd.underlying5 Tryd.underlying9 fun j hj => ?_
  have : j = 0 := by simpa using hj
  subst this
  rw [Addr.add_lit]
  simp
theorem quo_u64 (X : Nat) (h : X < 18446744073709551616) : IntKind.u64.wrap ((X : Int) / 256) = ((X / 256 : Nat) : Int) := by
  simp only [IntKind.wrap, IntKind.bits, IntKind.signed]
  simp
  omega
theorem cons_bytes (b : UInt8) (l : List UInt8) : (⟨#[b]⟩ : ByteArray) ++ ⟨l.toArray⟩ = ⟨(b :: l).toArray⟩ := by
  apply ByteArray.ext
  simp

set_option maxHeartbeats 1000000 in
set_option maxRecDepth 100000 in
theorem refNum_any (a : Nat) (n : Int) (w : World) (ha : a < 18446744073709551616) :
    Calls Tryd.prog 21 #[.int .u64 a, .int .i64 n] w fun e w' => e = .returned (.string ⟨(enc a (wid n)).toArray⟩) ∧ Below w.heap.size w w' := by
  obtain ⟨m, hm⟩ : ∃ m, wid n = m := ⟨_, rfl⟩
  rw [hm]
  have hb := wid_bd n
  rw [hm] at hb
  unfold wid at hm
  have h3 : (n < 1 ∧ m = 1) ∨ (¬ n < 1 ∧ 8 < n ∧ m = 8) ∨ (¬ n < 1 ∧ ¬ 8 < n ∧ n = m) := by omega
  clear hm
  have HA := Lib.hid ha
  clear ha
  go_enter Tryd.func21, Tryd.ntmps21
  go_wp2_with fail
  go_loopw [0, 5, 6] (fun x s i wx => ∃ k : Nat, k ≤ m ∧ i = .int .i64 k ∧ x = .int .u64 ((a / 256 ^ k : Nat) : Int) ∧ s = .string ⟨(enc a k).toArray⟩ ∧ Below w.heap.size w wx) (fun _ _ i _ => m - (intOf i).toNat)
  case atStart => exact ⟨0, by omega, rfl, by simp, rfl, Below.refl _ _⟩
  case round =>
    obtain ⟨k, hk, rfl, rfl, rfl, hB⟩ := hrel
    have HB := Lib.hid hB
    clear hB
    have HX : Hid (a / 256 ^ k < 18446744073709551616) := Lib.hid (Nat.lt_of_le_of_lt (Nat.div_le_self _ _) HA.out)
    have HD : Hid (a / 256 ^ (k + 1) = a / 256 ^ k / 256) := Lib.hid (by rw [Nat.pow_succ, Nat.div_div_eq_div_mul])
    have HE := Lib.hid (enc_cons a k)
    have hw := byte_mod (a / 256 ^ k)
    have hone := one_byte wr (UInt8.ofNat (a / 256 ^ k))
    have HC := Lib.hid (cons_bytes (UInt8.ofNat (a / 256 ^ k)) (enc a k))
    have hs0 := HB.out.size
    generalize UInt8.ofNat (a / 256 ^ k) = b at *
    generalize a / 256 ^ k = X at *
    obtain ⟨S, hS⟩ : ∃ S : ByteArray, ⟨(enc a k).toArray⟩ = S := ⟨_, rfl⟩
    rw [hS] at HC ⊢
    have hSs : S.size ≤ 8 := by rw [← hS]; show (enc a k).length ≤ 8; rw [enc_len]; omega
    have HS := Lib.hid hS
    clear hS
    by_cases hlt : k < m
    · rcases h3 with ⟨h1, h2⟩ | ⟨h1, h2, h4⟩ | ⟨h1, h2, h4⟩
      · have h5 : (k : Int) < 1 := by omega
        clear h2
        go_wp2
        go_roundw
        case rel => exact ⟨k + 1, by omega, by go_num, congrArg (Value.int .u64) (by rw [HD.out]; exact quo_u64 X HX.out), by rw [HE.out, ← HC.out], HB.out.alloc hs0 _⟩
        case measure => simp [intOf]; omega
      · have h5 : (k : Int) < 8 := by omega
        clear h4
        go_wp2
        go_roundw
        case rel => exact ⟨k + 1, by omega, by go_num, congrArg (Value.int .u64) (by rw [HD.out]; exact quo_u64 X HX.out), by rw [HE.out, ← HC.out], HB.out.alloc hs0 _⟩
        case measure => simp [intOf]; omega
      · have h5 : (k : Int) < n := by omega
        clear h4
        go_wp2
        go_roundw
        case rel => exact ⟨k + 1, by omega, by go_num, congrArg (Value.int .u64) (by rw [HD.out]; exact quo_u64 X HX.out), by rw [HE.out, ← HC.out], HB.out.alloc hs0 _⟩
        case measure => simp [intOf]; omega
    · obtain rfl : m = k := by omega
      have HK := Lib.hid h3
      rcases h3 with ⟨h1, h2⟩ | ⟨h1, h2, h4⟩ | ⟨h1, h2, h4⟩
      · have h5 : ¬ (m : Int) < 1 := by omega
        clear h2
        go_wp2
        go_ret
        exact ⟨by rw [HS.out]; rfl, HB.out⟩
      · have h5 : ¬ (m : Int) < 8 := by omega
        clear h4
        go_wp2
        go_ret
        exact ⟨by rw [HS.out]; rfl, HB.out⟩
      · have h5 : ¬ (m : Int) < n := by omega
        clear h4
        go_wp2
        go_ret
        exact ⟨by rw [HS.out]; rfl, HB.out⟩
end Go.Proofs.YtfmhcomebjggoaaDoor
