/-
  The document's own sum: a word, a turn by each number of bits that it takes: contracts.
-/
import Derived.Test.YtfmhcomebjggoaaDoorRefBlocks
import Derived.Deep.QuietTactic
import Derived.BigQuiet
import Derived.WalkSmall
namespace Go.Proofs.YtfmhcomebjggoaaDoor
open Go.RowKit

theorem word_any (n : Nat) (hn : n < 9223372036854775808) (w : World) : Calls Tryd.prog 26 #[.int .i64 (n : Int)] w fun e w' => e = .returned (.int .i64 ((n % 4294967296 : Nat) : Int)) ∧ w = w' := by
  have h0 : (0 : Int) ≤ (n : Int) := by omega
  go_enter Tryd.func26, Tryd.ntmps26
  go_wp2_with fail
  go_ret
  exact ⟨by show Ending.returned (.int .i64 ((n : Int) % 4294967296)) = _; rw [show ((n % 4294967296 : Nat) : Int) = (n : Int) % 4294967296 by omega], rfl⟩
theorem turn2 (x : Nat) (hx : x < 4294967296) (w : World) : Calls Tryd.prog 27 #[.int .i64 (x : Int), .int .i64 2] w fun e w' => e = .returned (.int .i64 (Sha.rotr x 2 : Nat)) ∧ ∃ k, w' = w.drewN k := by
  have h0 : (0 : Int) ≤ (x : Int) := by omega
  have h1 : (x : Int) ≤ 4294967295 := by omega
  have e1 : IntKind.i64.wrap 30 = 30 := by decide
  have e2 : IntKind.i64.wrap ((x : Int) * 1073741824) = (x : Int) * 1073741824 := IntWalk.i64_in _ (by omega)
  have e3 : bits .or .i64 ((x : Int) / 4) ((x * 1073741824 % 4294967296 : Nat) : Int) = ((Sha.rotr x 2 : Nat) : Int) := by
    rw [show (x : Int) / 4 = ((x / 4 : Nat) : Int) by omega, i64_or_nat _ _ (by omega) (by omega)]
    congr 1
    exact Sha.rotr_or x 2
  have HW : Hid (∀ wx : World, Calls Tryd.prog 26 #[.int .i64 ((x : Int) * 1073741824)] wx fun e w' => e = .returned (.int .i64 ((x * 1073741824 % 4294967296 : Nat) : Int)) ∧ w' = wx) := Lib.hid fun wx => (word_any (x * 1073741824) (by omega) wx).mono fun _ _ ⟨h1, h2⟩ => ⟨h1, h2.symm⟩
  obtain ⟨V, hV⟩ : ∃ V, x * 1073741824 % 4294967296 = V := ⟨_, rfl⟩
  rw [hV] at HW e3
  clear hV
  clear hx
  generalize Sha.rotr x 2 = R at *
  go_enter Tryd.func27, Tryd.ntmps27
  go_wp2_with fail
  go_quiet ((go_at_call 26; exact Calls.quiet_of_same (HW.out _)))
  go_wp2_with fail
  go_ret
  exact ⟨rfl, _, rfl⟩
theorem turn6 (x : Nat) (hx : x < 4294967296) (w : World) : Calls Tryd.prog 27 #[.int .i64 (x : Int), .int .i64 6] w fun e w' => e = .returned (.int .i64 (Sha.rotr x 6 : Nat)) ∧ ∃ k, w' = w.drewN k := by
  have h0 : (0 : Int) ≤ (x : Int) := by omega
  have h1 : (x : Int) ≤ 4294967295 := by omega
  have e1 : IntKind.i64.wrap 26 = 26 := by decide
  have e2 : IntKind.i64.wrap ((x : Int) * 67108864) = (x : Int) * 67108864 := IntWalk.i64_in _ (by omega)
  have e3 : bits .or .i64 ((x : Int) / 64) ((x * 67108864 % 4294967296 : Nat) : Int) = ((Sha.rotr x 6 : Nat) : Int) := by
    rw [show (x : Int) / 64 = ((x / 64 : Nat) : Int) by omega, i64_or_nat _ _ (by omega) (by omega)]
    congr 1
    exact Sha.rotr_or x 6
  have HW : Hid (∀ wx : World, Calls Tryd.prog 26 #[.int .i64 ((x : Int) * 67108864)] wx fun e w' => e = .returned (.int .i64 ((x * 67108864 % 4294967296 : Nat) : Int)) ∧ w' = wx) := Lib.hid fun wx => (word_any (x * 67108864) (by omega) wx).mono fun _ _ ⟨h1, h2⟩ => ⟨h1, h2.symm⟩
  obtain ⟨V, hV⟩ : ∃ V, x * 67108864 % 4294967296 = V := ⟨_, rfl⟩
  rw [hV] at HW e3
  clear hV
  clear hx
  generalize Sha.rotr x 6 = R at *
  go_enter Tryd.func27, Tryd.ntmps27
  go_wp2_with fail
  go_quiet ((go_at_call 26; exact Calls.quiet_of_same (HW.out _)))
  go_wp2_with fail
  go_ret
  exact ⟨rfl, _, rfl⟩
theorem turn7 (x : Nat) (hx : x < 4294967296) (w : World) : Calls Tryd.prog 27 #[.int .i64 (x : Int), .int .i64 7] w fun e w' => e = .returned (.int .i64 (Sha.rotr x 7 : Nat)) ∧ ∃ k, w' = w.drewN k := by
  have h0 : (0 : Int) ≤ (x : Int) := by omega
  have h1 : (x : Int) ≤ 4294967295 := by omega
  have e1 : IntKind.i64.wrap 25 = 25 := by decide
  have e2 : IntKind.i64.wrap ((x : Int) * 33554432) = (x : Int) * 33554432 := IntWalk.i64_in _ (by omega)
  have e3 : bits .or .i64 ((x : Int) / 128) ((x * 33554432 % 4294967296 : Nat) : Int) = ((Sha.rotr x 7 : Nat) : Int) := by
    rw [show (x : Int) / 128 = ((x / 128 : Nat) : Int) by omega, i64_or_nat _ _ (by omega) (by omega)]
    congr 1
    exact Sha.rotr_or x 7
  have HW : Hid (∀ wx : World, Calls Tryd.prog 26 #[.int .i64 ((x : Int) * 33554432)] wx fun e w' => e = .returned (.int .i64 ((x * 33554432 % 4294967296 : Nat) : Int)) ∧ w' = wx) := Lib.hid fun wx => (word_any (x * 33554432) (by omega) wx).mono fun _ _ ⟨h1, h2⟩ => ⟨h1, h2.symm⟩
  obtain ⟨V, hV⟩ : ∃ V, x * 33554432 % 4294967296 = V := ⟨_, rfl⟩
  rw [hV] at HW e3
  clear hV
  clear hx
  generalize Sha.rotr x 7 = R at *
  go_enter Tryd.func27, Tryd.ntmps27
  go_wp2_with fail
  go_quiet ((go_at_call 26; exact Calls.quiet_of_same (HW.out _)))
  go_wp2_with fail
  go_ret
  exact ⟨rfl, _, rfl⟩
theorem turn11 (x : Nat) (hx : x < 4294967296) (w : World) : Calls Tryd.prog 27 #[.int .i64 (x : Int), .int .i64 11] w fun e w' => e = .returned (.int .i64 (Sha.rotr x 11 : Nat)) ∧ ∃ k, w' = w.drewN k := by
  have h0 : (0 : Int) ≤ (x : Int) := by omega
  have h1 : (x : Int) ≤ 4294967295 := by omega
  have e1 : IntKind.i64.wrap 21 = 21 := by decide
  have e2 : IntKind.i64.wrap ((x : Int) * 2097152) = (x : Int) * 2097152 := IntWalk.i64_in _ (by omega)
  have e3 : bits .or .i64 ((x : Int) / 2048) ((x * 2097152 % 4294967296 : Nat) : Int) = ((Sha.rotr x 11 : Nat) : Int) := by
    rw [show (x : Int) / 2048 = ((x / 2048 : Nat) : Int) by omega, i64_or_nat _ _ (by omega) (by omega)]
    congr 1
    exact Sha.rotr_or x 11
  have HW : Hid (∀ wx : World, Calls Tryd.prog 26 #[.int .i64 ((x : Int) * 2097152)] wx fun e w' => e = .returned (.int .i64 ((x * 2097152 % 4294967296 : Nat) : Int)) ∧ w' = wx) := Lib.hid fun wx => (word_any (x * 2097152) (by omega) wx).mono fun _ _ ⟨h1, h2⟩ => ⟨h1, h2.symm⟩
  obtain ⟨V, hV⟩ : ∃ V, x * 2097152 % 4294967296 = V := ⟨_, rfl⟩
  rw [hV] at HW e3
  clear hV
  clear hx
  generalize Sha.rotr x 11 = R at *
  go_enter Tryd.func27, Tryd.ntmps27
  go_wp2_with fail
  go_quiet ((go_at_call 26; exact Calls.quiet_of_same (HW.out _)))
  go_wp2_with fail
  go_ret
  exact ⟨rfl, _, rfl⟩
theorem turn13 (x : Nat) (hx : x < 4294967296) (w : World) : Calls Tryd.prog 27 #[.int .i64 (x : Int), .int .i64 13] w fun e w' => e = .returned (.int .i64 (Sha.rotr x 13 : Nat)) ∧ ∃ k, w' = w.drewN k := by
  have h0 : (0 : Int) ≤ (x : Int) := by omega
  have h1 : (x : Int) ≤ 4294967295 := by omega
  have e1 : IntKind.i64.wrap 19 = 19 := by decide
  have e2 : IntKind.i64.wrap ((x : Int) * 524288) = (x : Int) * 524288 := IntWalk.i64_in _ (by omega)
  have e3 : bits .or .i64 ((x : Int) / 8192) ((x * 524288 % 4294967296 : Nat) : Int) = ((Sha.rotr x 13 : Nat) : Int) := by
    rw [show (x : Int) / 8192 = ((x / 8192 : Nat) : Int) by omega, i64_or_nat _ _ (by omega) (by omega)]
    congr 1
    exact Sha.rotr_or x 13
  have HW : Hid (∀ wx : World, Calls Tryd.prog 26 #[.int .i64 ((x : Int) * 524288)] wx fun e w' => e = .returned (.int .i64 ((x * 524288 % 4294967296 : Nat) : Int)) ∧ w' = wx) := Lib.hid fun wx => (word_any (x * 524288) (by omega) wx).mono fun _ _ ⟨h1, h2⟩ => ⟨h1, h2.symm⟩
  obtain ⟨V, hV⟩ : ∃ V, x * 524288 % 4294967296 = V := ⟨_, rfl⟩
  rw [hV] at HW e3
  clear hV
  clear hx
  generalize Sha.rotr x 13 = R at *
  go_enter Tryd.func27, Tryd.ntmps27
  go_wp2_with fail
  go_quiet ((go_at_call 26; exact Calls.quiet_of_same (HW.out _)))
  go_wp2_with fail
  go_ret
  exact ⟨rfl, _, rfl⟩
theorem turn17 (x : Nat) (hx : x < 4294967296) (w : World) : Calls Tryd.prog 27 #[.int .i64 (x : Int), .int .i64 17] w fun e w' => e = .returned (.int .i64 (Sha.rotr x 17 : Nat)) ∧ ∃ k, w' = w.drewN k := by
  have h0 : (0 : Int) ≤ (x : Int) := by omega
  have h1 : (x : Int) ≤ 4294967295 := by omega
  have e1 : IntKind.i64.wrap 15 = 15 := by decide
  have e2 : IntKind.i64.wrap ((x : Int) * 32768) = (x : Int) * 32768 := IntWalk.i64_in _ (by omega)
  have e3 : bits .or .i64 ((x : Int) / 131072) ((x * 32768 % 4294967296 : Nat) : Int) = ((Sha.rotr x 17 : Nat) : Int) := by
    rw [show (x : Int) / 131072 = ((x / 131072 : Nat) : Int) by omega, i64_or_nat _ _ (by omega) (by omega)]
    congr 1
    exact Sha.rotr_or x 17
  have HW : Hid (∀ wx : World, Calls Tryd.prog 26 #[.int .i64 ((x : Int) * 32768)] wx fun e w' => e = .returned (.int .i64 ((x * 32768 % 4294967296 : Nat) : Int)) ∧ w' = wx) := Lib.hid fun wx => (word_any (x * 32768) (by omega) wx).mono fun _ _ ⟨h1, h2⟩ => ⟨h1, h2.symm⟩
  obtain ⟨V, hV⟩ : ∃ V, x * 32768 % 4294967296 = V := ⟨_, rfl⟩
  rw [hV] at HW e3
  clear hV
  clear hx
  generalize Sha.rotr x 17 = R at *
  go_enter Tryd.func27, Tryd.ntmps27
  go_wp2_with fail
  go_quiet ((go_at_call 26; exact Calls.quiet_of_same (HW.out _)))
  go_wp2_with fail
  go_ret
  exact ⟨rfl, _, rfl⟩
theorem turn18 (x : Nat) (hx : x < 4294967296) (w : World) : Calls Tryd.prog 27 #[.int .i64 (x : Int), .int .i64 18] w fun e w' => e = .returned (.int .i64 (Sha.rotr x 18 : Nat)) ∧ ∃ k, w' = w.drewN k := by
  have h0 : (0 : Int) ≤ (x : Int) := by omega
  have h1 : (x : Int) ≤ 4294967295 := by omega
  have e1 : IntKind.i64.wrap 14 = 14 := by decide
  have e2 : IntKind.i64.wrap ((x : Int) * 16384) = (x : Int) * 16384 := IntWalk.i64_in _ (by omega)
  have e3 : bits .or .i64 ((x : Int) / 262144) ((x * 16384 % 4294967296 : Nat) : Int) = ((Sha.rotr x 18 : Nat) : Int) := by
    rw [show (x : Int) / 262144 = ((x / 262144 : Nat) : Int) by omega, i64_or_nat _ _ (by omega) (by omega)]
    congr 1
    exact Sha.rotr_or x 18
  have HW : Hid (∀ wx : World, Calls Tryd.prog 26 #[.int .i64 ((x : Int) * 16384)] wx fun e w' => e = .returned (.int .i64 ((x * 16384 % 4294967296 : Nat) : Int)) ∧ w' = wx) := Lib.hid fun wx => (word_any (x * 16384) (by omega) wx).mono fun _ _ ⟨h1, h2⟩ => ⟨h1, h2.symm⟩
  obtain ⟨V, hV⟩ : ∃ V, x * 16384 % 4294967296 = V := ⟨_, rfl⟩
  rw [hV] at HW e3
  clear hV
  clear hx
  generalize Sha.rotr x 18 = R at *
  go_enter Tryd.func27, Tryd.ntmps27
  go_wp2_with fail
  go_quiet ((go_at_call 26; exact Calls.quiet_of_same (HW.out _)))
  go_wp2_with fail
  go_ret
  exact ⟨rfl, _, rfl⟩
theorem turn19 (x : Nat) (hx : x < 4294967296) (w : World) : Calls Tryd.prog 27 #[.int .i64 (x : Int), .int .i64 19] w fun e w' => e = .returned (.int .i64 (Sha.rotr x 19 : Nat)) ∧ ∃ k, w' = w.drewN k := by
  have h0 : (0 : Int) ≤ (x : Int) := by omega
  have h1 : (x : Int) ≤ 4294967295 := by omega
  have e1 : IntKind.i64.wrap 13 = 13 := by decide
  have e2 : IntKind.i64.wrap ((x : Int) * 8192) = (x : Int) * 8192 := IntWalk.i64_in _ (by omega)
  have e3 : bits .or .i64 ((x : Int) / 524288) ((x * 8192 % 4294967296 : Nat) : Int) = ((Sha.rotr x 19 : Nat) : Int) := by
    rw [show (x : Int) / 524288 = ((x / 524288 : Nat) : Int) by omega, i64_or_nat _ _ (by omega) (by omega)]
    congr 1
    exact Sha.rotr_or x 19
  have HW : Hid (∀ wx : World, Calls Tryd.prog 26 #[.int .i64 ((x : Int) * 8192)] wx fun e w' => e = .returned (.int .i64 ((x * 8192 % 4294967296 : Nat) : Int)) ∧ w' = wx) := Lib.hid fun wx => (word_any (x * 8192) (by omega) wx).mono fun _ _ ⟨h1, h2⟩ => ⟨h1, h2.symm⟩
  obtain ⟨V, hV⟩ : ∃ V, x * 8192 % 4294967296 = V := ⟨_, rfl⟩
  rw [hV] at HW e3
  clear hV
  clear hx
  generalize Sha.rotr x 19 = R at *
  go_enter Tryd.func27, Tryd.ntmps27
  go_wp2_with fail
  go_quiet ((go_at_call 26; exact Calls.quiet_of_same (HW.out _)))
  go_wp2_with fail
  go_ret
  exact ⟨rfl, _, rfl⟩
theorem turn22 (x : Nat) (hx : x < 4294967296) (w : World) : Calls Tryd.prog 27 #[.int .i64 (x : Int), .int .i64 22] w fun e w' => e = .returned (.int .i64 (Sha.rotr x 22 : Nat)) ∧ ∃ k, w' = w.drewN k := by
  have h0 : (0 : Int) ≤ (x : Int) := by omega
  have h1 : (x : Int) ≤ 4294967295 := by omega
  have e1 : IntKind.i64.wrap 10 = 10 := by decide
  have e2 : IntKind.i64.wrap ((x : Int) * 1024) = (x : Int) * 1024 := IntWalk.i64_in _ (by omega)
  have e3 : bits .or .i64 ((x : Int) / 4194304) ((x * 1024 % 4294967296 : Nat) : Int) = ((Sha.rotr x 22 : Nat) : Int) := by
    rw [show (x : Int) / 4194304 = ((x / 4194304 : Nat) : Int) by omega, i64_or_nat _ _ (by omega) (by omega)]
    congr 1
    exact Sha.rotr_or x 22
  have HW : Hid (∀ wx : World, Calls Tryd.prog 26 #[.int .i64 ((x : Int) * 1024)] wx fun e w' => e = .returned (.int .i64 ((x * 1024 % 4294967296 : Nat) : Int)) ∧ w' = wx) := Lib.hid fun wx => (word_any (x * 1024) (by omega) wx).mono fun _ _ ⟨h1, h2⟩ => ⟨h1, h2.symm⟩
  obtain ⟨V, hV⟩ : ∃ V, x * 1024 % 4294967296 = V := ⟨_, rfl⟩
  rw [hV] at HW e3
  clear hV
  clear hx
  generalize Sha.rotr x 22 = R at *
  go_enter Tryd.func27, Tryd.ntmps27
  go_wp2_with fail
  go_quiet ((go_at_call 26; exact Calls.quiet_of_same (HW.out _)))
  go_wp2_with fail
  go_ret
  exact ⟨rfl, _, rfl⟩
theorem turn25 (x : Nat) (hx : x < 4294967296) (w : World) : Calls Tryd.prog 27 #[.int .i64 (x : Int), .int .i64 25] w fun e w' => e = .returned (.int .i64 (Sha.rotr x 25 : Nat)) ∧ ∃ k, w' = w.drewN k := by
  have h0 : (0 : Int) ≤ (x : Int) := by omega
  have h1 : (x : Int) ≤ 4294967295 := by omega
  have e1 : IntKind.i64.wrap 7 = 7 := by decide
  have e2 : IntKind.i64.wrap ((x : Int) * 128) = (x : Int) * 128 := IntWalk.i64_in _ (by omega)
  have e3 : bits .or .i64 ((x : Int) / 33554432) ((x * 128 % 4294967296 : Nat) : Int) = ((Sha.rotr x 25 : Nat) : Int) := by
    rw [show (x : Int) / 33554432 = ((x / 33554432 : Nat) : Int) by omega, i64_or_nat _ _ (by omega) (by omega)]
    congr 1
    exact Sha.rotr_or x 25
  have HW : Hid (∀ wx : World, Calls Tryd.prog 26 #[.int .i64 ((x : Int) * 128)] wx fun e w' => e = .returned (.int .i64 ((x * 128 % 4294967296 : Nat) : Int)) ∧ w' = wx) := Lib.hid fun wx => (word_any (x * 128) (by omega) wx).mono fun _ _ ⟨h1, h2⟩ => ⟨h1, h2.symm⟩
  obtain ⟨V, hV⟩ : ∃ V, x * 128 % 4294967296 = V := ⟨_, rfl⟩
  rw [hV] at HW e3
  clear hV
  clear hx
  generalize Sha.rotr x 25 = R at *
  go_enter Tryd.func27, Tryd.ntmps27
  go_wp2_with fail
  go_quiet ((go_at_call 26; exact Calls.quiet_of_same (HW.out _)))
  go_wp2_with fail
  go_ret
  exact ⟨rfl, _, rfl⟩
end Go.Proofs.YtfmhcomebjggoaaDoor
