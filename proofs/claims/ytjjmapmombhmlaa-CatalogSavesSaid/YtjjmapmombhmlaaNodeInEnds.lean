/-
  pack: the ends of an In (Done, Zero).
-/
import Derived.Test.YtjjmapmombhmlaaPackIn
namespace Go.Proofs.Ytjjmapmombhmlaa
open Go.RowKit

theorem done_ok (p : Addr) (w : World) (hc : w.cell? p = some (.string ⟨#[]⟩)) :
    Calls Try.prog 129 #[.pointer (some p)] w fun e w' => e = .returned (.tuple #[]) ∧ w = w' := by
  go_enter Try.func129, Try.ntmps129
  go_wp2
  go_end0
  exact ⟨rfl, rfl⟩
theorem done_not (p : Addr) (s : ByteArray) (w : World) (hs : (!s.toList.isEmpty) = true) (hc : w.cell? p = some (.string s)) :
    Calls Try.prog 129 #[.pointer (some p)] w fun e w' => e = failed 1 ∧ w = w' := by
  go_enter Try.func129, Try.ntmps129
  go_wp2_with fail
  refine (fail_any 1 _).mono ?_
  rintro e w' ⟨rfl, rfl⟩
  unfold failed
  go_wp2
  exact ⟨rfl, rfl, rfl⟩
set_option maxHeartbeats 400000 in
theorem zero_ok (p : Addr) (s : ByteArray) (w : World) (hs : ∀ k (h : k < s.size), s[k] = 0) (hl : s.size ≤ maxLen) (hc : w.cell? p = some (.string s)) (hz : w.frozen? p = false) :
    Calls Try.prog 118 #[.pointer (some p)] w fun e w' => e = .returned (.tuple #[]) ∧ w.setCell p (.string ⟨#[]⟩) = w' := by
  unfold maxLen at hl
  have HS := Lib.hid hs
  clear hs
  go_enter Try.func118, Try.ntmps118
  go_wp2
  go_loop [8] (fun i => ∃ k : Nat, k ≤ s.size ∧ i = .int .i64 k) (fun i => s.size - (intOf i).toNat)
  case atStart => exact ⟨0, by omega, rfl⟩
  case round =>
    obtain ⟨k, hk, rfl⟩ := hrel
    by_cases hlt : k < s.size
    · have h0 := HS.out k hlt
      go_wp2
      go_round
      case rel => exact ⟨k + 1, by omega, by go_num⟩
      case measure => simp [intOf]; omega
    · go_wp2
      go_end0
      exact ⟨rfl, rfl⟩
set_option maxHeartbeats 400000 in
theorem zero_not (p : Addr) (s : ByteArray) (w : World) (j : Nat) (hj : j < s.size) (hne : s[j] ≠ 0) (hs : ∀ k (h : k < j), s[k] = 0) (hl : s.size ≤ maxLen) (hc : w.cell? p = some (.string s)) :
    Calls Try.prog 118 #[.pointer (some p)] w fun e w' => e = failed 1 ∧ w = w' := by
  unfold maxLen at hl
  have HS := Lib.hid hs
  have HN := Lib.hid hne
  clear hs hne
  go_enter Try.func118, Try.ntmps118
  go_wp2
  go_loop [8] (fun i => ∃ k : Nat, k ≤ j ∧ i = .int .i64 k) (fun i => s.size - (intOf i).toNat)
  case atStart => exact ⟨0, by omega, rfl⟩
  case round =>
    obtain ⟨k, hk, rfl⟩ := hrel
    by_cases hlt : k < j
    · have h0 := HS.out k hlt
      go_wp2_with fail
      go_round
      case rel => exact ⟨k + 1, by omega, by go_num⟩
      case measure => simp [intOf]; omega
    · obtain rfl : k = j := by omega
      have h0 : (((s[k].toNat : Nat) : Int) != 0) = true := by
        have := HN.out
        simp
        intro e
        exact this (UInt8.toNat_inj.1 (by simpa using e))
      go_wp2_with fail
      refine (fail_any 1 _).mono ?_
      rintro e w' ⟨rfl, rfl⟩
      unfold failed
      go_wp2
      exact ⟨rfl, rfl, rfl⟩
end Go.Proofs.Ytjjmapmombhmlaa
