/-
  The document's Cost: a contract.
-/
import Derived.Test.YtafiicmcngmdlaaRingAppend
import Derived.Deep.LoopGhost
namespace Go.Proofs.Ytafiicmcngmdlaa
open Go.RowKit

theorem refCost_any (s : Nat) (w : World) (hs : s < 1000000) :
    Calls Try.prog 51 #[.int .i64 s] w fun e w' => e = .returned (.int .i64 (costOf s : Nat)) ∧ w = w' := by
  obtain ⟨d, hd, d0, d1, d2⟩ := cost_pos s
  rw [hd]
  clear hd
  go_enter Try.func51, Try.ntmps51
  go_wp2_with fail
  go_loopw [3] (fun i wx => ∃ k : Nat, 1 ≤ k ∧ k ≤ d + 1 ∧ i = .int .i64 k ∧ wx = w) (fun i _ => d + 1 - (intOf i).toNat)
  case atStart => exact ⟨1, by omega, by omega, rfl, rfl⟩
  case round =>
    obtain ⟨k, hk1, hk, rfl, rfl⟩ := hrel
    by_cases hlt : k < d + 1
    · have i1 : 46 * (k : Int) < (s : Int) := by have := d2 (k - 1) (by omega); omega
      go_wp2_with fail
      go_roundw
      case rel => exact ⟨k + 1, by omega, by omega, by go_num, trivial⟩
      case measure => simp [intOf]; omega
    · obtain rfl : k = d + 1 := by omega
      have i1 : ¬ 46 * ((d + 1 : Nat) : Int) < (s : Int) := by omega
      go_wp2_with fail
      go_ret
      exact ⟨rfl, rfl⟩
end Go.Proofs.Ytafiicmcngmdlaa
