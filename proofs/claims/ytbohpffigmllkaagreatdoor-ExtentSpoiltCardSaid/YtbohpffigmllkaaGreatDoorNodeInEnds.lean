/-
  pack: the ends of an In (Zero).
-/
import Derived.Test.YtbohpffigmllkaaGreatDoorPackIn
namespace Go.Proofs.YtbohpffigmllkaaGreatDoor
open Go.RowKit

set_option maxHeartbeats 400000 in
theorem zero_ok (p : Addr) (s : ByteArray) (w : World) (hs : ∀ k (h : k < s.size), s[k] = 0) (hl : s.size ≤ maxLen) (hc : w.cell? p = some (.string s)) (hz : w.frozen? p = false) :
    Calls Tryz.prog 133 #[.pointer (some p)] w fun e w' => e = .returned (.tuple #[]) ∧ w.setCell p (.string ⟨#[]⟩) = w' := by
  unfold maxLen at hl
  have HS := Lib.hid hs
  clear hs
  go_enter Tryz.func133, Tryz.ntmps133
  go_wp2
  go_loop [8] (fun i => ∃ k : Nat, k ≤ s.size ∧ i = .int .i64 k) (fun i => s.size - (intOf i).toNat)
  case atStart => exact ⟨0, by omega, rfl⟩
  case round =>
    obtain ⟨k, hk, rfl⟩ := hrel
    by_cases hlt : k < s.size
    · have h0 := HS.out k hlt
      go_wp2
      go_round
      case rel => exact ⟨k + 1, by omega, by go_num⟩
      case measure => simp [intOf]; omega
    · go_wp2
      go_end0
      exact ⟨rfl, rfl⟩
end Go.Proofs.YtbohpffigmllkaaGreatDoor
