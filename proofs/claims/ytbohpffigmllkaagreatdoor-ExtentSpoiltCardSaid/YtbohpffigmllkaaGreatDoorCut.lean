/-
  The law's own Cut: at most n bytes of a text.
-/
import Derived.Test.YtbohpffigmllkaaGreatDoorRows
import Derived.WalkKit
import Derived.WalkSpells
import Derived.WalkLawsBesides
import Derived.Lib.Hide
namespace Go.Proofs.YtbohpffigmllkaaGreatDoor
open Go.RowKit

set_option maxHeartbeats 400000 in
theorem cut_any (s : ByteArray) (n : Nat) (w : World) (_hs : s.size ≤ maxLen) (_hn : n < 1000) :
    Calls Tryz.prog 42 #[.string s, .int .i64 n] w fun e w' => e = .returned (.string (s.extract 0 (min n s.size))) ∧ w = w' := by
  unfold maxLen at _hs
  by_cases h : n < s.size
  · rw [Nat.min_eq_left (by omega)]
    go_enter Tryz.func42, Tryz.ntmps42
    go_wp2
    go_ret
    exact ⟨rfl, rfl⟩
  · rw [Nat.min_eq_right (by omega)]
    go_enter Tryz.func42, Tryz.ntmps42
    go_wp2
    go_ret
    refine ⟨?_, rfl⟩
    simp
theorem cut_law (s : ByteArray) (n : Nat) (hs : s.size ≤ maxLen) (hn : n < 1000) : ∃ t : ByteArray, t.size ≤ n ∧ ∀ w : World,
    Calls Tryz.prog 42 #[.string s, .int .i64 n] w fun e w' => e = .returned (.string t) ∧ w = w' :=
  ⟨s.extract 0 (min n s.size), by rw [ByteArray.size_extract]; omega, fun w => cut_any s n w hs hn⟩
end Go.Proofs.YtbohpffigmllkaaGreatDoor
