/-
  Small facts that the contracts of disk and ring want: of an int, and of a slice that the call itself made.
-/
import Derived.Test.YtjggofbaipppbaaGrew
import Derived.Test.YtjggofbaipppbaaBoxes
import Derived.Deep.OwnRows
import Derived.Deep.LoopGhost
import Derived.Deep.DeepCutAuto
import Derived.Deep.RegionHeld3
import Derived.IntWalk
import Derived.Laws.AppendOwn
import Derived.Deep.RegionLaw
import Derived.Test.YtjggofbaipppbaaPackOuts
namespace Go.Proofs.Ytjggofbaipppbaa
open Go.RowKit
theorem infoInt : (Try.prog.info? 3).map (fun i => (i.zero, i.size, i.bytes)) = some (some (.int .i64 0), 1, 8) := by kernel_rfl
theorem rowOwn {w : World} {base n z : Nat} {t : TypeId} {v : Value} {xs : List Value} (h : w.ownsRow base t z v n xs) : (∀ k, v.ownBlock = some k → base ≤ k) ∧ ∃ a c, v = .slice a n c := by
  rcases h.2 with ⟨rfl, h0⟩ | ⟨g', cap', cur, rfl, hb, _⟩
  · refine ⟨fun k hk => (by cases hk), ?_⟩
    subst h0
    exact ⟨none, 0, rfl⟩
  · exact ⟨fun k hk => (by simp [Value.ownBlock] at hk; omega), _, _, rfl⟩
end Go.Proofs.Ytjggofbaipppbaa
