/-
  The law's own comparison of texts: a contract.
-/
import Derived.Test.YtakngnigpncmkaaRingMath
import Derived.Test.YtakngnigpncmkaaRingLawScan
import Derived.Test.YtakngnigpncmkaaStampRef
namespace Go.Proofs.Ytakngnigpncmkaa
open Go.RowKit

/-- a row of texts -/
def StrsAt (w : World) (a : Option Addr) (n : Nat) (l : List ByteArray) : Prop := l.length = n ∧ (n = 0 ∨ ∃ b, a = some ⟨b, 0, none⟩ ∧ ∀ i (h : i < l.length), w.cell? ⟨b, i, none⟩ = some (.string l[i]))
theorem StrsAt.below {w w' : World} {a : Option Addr} {n : Nat} {l : List ByteArray} (h : StrsAt w a n l) (k : Below w.heap.size w w') : StrsAt w' a n l := by
  refine ⟨h.1, ?_⟩
  rcases h.2 with h0 | ⟨b, rfl, hr⟩
  · exact Or.inl h0
  · exact Or.inr ⟨b, rfl, fun i hi => by rw [k.cell (cell_lt (hr i hi))]; exact hr i hi⟩
theorem strs_own {w : World} {B n cap : Nat} {a : Option Addr} {l : List ByteArray} (h : w.ownsRow B 9 1 (.slice a n cap) n (textsOf l)) : StrsAt w a n l := by
  have hl : l.length = n := by simpa [textsOf] using h.1
  refine ⟨hl, ?_⟩
  rcases own_form h with ⟨rfl, h0, _⟩ | ⟨g, rfl, _⟩
  · exact Or.inl h0
  · refine Or.inr ⟨g, rfl, fun i hi => ?_⟩
    have := h.cells (g := g) rfl i (.string l[i]) (by simp [textsOf, hi])
    rw [Addr.add_lit] at this
    simpa using this
set_option maxHeartbeats 1000000 in
theorem same_any (w : World) (a b : Option Addr) (n m ca cb : Nat) (l k : List ByteArray) (ha : StrsAt w a n l) (hb : StrsAt w b m k) (hn : n < 1000000) (he : l = k) :
    Calls Try.prog 49 #[.slice a n ca, .slice b m cb] w fun e w' => e = .returned (.bool true) ∧ Below w.heap.size w w' := by
  subst he
  obtain rfl : n = m := ha.1.symm.trans hb.1
  have HA := Lib.hid ha
  have HB := Lib.hid hb
  clear ha hb
  go_enter Try.func49, Try.ntmps49
  go_wp2_with fail
  go_loopw [13] (fun i wx => ∃ j : Nat, j ≤ n ∧ i = .int .i64 j ∧ Below w.heap.size w wx) (fun i _ => n - (intOf i).toNat)
  case atStart => exact ⟨0, by omega, rfl, Below.refl _ _⟩
  case round =>
    obtain ⟨j, hj, rfl, hB⟩ := hrel
    have HBl := Lib.hid hB
    clear hB
    by_cases hlt : j < n
    · have i1 : (j : Int) < (n : Int) := by omega
      have i2 : (0 : Int) ≤ (j : Int) := by omega
      have hl := HA.out.1
      rcases (HA.out.below HBl.out).2 with h0 | ⟨ba, rfl, q1⟩
      · omega
      rcases (HB.out.below HBl.out).2 with h0 | ⟨bb, rfl, q2⟩
      · omega
      have r1 := q1 j (by omega)
      have r2 := q2 j (by omega)
      generalize l[j]'(by omega) = L at *
      clear q1 q2 hl
      go_upto_region 6 with fail
      go_region_held3 (fun wx => wx.cell? ⟨ba, j, none⟩ = some (.string L) ∧ wx.cell? ⟨bb, j, none⟩ = some (.string L)) (exact ⟨r1, r2⟩) (fail)
      clear r1 r2
      go_wp2_with fail
      go_roundw
      case rel => exact ⟨j + 1, by omega, by go_num, HBl.out.drew⟩
      case measure => simp [intOf]; omega
    · have i1 : ¬ (j : Int) < (n : Int) := by omega
      go_wp2_with fail
      go_ret
      exact ⟨rfl, HBl.out⟩
end Go.Proofs.Ytakngnigpncmkaa
