/-
  Four numbers handed in by value: they are a list's cells.
-/
import Derived.Test.YtfmhcomebjggoaaDoorExtKit
import Derived.ProofKit
import Derived.OpenShut
namespace Go.Proofs.YtfmhcomebjggoaaDoor
open Go.ChangeShapes Go.WideShapes Go.ChangeAt Go.RowKit

theorem okWide_array {P : Program} {w : World} {r : Reach} {base : Nat} {t e : TypeId} {n : Nat} {v : Value} (ht : P.underlying t = some (.array n e)) (h : Value.okWide P w r base t v) : ∃ cs, v = .agg cs ∧ cs.size = P.cellsOf t := by
  simp only [Value.okWide, ht] at h
  obtain ⟨cs, h1, h2, _⟩ := h
  exact ⟨cs, h1, h2⟩
def intAt (cs : List Value) (j : Nat) : Int := match cs[j]? with | some (.int _ n) => n | _ => 0
section
variable {H : Type} {enc : TypeId × Value → H} {w : World} {base : Nat} {spare : Nat → Bool} {held : Bool} {fuel : Nat} {cs : List Value} {x : DataW H × List MemPlace}
theorem ints_of_trod (h : DataW.trod enc Tryd.prog w base spare held fuel 22 cs = some x) : cs.length = 4 ∧ ∀ j, j < 4 → ∃ n, cs[j]? = some (.int .i64 n) := by
  obtain ⟨xs, m, _, _, hl, hx, hi⟩ := DataW.trod_array Tryd.underlying22 h
  rw [show Tryd.prog.cellsOf 22 = 4 by kernel_rfl] at hl
  rw [show Tryd.prog.cellsOf 3 = 1 by kernel_rfl] at hi
  refine ⟨hl, fun j hj => ?_⟩
  have h1 := hi j hj
  rw [List.getElem?_eq_getElem (by omega)] at h1
  obtain ⟨n, e, _, hw⟩ := DataW.trod_int Tryd.underlying3 h1
  have hc : cs[j]? = some (.int .i64 n) := by
    have := congrArg (fun l => l[0]?) e
    simpa using this
  exact ⟨n, hc⟩
end
set_option maxRecDepth 20000 in
theorem open_ats {H : Type} {enc : TypeId × Value → H} {w : World} {base b0 : Nat} {spare : Nat → Bool} {held : Bool} {r : Reach} {v : Value} {d : DataW H} {p : List MemPlace}
    (hv : Value.okWide Tryd.prog w r b0 22 v) (h : DataW.Trod enc Tryd.prog w base spare held 22 v d p) :
    ∃ K : Nat → Int, v = .agg (intsL K).toArray := by
  obtain ⟨cs, rfl, _⟩ := okWide_array Tryd.underlying22 hv
  obtain ⟨fuel, hf⟩ := h
  have hb : cs.toList.length = 4 ∧ ∀ j, j < 4 → ∃ n, cs.toList[j]? = some (.int .i64 n) := ints_of_trod hf
  refine ⟨intAt cs.toList, ?_⟩
  congr 1
  apply Array.toList_inj.mp
  refine List.ext_getElem? fun j => ?_
  have hl := hb.1
  by_cases hj : j < 4
  · obtain ⟨n, hc⟩ := hb.2 j hj
    rw [List.toList_toArray, intsL_at _ j hj, hc]
    unfold intAt
    rw [hc]
  · rw [List.toList_toArray, List.getElem?_eq_none (by omega), List.getElem?_eq_none (by rw [intsL_len]; omega)]
end Go.Proofs.YtfmhcomebjggoaaDoor
