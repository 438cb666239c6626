/-
  What the condition on sha's two variables gives the walks: their cells.
-/
import Derived.Test.YtbohpffigmllkaaGreatDoorShas
import Derived.ProofKit
import Derived.LaidMore
import Derived.OpenShut
import Derived.Stop.Joined
import Derived.Lib.LaidTab
namespace Go.Proofs.YtbohpffigmllkaaGreatDoor
open Go.RowKit

def startInts : List Int := [1779033703, 3144134277, 1013904242, 2773480762, 1359893119, 2600822924, 528734635, 1541459225]
theorem gStart : Tryz.prog.globalNamed "stereobate/sha.start" = some 0 := by kernel_rfl
theorem gRounds : Tryz.prog.globalNamed "stereobate/sha.rounds" = some 1 := by kernel_rfl
theorem tStart : (Tryz.prog.globals[0]?).map (·.type) = some 124 := by kernel_rfl
theorem tRounds : (Tryz.prog.globals[1]?).map (·.type) = some 172 := by kernel_rfl
theorem laid_of {W : World} (h : laidMetH Tryz.prog Rows.extentCostsRow.laid W) : Laid KK SS W := by
  rw [MakeChecks.laidMetH_plain _ _ _ (by kernel_rfl)] at h
  obtain ⟨ps, ⟨g0, t0, cs0, f0, p0, q0, hg0, ht0, hv0, hd0, ⟨g1, t1, cs1, f1, p1, q1, hg1, ht1, hv1, hd1, _, _⟩, _⟩, _, _⟩ := h
  obtain rfl := Option.some.inj (gStart.symm.trans hg0)
  obtain rfl := Option.some.inj (gRounds.symm.trans hg1)
  obtain rfl := Option.some.inj (tStart.symm.trans ht0)
  obtain rfl := Option.some.inj (tRounds.symm.trans ht1)
  have c36 : Tryz.prog.cellsOf 89 = 1 := by kernel_rfl
  have c37 : Tryz.prog.cellsOf 124 = 8 := by kernel_rfl
  have c52 : Tryz.prog.cellsOf 172 = 64 := by kernel_rfl
  have e0 := Lib.cells_of_tab (zs := startInts) Tryz.underlying124 Tryz.underlying89 c36 c37 hd0
  have e1 := Lib.cells_of_tab (zs := rounds.map fun n : Nat => (n : Int)) Tryz.underlying172 Tryz.underlying89 c36 c52 hd1
  have k1 : ∀ i, i < 64 → W.cell? ⟨1, i, none⟩ = some (.int .u32 (KK i : Nat)) := fun i hi => by
    have z := World.var?_cell hg1 hv1 i
    rw [z]
    have e : cs1[i]? = cs1.toList[i]? := by simp
    rw [e, e1, List.getElem?_map, List.getElem?_map]
    have hr : rounds.length = 64 := rfl
    rw [List.getElem?_eq_getElem (by omega)]
    unfold KK
    rw [List.getD_eq_getElem?_getD, List.getElem?_eq_getElem (by omega)]
    rfl
  refine ⟨fun j v hv => ?_, ?_, k1⟩
  · have z := World.var?_cell hg0 hv0 j
    rw [Nat.zero_add, z]
    have e : cs0[j]? = cs0.toList[j]? := by simp
    rw [e, e0]
    exact hv
  · exact World.block_lt_of_cell? W _ (k1 0 (by decide))
end Go.Proofs.YtbohpffigmllkaaGreatDoor
