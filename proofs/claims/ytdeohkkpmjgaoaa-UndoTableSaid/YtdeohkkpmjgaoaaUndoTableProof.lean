/-
  For all keys, values and failures UndoTable answers true and leaves its arguments as they were: no condition.
-/
import Derived.Test.YtdeohkkpmjgaoaaUndoTable
import Derived.ProofKit
import Derived.OpenShut
import Derived.ShutString
import Derived.Deep.Slices
import Derived.Deep.Grids
import Derived.SliceStrings
namespace Go.Proofs.Ytdeohkkpmjgaoaa.undoTable
open Go.ChangeShapes Go.WideShapes Go.ChangeAt Go.RowKit Go.Deep
open Go.ChangeMaps (open_string shut_string)
set_option linter.unusedVariables false
theorem own : ownKnob Try.prog.godebug = none := by kernel_rfl
theorem laidOut : laidOutB Try.prog = true := by kernel_rfl
theorem cellsText : Try.prog.cellsOf 9 = 1 := by kernel_rfl
theorem cellsBool : Try.prog.cellsOf 4 = 1 := by kernel_rfl
theorem row_at {w : World} {a : Addr} {n : Nat} {V : Nat → Value} (h : ∀ i, i < n → w.cell? (a.add i) = some (V i)) (hp : 0 < n) :
    ∃ b off, a = ⟨b, off, none⟩ ∧ ∀ j, j < n → w.cell? ⟨b, off + j, none⟩ = some (V j) := by
  obtain ⟨b, off, spot⟩ := a
  have hspot : spot = none := by simpa [Addr.add] using World.cell?_spot (h 0 hp)
  subst hspot
  exact ⟨b, off, rfl, fun j hj => by rw [← Go.WideShapes.add_plain]; exact h j hj⟩

set_option maxRecDepth 100000 in
theorem lifted (os : Os) (started : os.Started) (H : Type) (enc : TypeId × Value → H) :
    ReturnsInHanded {} Try.checked os 4 .any (Rows.undoTableSpec.pre6 enc Try.prog Try.f4 Rows.undoTableRow.domain false) (Rows.undoTableSpec.post enc Try.prog Try.f4 false true false false) := by
  refine returnsInHanded_of_change (C := Try.checked) own started (by kernel_rfl) Try.func4
    (ChangeSpec.witness6 (enc := enc) (C := Try.checked) false ⟨#[], #[.slice none 0 0, .slice none 0 0, .slice none 0 0], []⟩ 8 (by kernel_rfl) (by kernel_rfl) (by kernel_rfl) (by kernel_rfl)) ?_
  intro W base args ds gs before hval0 hW hcnd _
  have hval : ∀ (j : Nat) t v, Try.f4.params[j]? = some t → args[j]? = some v → Value.okWide Try.prog W .any base t v := hval0
  have hW' := hW
  obtain ⟨p, q, hA0, hV, rfl, hfz, hnd⟩ := hW
  have hA : DataW.TrodAll enc Try.prog W 0 (fun _ => true) true Try.f4.params.toList args.toList ds p := hA0
  rw [Try.params4] at hA hval
  obtain ⟨v0, vs0, d0, ds0, p0, q0, hargs, rfl, rfl, h0, r0⟩ := trodAll_cons hA
  obtain ⟨v1, vs1, d1, ds1, p1, q1, rfl, rfl, rfl, h1, r1⟩ := trodAll_cons r0
  obtain ⟨v2, vs2, d2, ds2, p2, q2, rfl, rfl, rfl, h2, r2⟩ := trodAll_cons r1
  obtain ⟨rfl, rfl, rfl⟩ := trodAll_nil r2
  obtain rfl : args = #[v0, v1, v2] := by cases args; simp_all
  obtain ⟨rfl, rfl⟩ := trodVars_none hV
  obtain ⟨a0, l0, c0, rfl⟩ := okWide_slice Try.underlying40 (hval 0 40 v0 rfl rfl)
  have k0 := h0
  obtain ⟨fuel0, f0⟩ := h0
  obtain ⟨a1, l1, c1, rfl⟩ := okWide_slice Try.underlying40 (hval 1 40 v1 rfl rfl)
  have k1 := h1
  obtain ⟨fuel1, f1⟩ := h1
  obtain ⟨a2, l2, c2, rfl⟩ := okWide_slice Try.underlying41 (hval 2 41 v2 rfl rfl)
  have k2 := h2
  obtain ⟨fuel2, f2⟩ := h2
  clear hA0 hval0
  simp only [List.append_nil] at hW'
  have hlt : ∀ x ∈ p0 ++ (p1 ++ p2), x.block < W.heap.size := fun x hx => by simpa using hW'.lt x (by simpa using hx)
  obtain ⟨e0, m0, x0⟩ : ∃ es, l0 ≤ maxLen ∧ StrsIn W a0 l0 es := by
    rcases open_strings Try.underlying40 Try.underlying9 cellsText f0 with ⟨hcs, hx⟩ | ⟨a, len', cap', zs, hcs, _, hl, hm, hz, hx, hcell, hwz⟩
    · simp [Value.cells] at hcs
      exact ⟨fun _ => ⟨#[]⟩, by rw [hcs.2.1]; exact Nat.zero_le _, Or.inl hcs.2.1⟩
    · simp [Value.cells] at hcs
      obtain ⟨rfl, rfl, rfl⟩ := hcs
      simp at hz
      refine ⟨fun i => zs.getD i ByteArray.empty, by omega, ?_⟩
      by_cases h0 : l0 = 0
      · exact Or.inl h0
      · obtain ⟨b, off, rfl, hr⟩ := row_at (n := c0) (V := fun i => .string (zs.getD i ByteArray.empty)) (fun i hi => hcell i (by omega)) (by omega)
        refine Or.inr ⟨b, off, rfl, fun i hi => ⟨hr i (by omega), hwz _ ?_⟩⟩
        show zs.getD i ByteArray.empty ∈ zs
        rw [List.getD_eq_getElem?_getD, List.getElem?_eq_getElem (by omega)]
        exact List.getElem_mem _
  obtain ⟨e1, m1, x1⟩ : ∃ es, l1 ≤ maxLen ∧ StrsIn W a1 l1 es := by
    rcases open_strings Try.underlying40 Try.underlying9 cellsText f1 with ⟨hcs, hx⟩ | ⟨a, len', cap', zs, hcs, _, hl, hm, hz, hx, hcell, hwz⟩
    · simp [Value.cells] at hcs
      exact ⟨fun _ => ⟨#[]⟩, by rw [hcs.2.1]; exact Nat.zero_le _, Or.inl hcs.2.1⟩
    · simp [Value.cells] at hcs
      obtain ⟨rfl, rfl, rfl⟩ := hcs
      simp at hz
      refine ⟨fun i => zs.getD i ByteArray.empty, by omega, ?_⟩
      by_cases h0 : l1 = 0
      · exact Or.inl h0
      · obtain ⟨b, off, rfl, hr⟩ := row_at (n := c1) (V := fun i => .string (zs.getD i ByteArray.empty)) (fun i hi => hcell i (by omega)) (by omega)
        refine Or.inr ⟨b, off, rfl, fun i hi => ⟨hr i (by omega), hwz _ ?_⟩⟩
        show zs.getD i ByteArray.empty ∈ zs
        rw [List.getD_eq_getElem?_getD, List.getElem?_eq_getElem (by omega)]
        exact List.getElem_mem _
  obtain ⟨e2, m2, x2⟩ : ∃ es, l2 ≤ maxLen ∧ BoolsAt W a2 l2 es := by
    rcases open_bools Try.underlying41 Try.underlying4 cellsBool f2 with ⟨hcs, hx⟩ | ⟨a, len', cap', bs, hcs, _, hl, hm, hx, hcell⟩
    · simp [Value.cells] at hcs
      exact ⟨fun _ => false, by rw [hcs.2.1]; exact Nat.zero_le _, Or.inl hcs.2.1⟩
    · simp [Value.cells] at hcs
      obtain ⟨rfl, rfl, rfl⟩ := hcs
      refine ⟨bs, by omega, ?_⟩
      by_cases h0 : l2 = 0
      · exact Or.inl h0
      · obtain ⟨b, off, rfl, hr⟩ := row_at (n := c2) (V := fun i => .bool (bs i)) (fun i hi => hcell i (by omega)) (by omega)
        exact Or.inr ⟨b, off, rfl, fun i hi => hr i (by omega)⟩
  refine (undoTable_walk a0 l0 c0 a1 l1 c1 a2 l2 c2 e0 e1 e2 W m0 m1 m2 x0 x1 x2).mono fun e W' ⟨he, bel⟩ => ?_
  subst he
  refine ⟨_, rfl, _, _, _, [], p0 ++ (p1 ++ p2), [], hW', trodAll_mk1 (shut_bool Try.underlying4 _), ?_, rfl, bel.frame _, fun h => by cases h⟩
  have t0 := Below.trod laidOut (by kernel_rfl) (of_decide_eq_true (by kernel_rfl)) k0 bel (fun x hx => hlt x (by simp [hx]))
  have t1 := Below.trod laidOut (by kernel_rfl) (of_decide_eq_true (by kernel_rfl)) k1 bel (fun x hx => hlt x (by simp [hx]))
  have t2 := Below.trod laidOut (by kernel_rfl) (of_decide_eq_true (by kernel_rfl)) k2 bel (fun x hx => hlt x (by simp [hx]))
  have t := (trodAll_cons_mk t0 (trodAll_cons_mk t1 (trodAll_cons_mk t2 trodAll_mk0)))
  simp only [List.append_nil] at t
  exact t

theorem over : Rows.undoTableRow.holds Try.pinned (OpenSpec.ofChange Rows.undoTableSpec) :=
  OpenClaim.holds_of_wide 4 Try.f4 rfl rfl rfl rfl rfl rfl rfl ⟨rfl, rfl, rfl, rfl, rfl⟩ rfl rfl rfl rfl rfl (by kernel_rfl) Try.func4 (by kernel_rfl)
    (of_decide_eq_true (by kernel_rfl)) (by unfold Func.isWrapper; first | (rw [if_pos (by decide +kernel)]; kernel_rfl) | (rw [if_neg (by decide +kernel)]; exact ⟨rfl, rfl⟩))
    (fun os started H enc _ => lifted os started H enc)

end Go.Proofs.Ytdeohkkpmjgaoaa.undoTable
namespace Go.Proofs.Ytdeohkkpmjgaoaa
theorem undoTable_holds : Rows.UndoTableSaid := undoTable.over
#print axioms undoTable_holds
end Go.Proofs.Ytdeohkkpmjgaoaa
