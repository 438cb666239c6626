/-
  For all records of two epochs, every number of synced ones, every epoch and all cuts, RingKept answers true and leaves its arguments as they were: no condition.
-/
import Derived.Test.YtakngnigpncmkaaRingKept
import Derived.ProofKit
import Derived.OpenShut
import Derived.ShutString
import Derived.Deep.Slices
import Derived.Deep.Grids
import Derived.SliceStrings
namespace Go.Proofs.Ytakngnigpncmkaa.ringKept
open Go.ChangeShapes Go.WideShapes Go.ChangeAt Go.RowKit Go.Deep
open Go.ChangeMaps (open_string shut_string)
set_option linter.unusedVariables false
theorem own : ownKnob Try.prog.godebug = none := by kernel_rfl
theorem laidOut : laidOutB Try.prog = true := by kernel_rfl
theorem cellsInt : Try.prog.cellsOf 3 = 1 := by kernel_rfl
theorem cellsText : Try.prog.cellsOf 9 = 1 := by kernel_rfl
theorem row_at {w : World} {a : Addr} {n : Nat} {V : Nat → Value} (h : ∀ i, i < n → w.cell? (a.add i) = some (V i)) (hp : 0 < n) :
    ∃ b off, a = ⟨b, off, none⟩ ∧ ∀ j, j < n → w.cell? ⟨b, off + j, none⟩ = some (V j) := by
  obtain ⟨b, off, spot⟩ := a
  have hspot : spot = none := by simpa [Addr.add] using World.cell?_spot (h 0 hp)
  subst hspot
  exact ⟨b, off, rfl, fun j hj => by rw [← Go.WideShapes.add_plain]; exact h j hj⟩

set_option maxRecDepth 100000 in
theorem lifted (os : Os) (started : os.Started) (H : Type) (enc : TypeId × Value → H) :
    ReturnsInHanded {} Try.checked os 11 .any (Rows.ringKeptSpec.pre6 enc Try.prog Try.f11 Rows.ringKeptRow.domain false) (Rows.ringKeptSpec.post enc Try.prog Try.f11 false true false false) := by
  refine returnsInHanded_of_change (C := Try.checked) own started (by kernel_rfl) Try.func11
    (ChangeSpec.witness6 (enc := enc) (C := Try.checked) false ⟨#[], #[.slice none 0 0, .slice none 0 0, .int .i64 0, .int .u32 0, .slice none 0 0], []⟩ 8 (by kernel_rfl) (by kernel_rfl) (by kernel_rfl) (by kernel_rfl)) ?_
  intro W base args ds gs before hval0 hW hcnd _
  have hval : ∀ (j : Nat) t v, Try.f11.params[j]? = some t → args[j]? = some v → Value.okWide Try.prog W .any base t v := hval0
  have hW' := hW
  obtain ⟨p, q, hA0, hV, rfl, hfz, hnd⟩ := hW
  have hA : DataW.TrodAll enc Try.prog W 0 (fun _ => true) true Try.f11.params.toList args.toList ds p := hA0
  rw [Try.params11] at hA hval
  obtain ⟨v0, vs0, d0, ds0, p0, q0, hargs, rfl, rfl, h0, r0⟩ := trodAll_cons hA
  obtain ⟨v1, vs1, d1, ds1, p1, q1, rfl, rfl, rfl, h1, r1⟩ := trodAll_cons r0
  obtain ⟨v2, vs2, d2, ds2, p2, q2, rfl, rfl, rfl, h2, r2⟩ := trodAll_cons r1
  obtain ⟨v3, vs3, d3, ds3, p3, q3, rfl, rfl, rfl, h3, r3⟩ := trodAll_cons r2
  obtain ⟨v4, vs4, d4, ds4, p4, q4, rfl, rfl, rfl, h4, r4⟩ := trodAll_cons r3
  obtain ⟨rfl, rfl, rfl⟩ := trodAll_nil r4
  obtain rfl : args = #[v0, v1, v2, v3, v4] := by cases args; simp_all
  obtain ⟨rfl, rfl⟩ := trodVars_none hV
  obtain ⟨a0, l0, c0, rfl⟩ := okWide_slice Try.underlying26 (hval 0 26 v0 rfl rfl)
  have k0 := h0
  obtain ⟨fuel0, f0⟩ := h0
  obtain ⟨a1, l1, c1, rfl⟩ := okWide_slice Try.underlying26 (hval 1 26 v1 rfl rfl)
  have k1 := h1
  obtain ⟨fuel1, f1⟩ := h1
  obtain ⟨a2, rfl, rfl, rfl, w2⟩ := open_int Try.underlying3 (hval 2 3 v2 rfl rfl) h2
  obtain ⟨a3, rfl, rfl, rfl, w3⟩ := open_int Try.underlying49 (hval 3 49 v3 rfl rfl) h3
  obtain ⟨a4, l4, c4, rfl⟩ := okWide_slice Try.underlying32 (hval 4 32 v4 rfl rfl)
  have k4 := h4
  obtain ⟨fuel4, f4⟩ := h4
  clear hA0 hval0
  simp only [List.append_nil, List.nil_append] at hW'
  have g3 := bounds_u32 w3
  obtain ⟨n3, rfl⟩ := Int.eq_ofNat_of_zero_le g3.1
  have b3 : n3 < 4294967296 := by omega
  have hlt : ∀ x ∈ p0 ++ (p1 ++ p4), x.block < W.heap.size := fun x hx => by simpa using hW'.lt x (by simpa using hx)
  obtain ⟨e0, m0, x0⟩ : ∃ es, l0 ≤ maxLen ∧ StrsIn W a0 l0 es := by
    rcases open_strings Try.underlying26 Try.underlying9 cellsText f0 with ⟨hcs, hx⟩ | ⟨a, len', cap', zs, hcs, _, hl, hm, hz, hx, hcell, hwz⟩
    · simp [Value.cells] at hcs
      exact ⟨fun _ => ⟨#[]⟩, by rw [hcs.2.1]; exact Nat.zero_le _, Or.inl hcs.2.1⟩
    · simp [Value.cells] at hcs
      obtain ⟨rfl, rfl, rfl⟩ := hcs
      simp at hz
      refine ⟨fun i => zs.getD i ByteArray.empty, by omega, ?_⟩
      by_cases h0 : l0 = 0
      · exact Or.inl h0
      · obtain ⟨b, off, rfl, hr⟩ := row_at (n := c0) (V := fun i => .string (zs.getD i ByteArray.empty)) (fun i hi => hcell i (by omega)) (by omega)
        refine Or.inr ⟨b, off, rfl, fun i hi => ⟨hr i (by omega), hwz _ ?_⟩⟩
        show zs.getD i ByteArray.empty ∈ zs
        rw [List.getD_eq_getElem?_getD, List.getElem?_eq_getElem (by omega)]
        exact List.getElem_mem _
  obtain ⟨e1, m1, x1⟩ : ∃ es, l1 ≤ maxLen ∧ StrsIn W a1 l1 es := by
    rcases open_strings Try.underlying26 Try.underlying9 cellsText f1 with ⟨hcs, hx⟩ | ⟨a, len', cap', zs, hcs, _, hl, hm, hz, hx, hcell, hwz⟩
    · simp [Value.cells] at hcs
      exact ⟨fun _ => ⟨#[]⟩, by rw [hcs.2.1]; exact Nat.zero_le _, Or.inl hcs.2.1⟩
    · simp [Value.cells] at hcs
      obtain ⟨rfl, rfl, rfl⟩ := hcs
      simp at hz
      refine ⟨fun i => zs.getD i ByteArray.empty, by omega, ?_⟩
      by_cases h0 : l1 = 0
      · exact Or.inl h0
      · obtain ⟨b, off, rfl, hr⟩ := row_at (n := c1) (V := fun i => .string (zs.getD i ByteArray.empty)) (fun i hi => hcell i (by omega)) (by omega)
        refine Or.inr ⟨b, off, rfl, fun i hi => ⟨hr i (by omega), hwz _ ?_⟩⟩
        show zs.getD i ByteArray.empty ∈ zs
        rw [List.getD_eq_getElem?_getD, List.getElem?_eq_getElem (by omega)]
        exact List.getElem_mem _
  obtain ⟨e4, m4, x4⟩ : ∃ es, l4 ≤ maxLen ∧ IntsAt W a4 l4 es := by
    rcases open_ints Try.underlying32 Try.underlying3 cellsInt f4 with ⟨hcs, hx⟩ | ⟨a, len', cap', zs, hcs, _, hl, hm, hz, hx, hcell, hwz⟩
    · simp [Value.cells] at hcs
      exact ⟨fun _ => 0, by rw [hcs.2.1]; exact Nat.zero_le _, Or.inl hcs.2.1⟩
    · simp [Value.cells] at hcs
      obtain ⟨rfl, rfl, rfl⟩ := hcs
      simp at hz
      refine ⟨fun i => zs.getD i 0, by omega, ?_⟩
      by_cases h0 : l4 = 0
      · exact Or.inl h0
      · obtain ⟨b, off, rfl, hr⟩ := row_at (n := c4) (V := fun i => .int .i64 (zs.getD i 0)) (fun i hi => hcell i (by omega)) (by omega)
        exact Or.inr ⟨b, off, rfl, fun i hi => hr i (by omega)⟩
  refine (ringKept_walk a0 a1 a4 l0 c0 l1 c1 l4 c4 n3 a2 e0 e1 e4 W x0 x1 x4).mono fun e W' ⟨he, bel⟩ => ?_
  subst he
  refine ⟨_, rfl, _, _, _, [], p0 ++ (p1 ++ p4), [], hW', trodAll_mk1 (shut_bool Try.underlying4 _), ?_, rfl, bel.frame _, fun h => by cases h⟩
  have t0 := Below.trod laidOut (by kernel_rfl) (of_decide_eq_true (by kernel_rfl)) k0 bel (fun x hx => hlt x (by simp [hx]))
  have t1 := Below.trod laidOut (by kernel_rfl) (of_decide_eq_true (by kernel_rfl)) k1 bel (fun x hx => hlt x (by simp [hx]))
  have t4 := Below.trod laidOut (by kernel_rfl) (of_decide_eq_true (by kernel_rfl)) k4 bel (fun x hx => hlt x (by simp [hx]))
  have t := (trodAll_cons_mk t0 (trodAll_cons_mk t1 (trodAll_cons_mk (shut_int Try.underlying3 w2) (trodAll_cons_mk (shut_int Try.underlying49 w3) (trodAll_cons_mk t4 trodAll_mk0)))))
  simp only [List.append_nil, List.nil_append] at t
  exact t

theorem over : Rows.ringKeptRow.holds Try.pinned (OpenSpec.ofChange Rows.ringKeptSpec) :=
  OpenClaim.holds_of_wide 11 Try.f11 rfl rfl rfl rfl rfl rfl rfl ⟨rfl, rfl, rfl, rfl, rfl⟩ rfl rfl rfl rfl rfl (by kernel_rfl) Try.func11 (by kernel_rfl)
    (of_decide_eq_true (by kernel_rfl)) (by unfold Func.isWrapper; first | (rw [if_pos (by decide +kernel)]; kernel_rfl) | (rw [if_neg (by decide +kernel)]; exact ⟨rfl, rfl⟩))
    (fun os started H enc _ => lifted os started H enc)

end Go.Proofs.Ytakngnigpncmkaa.ringKept
namespace Go.Proofs.Ytakngnigpncmkaa
theorem ringKept_holds : Rows.RingKeptSaid := ringKept.over
#print axioms ringKept_holds
end Go.Proofs.Ytakngnigpncmkaa
