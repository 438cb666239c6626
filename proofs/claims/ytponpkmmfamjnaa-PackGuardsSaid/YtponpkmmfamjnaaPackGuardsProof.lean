/-
  For every list of errors and every list of places, PackGuards answers true and leaves its arguments as they were: no condition.
-/
import Derived.Test.YtponpkmmfamjnaaPackGuards
import Derived.ProofKit
import Derived.OpenShut
import Derived.Deep.Grids
namespace Go.Proofs.Ytponpkmmfamjnaa.packGuards
open Go.ChangeShapes Go.WideShapes Go.ChangeAt Go.RowKit Go.Deep
set_option linter.unusedVariables false
theorem own : ownKnob Try.prog.godebug = none := by kernel_rfl
theorem laidOut : laidOutB Try.prog = true := by kernel_rfl
theorem cellsInt : Try.prog.cellsOf 3 = 1 := by kernel_rfl
theorem cellsBool : Try.prog.cellsOf 4 = 1 := by kernel_rfl
theorem row_at {w : World} {a : Addr} {n : Nat} {V : Nat → Value} (h : ∀ i, i < n → w.cell? (a.add i) = some (V i)) (hp : 0 < n) :
    ∃ b off, a = ⟨b, off, none⟩ ∧ ∀ j, j < n → w.cell? ⟨b, off + j, none⟩ = some (V j) := by
  obtain ⟨b, off, spot⟩ := a
  have hspot : spot = none := by simpa [Addr.add] using World.cell?_spot (h 0 hp)
  subst hspot
  exact ⟨b, off, rfl, fun j hj => by rw [← Go.WideShapes.add_plain]; exact h j hj⟩

/-- whatever the two slices are -/
theorem walk {W : World} {a0 a1 : Option Addr} {l0 c0 l1 c1 : Nat} (h0 : (a0 = none ∧ l0 = 0) ∨ ∃ (a : Addr) (es : Nat → Int), a0 = some a ∧ l0 ≤ c0 ∧ c0 ≤ maxLen ∧ ∀ i, i < c0 → W.cell? (a.add i) = some (.int .i64 (es i)))
    (h1 : (a1 = none ∧ l1 = 0) ∨ ∃ (a : Addr) (bs : Nat → Bool), a1 = some a ∧ l1 ≤ c1 ∧ c1 ≤ maxLen ∧ ∀ i, i < c1 → W.cell? (a.add i) = some (.bool (bs i))) :
    Calls Try.prog 5 #[.slice a0 l0 c0, .slice a1 l1 c1] W fun e w' => e = .returned (.bool true) ∧ Below W.heap.size W w' := by
  have m0 : l0 ≤ maxLen := by rcases h0 with ⟨_, rfl⟩ | ⟨_, _, _, h, k, _⟩; exact Nat.zero_le _; omega
  have m1 : l1 ≤ maxLen := by rcases h1 with ⟨_, rfl⟩ | ⟨_, _, _, h, k, _⟩; exact Nat.zero_le _; omega
  by_cases hz : l0 = 0 ∨ l1 = 0
  · exact packGuards_none a0 a1 l0 c0 l1 c1 m0 m1 hz W
  · rcases h0 with ⟨_, e⟩ | ⟨a, es, rfl, k0, _, r0⟩
    · exact absurd (Or.inl e) hz
    rcases h1 with ⟨_, e⟩ | ⟨b, bs, rfl, k1, _, r1⟩
    · exact absurd (Or.inr e) hz
    obtain ⟨be, oe, rfl, r0'⟩ := row_at (V := fun i => .int .i64 (es i)) r0 (by omega)
    obtain ⟨bb, ob, rfl, r1'⟩ := row_at (V := fun i => .bool (bs i)) r1 (by omega)
    exact packGuards_some ⟨be, oe, l0, c0, bb, ob, l1, c1, W.heap.size, 0, min (min l0 l1) 8, es, bs⟩ m0 m1 rfl W rfl (cell_lt (r0' 0 (by omega))) (cell_lt (r1' 0 (by omega)))
      (fun k hk => r0' k (by have : k < min (min l0 l1) 8 := hk; omega)) (fun k hk => r1' k (by have : k < min (min l0 l1) 8 := hk; omega))

set_option maxRecDepth 100000 in
theorem lifted (os : Os) (started : os.Started) (H : Type) (enc : TypeId × Value → H) :
    ReturnsInHanded {} Try.checked os 5 .any (Rows.packGuardsSpec.pre6 enc Try.prog Try.f5 Rows.packGuardsRow.domain false) (Rows.packGuardsSpec.post enc Try.prog Try.f5 false true false false) := by
  refine returnsInHanded_of_change (C := Try.checked) own started (by kernel_rfl) Try.func5
    (ChangeSpec.witness6 (enc := enc) (C := Try.checked) false ⟨#[], #[.slice none 0 0, .slice none 0 0], []⟩ 8 (by kernel_rfl) (by kernel_rfl) (by kernel_rfl) (by kernel_rfl)) ?_
  intro W base args ds gs before hval0 hW hcnd _
  have hval : ∀ (j : Nat) t v, Try.f5.params[j]? = some t → args[j]? = some v → Value.okWide Try.prog W .any base t v := hval0
  have hW' := hW
  obtain ⟨p, q, hA0, hV, rfl, hfz, hnd⟩ := hW
  have hA : DataW.TrodAll enc Try.prog W 0 (fun _ => true) true Try.f5.params.toList args.toList ds p := hA0
  rw [Try.params5] at hA hval
  obtain ⟨v0, vs0, d0, ds0, p0, q0, hargs, rfl, rfl, h0, r0⟩ := trodAll_cons hA
  obtain ⟨v1, vs1, d1, ds1, p1, q1, rfl, rfl, rfl, h1, r1⟩ := trodAll_cons r0
  obtain ⟨rfl, rfl, rfl⟩ := trodAll_nil r1
  obtain rfl : args = #[v0, v1] := by cases args; simp_all
  obtain ⟨rfl, rfl⟩ := trodVars_none hV
  obtain ⟨a0, l0, c0, rfl⟩ := okWide_slice Try.underlying51 (hval 0 51 v0 rfl rfl)
  obtain ⟨a1, l1, c1, rfl⟩ := okWide_slice Try.underlying52 (hval 1 52 v1 rfl rfl)
  have k0 := h0
  have k1 := h1
  obtain ⟨fuel0, f0⟩ := h0
  obtain ⟨fuel1, f1⟩ := h1
  clear hA0 hval0
  simp only [List.append_nil] at hW'
  have hlt : ∀ x ∈ p0 ++ p1, x.block < W.heap.size := fun x hx => by simpa using hW'.lt x hx
  have w0 : (a0 = none ∧ l0 = 0) ∨ ∃ (a : Addr) (es : Nat → Int), a0 = some a ∧ l0 ≤ c0 ∧ c0 ≤ maxLen ∧ ∀ i, i < c0 → W.cell? (a.add i) = some (.int .i64 (es i)) := by
    rcases open_ints Try.underlying51 Try.underlying3 cellsInt f0 with ⟨hcs, hx⟩ | ⟨a, len', cap', zs, hcs, _, hl, hm, hz, hx, hcell, hwz⟩
    · simp [Value.cells] at hcs
      exact Or.inl ⟨hcs.1, hcs.2.1⟩
    · simp [Value.cells] at hcs
      obtain ⟨rfl, rfl, rfl⟩ := hcs
      simp at hz
      exact Or.inr ⟨a, fun i => zs.getD i 0, rfl, hl, hm, fun i hi => hcell i (by omega)⟩
  have w1 : (a1 = none ∧ l1 = 0) ∨ ∃ (a : Addr) (bs : Nat → Bool), a1 = some a ∧ l1 ≤ c1 ∧ c1 ≤ maxLen ∧ ∀ i, i < c1 → W.cell? (a.add i) = some (.bool (bs i)) := by
    rcases open_bools Try.underlying52 Try.underlying4 cellsBool f1 with ⟨hcs, hx⟩ | ⟨a, len', cap', bs, hcs, _, hl, hm, hx, hcell⟩
    · simp [Value.cells] at hcs
      exact Or.inl ⟨hcs.1, hcs.2.1⟩
    · simp [Value.cells] at hcs
      obtain ⟨rfl, rfl, rfl⟩ := hcs
      exact Or.inr ⟨a, bs, rfl, hl, hm, hcell⟩
  refine (walk w0 w1).mono fun e W' ⟨he, bel⟩ => ?_
  subst he
  refine ⟨_, rfl, _, _, _, [], p0 ++ p1, [], hW', trodAll_mk1 (shut_bool Try.underlying4 _), ?_, rfl, bel.frame _, fun h => by cases h⟩
  have t0 := Below.trod laidOut (by kernel_rfl) (of_decide_eq_true (by kernel_rfl)) k0 bel (fun x hx => hlt x (List.mem_append_left _ hx))
  have t1 := Below.trod laidOut (by kernel_rfl) (of_decide_eq_true (by kernel_rfl)) k1 bel (fun x hx => hlt x (List.mem_append_right _ hx))
  have t := trodAll_cons_mk t0 (trodAll_cons_mk t1 trodAll_mk0)
  rw [List.append_nil] at t
  exact t

theorem over : Rows.packGuardsRow.holds Try.pinned (OpenSpec.ofChange Rows.packGuardsSpec) :=
  OpenClaim.holds_of_wide 5 Try.f5 rfl rfl rfl rfl rfl rfl rfl ⟨rfl, rfl, rfl, rfl, rfl⟩ rfl rfl rfl rfl rfl (by kernel_rfl) Try.func5 (by kernel_rfl)
    (of_decide_eq_true (by kernel_rfl)) (by unfold Func.isWrapper; first | (rw [if_pos (by decide +kernel)]; kernel_rfl) | (rw [if_neg (by decide +kernel)]; exact ⟨rfl, rfl⟩))
    (fun os started H enc _ => lifted os started H enc)

end Go.Proofs.Ytponpkmmfamjnaa.packGuards
namespace Go.Proofs.Ytponpkmmfamjnaa
theorem packGuards_holds : Rows.PackGuardsSaid := packGuards.over
#print axioms packGuards_holds
end Go.Proofs.Ytponpkmmfamjnaa
