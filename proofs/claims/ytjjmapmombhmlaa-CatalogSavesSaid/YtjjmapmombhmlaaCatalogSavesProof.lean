/-
  For every list of entries CatalogSaves answers true and leaves its arguments as they were (no conditions).
-/
import Derived.Test.YtjjmapmombhmlaaCatalogSaves
import Derived.Test.YtjjmapmombhmlaaCatSaved
import Derived.ProofKit
import Derived.OpenShut
import Derived.ShutString
import Derived.Deep.Slices
import Derived.Deep.Grids
import Derived.SliceStrings
/-
  A list of entries as the document has them, handed in: its reading.
-/
namespace Go.Proofs.Ytjjmapmombhmlaa
open Go.ChangeShapes Go.WideShapes Go.ChangeAt Go.RowKit Go.Deep
open Go.ChangeMaps (open_string shut_string)
set_option linter.unusedVariables false
theorem cellsIntE : Try.prog.cellsOf 3 = 1 := by kernel_rfl
theorem cellsBoolE : Try.prog.cellsOf 4 = 1 := by kernel_rfl
theorem cellsRawE : Try.prog.cellsOf 61 = 6 := by kernel_rfl
theorem six_ofE {α : Type} {l : List α} (h : l.length = 6) : ∃ a b c d e f, l = [a, b, c, d, e, f] := by
  match l, h with
  | [a, b, c, d, e, f], _ => exact ⟨a, b, c, d, e, f, rfl⟩
abbrev RE := Int × Int × Bool × Int × Int × Int
theorem rawOneE {H : Type} {enc : TypeId × Value → H} {w : World} {fuel : Nat} {a : Addr} {cs : List Value} {x : DataW H × List MemPlace}
    (hc : w.cells? 0 a 6 = some cs) (h : DataW.trod enc Try.prog w 0 (fun _ => true) true fuel 61 cs = some x) :
    ∃ A : RE, w.cell? (a.add 0) = some (.int .i64 A.1) ∧ w.cell? (a.add 1) = some (.int .i64 A.2.1) ∧ w.cell? (a.add 2) = some (.bool A.2.2.1) ∧ w.cell? (a.add 3) = some (.int .i64 A.2.2.2.1) ∧ w.cell? (a.add 4) = some (.int .i64 A.2.2.2.2.1) ∧ w.cell? (a.add 5) = some (.int .i64 A.2.2.2.2.2) := by
  obtain ⟨_, hl, hat⟩ := World.cells?_some hc
  obtain ⟨xs, n', _, _, _, hxl, hf⟩ := DataW.trod_struct Try.underlying61 h
  obtain ⟨c0, c1, c2, c3, c4, c5, rfl⟩ := six_ofE hl
  obtain ⟨x0, x1, x2, x3, x4, x5, rfl⟩ := six_ofE hxl
  have f0 : DataW.trod enc Try.prog w 0 (fun _ => true) true n' 3 [c0] = some x0 := by have h := hf 0 _ rfl; simpa [cellsIntE, cellsBoolE] using h
  have f1 : DataW.trod enc Try.prog w 0 (fun _ => true) true n' 3 [c1] = some x1 := by have h := hf 1 _ rfl; simpa [cellsIntE, cellsBoolE] using h
  have f2 : DataW.trod enc Try.prog w 0 (fun _ => true) true n' 4 [c2] = some x2 := by have h := hf 2 _ rfl; simpa [cellsIntE, cellsBoolE] using h
  have f3 : DataW.trod enc Try.prog w 0 (fun _ => true) true n' 3 [c3] = some x3 := by have h := hf 3 _ rfl; simpa [cellsIntE, cellsBoolE] using h
  have f4 : DataW.trod enc Try.prog w 0 (fun _ => true) true n' 3 [c4] = some x4 := by have h := hf 4 _ rfl; simpa [cellsIntE, cellsBoolE] using h
  have f5 : DataW.trod enc Try.prog w 0 (fun _ => true) true n' 3 [c5] = some x5 := by have h := hf 5 _ rfl; simpa [cellsIntE, cellsBoolE] using h
  obtain ⟨v0, e0, _⟩ := DataW.trod_int Try.underlying3 f0
  obtain ⟨v1, e1, _⟩ := DataW.trod_int Try.underlying3 f1
  obtain ⟨v2, e2, _⟩ := DataW.trod_bool Try.underlying4 f2
  obtain ⟨v3, e3, _⟩ := DataW.trod_int Try.underlying3 f3
  obtain ⟨v4, e4, _⟩ := DataW.trod_int Try.underlying3 f4
  obtain ⟨v5, e5, _⟩ := DataW.trod_int Try.underlying3 f5
  obtain rfl : c0 = .int .i64 v0 := by simpa using e0
  obtain rfl : c1 = .int .i64 v1 := by simpa using e1
  obtain rfl : c2 = .bool v2 := by simpa using e2
  obtain rfl : c3 = .int .i64 v3 := by simpa using e3
  obtain rfl : c4 = .int .i64 v4 := by simpa using e4
  obtain rfl : c5 = .int .i64 v5 := by simpa using e5
  exact ⟨⟨v0, v1, v2, v3, v4, v5⟩, hat 0 (by decide), hat 1 (by decide), hat 2 (by decide), hat 3 (by decide), hat 4 (by decide), hat 5 (by decide)⟩
/-- what lies in the list -/
def RawsIn (W : World) (a : Option Addr) (n : Nat) (r : Nat → RE) : Prop := n = 0 ∨ ∃ rb off, a = some ⟨rb, off, none⟩ ∧ ∀ i, i < n →
  W.cell? ⟨rb, off + i * 6, none⟩ = some (.int .i64 (r i).1) ∧ W.cell? ⟨rb, off + i * 6 + 1, none⟩ = some (.int .i64 (r i).2.1) ∧ W.cell? ⟨rb, off + i * 6 + 2, none⟩ = some (.bool (r i).2.2.1) ∧ W.cell? ⟨rb, off + i * 6 + 3, none⟩ = some (.int .i64 (r i).2.2.2.1) ∧ W.cell? ⟨rb, off + i * 6 + 4, none⟩ = some (.int .i64 (r i).2.2.2.2.1) ∧ W.cell? ⟨rb, off + i * 6 + 5, none⟩ = some (.int .i64 (r i).2.2.2.2.2)
theorem rawsFullE {H : Type} {enc : TypeId × Value → H} {W : World} {fuel : Nat} {a1 : Option Addr} {l1 c1 : Nat} {x : DataW H × List MemPlace}
    (f1 : DataW.trod enc Try.prog W 0 (fun _ => true) true fuel 54 (Value.slice a1 l1 c1).cells.toList = some x) : ∃ r, RawsIn W a1 l1 r := by
  rcases open_slice Try.underlying54 f1 with ⟨hcs, hx⟩ | ⟨a, len', cap', m, n, D, Pl, hcs, _, hl, hm, hmm, hx, hi⟩
  · simp [Value.cells] at hcs
    exact ⟨fun _ => ⟨0, 0, false, 0, 0, 0⟩, Or.inl hcs.2.1⟩
  · simp [Value.cells] at hcs
    obtain ⟨rfl, rfl, rfl⟩ := hcs
    simp only [if_true] at hmm
    subst hmm
    by_cases h0 : l1 = 0
    · exact ⟨fun _ => ⟨0, 0, false, 0, 0, 0⟩, Or.inl h0⟩
    have hc : ∀ i, i < m → ∃ A : RE, W.cell? (a.add (i * 6 + 0)) = some (.int .i64 A.1) ∧ W.cell? (a.add (i * 6 + 1)) = some (.int .i64 A.2.1) ∧ W.cell? (a.add (i * 6 + 2)) = some (.bool A.2.2.1) ∧ W.cell? (a.add (i * 6 + 3)) = some (.int .i64 A.2.2.2.1) ∧ W.cell? (a.add (i * 6 + 4)) = some (.int .i64 A.2.2.2.2.1) ∧ W.cell? (a.add (i * 6 + 5)) = some (.int .i64 A.2.2.2.2.2) := fun i hi' => by
      obtain ⟨cs', hc, ht⟩ := hi i hi'
      rw [cellsRawE] at hc
      obtain ⟨A, h0, h1, h2, h3, h4, h5⟩ := rawOneE hc ht
      rw [add_add] at h0 h1 h2 h3 h4 h5
      exact ⟨A, h0, h1, h2, h3, h4, h5⟩
    obtain ⟨b, off, spot⟩ := a
    have hspot : spot = none := by
      obtain ⟨_, h, _⟩ := hc 0 (by omega)
      simpa [Addr.add] using World.cell?_spot h
    subst hspot
    let A : Nat → RE := fun i => if h : i < m then (hc i h).choose else ⟨0, 0, false, 0, 0, 0⟩
    refine ⟨A, Or.inr ⟨b, off, rfl, fun i hi' => ?_⟩⟩
    have him : i < m := by omega
    have h := (hc i him).choose_spec
    have b0 : (⟨b, off, none⟩ : Addr).add (i * 6 + 0) = ⟨b, off + i * 6, none⟩ := by rw [Addr.add_lit]; rfl
    have b1 : ∀ o, (⟨b, off, none⟩ : Addr).add (i * 6 + o) = ⟨b, off + i * 6 + o, none⟩ := fun o => by rw [Addr.add_lit, Nat.add_assoc]
    obtain ⟨h0, h1, h2, h3, h4, h5⟩ := h
    simp only [A, dif_pos him]
    exact ⟨by rw [← b0]; exact h0, by rw [← b1]; exact h1, by rw [← b1]; exact h2, by rw [← b1]; exact h3, by rw [← b1]; exact h4, by rw [← b1]; exact h5⟩
end Go.Proofs.Ytjjmapmombhmlaa
/-
  CatalogSaves, of a list that was handed in.
-/
namespace Go.Proofs.Ytjjmapmombhmlaa
open Go.RowKit Go.Maps Go.ChangeMaps Go.WideShapes
theorem catalogSaves_any (a : Option Addr) (len cap : Nat) (r : Nat → RE) (w : World) (hx : RawsIn w a len r) :
    Calls Try.prog 6 #[.slice a len cap] w fun e w' => e = .returned (.bool true) ∧ Below w.heap.size w w' := by
  rcases hx with rfl | ⟨rb, off, rfl, h⟩
  · exact catalogSaves_walk a 0 cap 0 0 (fun h => absurd h (Nat.lt_irrefl 0)) r w fun i h => absurd h (Nat.not_lt_zero i)
  · exact catalogSaves_walk _ len cap rb off (fun _ => rfl) r w fun i hi => ⟨(h i hi).1, (h i hi).2.1, (h i hi).2.2.1, (h i hi).2.2.2.1, (h i hi).2.2.2.2.1, (h i hi).2.2.2.2.2⟩
end Go.Proofs.Ytjjmapmombhmlaa
namespace Go.Proofs.Ytjjmapmombhmlaa.catalogSaves
open Go.ChangeShapes Go.WideShapes Go.ChangeAt Go.RowKit Go.Deep
open Go.ChangeMaps (open_string shut_string)
set_option linter.unusedVariables false
theorem own : ownKnob Try.prog.godebug = none := by kernel_rfl
theorem laidOut : laidOutB Try.prog = true := by kernel_rfl
theorem row_at {w : World} {a : Addr} {n : Nat} {V : Nat → Value} (h : ∀ i, i < n → w.cell? (a.add i) = some (V i)) (hp : 0 < n) :
    ∃ b off, a = ⟨b, off, none⟩ ∧ ∀ j, j < n → w.cell? ⟨b, off + j, none⟩ = some (V j) := by
  obtain ⟨b, off, spot⟩ := a
  have hspot : spot = none := by simpa [Addr.add] using World.cell?_spot (h 0 hp)
  subst hspot
  exact ⟨b, off, rfl, fun j hj => by rw [← Go.WideShapes.add_plain]; exact h j hj⟩

set_option maxRecDepth 100000 in
theorem lifted (os : Os) (started : os.Started) (H : Type) (enc : TypeId × Value → H) :
    ReturnsInHanded {} Try.checked os 6 .any (Rows.catalogSavesSpec.pre6 enc Try.prog Try.f6 Rows.catalogSavesRow.domain false) (Rows.catalogSavesSpec.post enc Try.prog Try.f6 false true false false) := by
  refine returnsInHanded_of_change (C := Try.checked) own started (by kernel_rfl) Try.func6
    (ChangeSpec.witness6 (enc := enc) (C := Try.checked) false ⟨#[], #[.slice none 0 0], []⟩ 8 (by kernel_rfl) (by kernel_rfl) (by kernel_rfl) (by kernel_rfl)) ?_
  intro W base args ds gs before hval0 hW hcnd _
  have hval : ∀ (j : Nat) t v, Try.f6.params[j]? = some t → args[j]? = some v → Value.okWide Try.prog W .any base t v := hval0
  have hW' := hW
  obtain ⟨p, q, hA0, hV, rfl, hfz, hnd⟩ := hW
  have hA : DataW.TrodAll enc Try.prog W 0 (fun _ => true) true Try.f6.params.toList args.toList ds p := hA0
  rw [Try.params6] at hA hval
  obtain ⟨v0, vs0, d0, ds0, p0, q0, hargs, rfl, rfl, h0, r0⟩ := trodAll_cons hA
  obtain ⟨rfl, rfl, rfl⟩ := trodAll_nil r0
  obtain rfl : args = #[v0] := by cases args; simp_all
  obtain ⟨rfl, rfl⟩ := trodVars_none hV
  obtain ⟨a0, l0, c0, rfl⟩ := okWide_slice Try.underlying54 (hval 0 54 v0 rfl rfl)
  have k0 := h0
  obtain ⟨fuel0, f0⟩ := h0
  clear hA0 hval0
  simp only [List.append_nil] at hW'
  have hlt : ∀ x ∈ p0, x.block < W.heap.size := fun x hx => by simpa using hW'.lt x (by simpa using hx)
  obtain ⟨e0, x0⟩ := rawsFullE f0
  refine (catalogSaves_any a0 l0 c0 e0 W x0).mono fun e W' ⟨he, bel⟩ => ?_
  subst he
  refine ⟨_, rfl, _, _, _, [], p0, [], hW', trodAll_mk1 (shut_bool Try.underlying4 _), ?_, rfl, bel.frame _, fun h => by cases h⟩
  have t0 := Below.trod laidOut (by kernel_rfl) (of_decide_eq_true (by kernel_rfl)) k0 bel (fun x hx => hlt x (by simp [hx]))
  have t := (trodAll_cons_mk t0 trodAll_mk0)
  simp only [List.append_nil] at t
  exact t

theorem over : Rows.catalogSavesRow.holds Try.pinned (OpenSpec.ofChange Rows.catalogSavesSpec) :=
  OpenClaim.holds_of_wide 6 Try.f6 rfl rfl rfl rfl rfl rfl rfl ⟨rfl, rfl, rfl, rfl, rfl⟩ rfl rfl rfl rfl rfl (by kernel_rfl) Try.func6 (by kernel_rfl)
    (of_decide_eq_true (by kernel_rfl)) (by unfold Func.isWrapper; first | (rw [if_pos (by decide +kernel)]; kernel_rfl) | (rw [if_neg (by decide +kernel)]; exact ⟨rfl, rfl⟩))
    (fun os started H enc _ => lifted os started H enc)

end Go.Proofs.Ytjjmapmombhmlaa.catalogSaves
namespace Go.Proofs.Ytjjmapmombhmlaa
theorem catalogSaves_holds : Rows.CatalogSavesSaid := catalogSaves.over
#print axioms catalogSaves_holds
end Go.Proofs.Ytjjmapmombhmlaa
