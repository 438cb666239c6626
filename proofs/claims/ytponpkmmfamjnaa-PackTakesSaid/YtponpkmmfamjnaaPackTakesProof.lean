/-
  For every text and every list of things, PackTakes answers true and leaves its arguments as they were: no condition.
-/
import Derived.Test.YtponpkmmfamjnaaPackTakes
import Derived.ProofKit
import Derived.OpenShut
import Derived.ShutString
import Derived.Deep.Slices
namespace Go.Proofs.Ytponpkmmfamjnaa.packTakes
open Go.ChangeShapes Go.WideShapes Go.ChangeAt Go.RowKit Go.Deep
open Go.ChangeMaps (open_string shut_string)
set_option linter.unusedVariables false
theorem own : ownKnob Try.prog.godebug = none := by kernel_rfl
theorem laidOut : laidOutB Try.prog = true := by kernel_rfl
theorem cellsInt : Try.prog.cellsOf 3 = 1 := by kernel_rfl
theorem cellsWord : Try.prog.cellsOf 31 = 1 := by kernel_rfl
theorem cellsTake : Try.prog.cellsOf 35 = 3 := by kernel_rfl
theorem three_of {α : Type} {l : List α} (h : l.length = 3) : ∃ a b c, l = [a, b, c] := by
  cases l with
  | nil => cases h
  | cons a l =>
    cases l with
    | nil => cases h
    | cons b l =>
      cases l with
      | nil => cases h
      | cons c l =>
        cases l with
        | nil => exact ⟨a, b, c, rfl⟩
        | cons d l => simp at h
/-- a thing of the list, cell by cell -/
theorem thing {H : Type} {enc : TypeId × Value → H} {w : World} {base fuel : Nat} {spare : Nat → Bool} {held : Bool} {a : Addr} {cs : List Value} {x : DataW H × List MemPlace}
    (hc : w.cells? base a 3 = some cs) (h : DataW.trod enc Try.prog w base spare held fuel 35 cs = some x) :
    ∃ k n m : Int, w.cell? (a.add 0) = some (.int .i64 k) ∧ w.cell? (a.add 1) = some (.int .i64 n) ∧ w.cell? (a.add 2) = some (.int .u64 m) := by
  obtain ⟨_, hl, hat⟩ := World.cells?_some hc
  obtain ⟨xs, n', _, _, _, hxl, hf⟩ := DataW.trod_struct Try.underlying35 h
  obtain ⟨c0, c1, c2, rfl⟩ := three_of hl
  obtain ⟨x0, x1, x2, rfl⟩ := three_of hxl
  have f0 : DataW.trod enc Try.prog w base spare held n' 3 [c0] = some x0 := by have h := hf 0 _ rfl; simpa [cellsInt] using h
  have f1 : DataW.trod enc Try.prog w base spare held n' 3 [c1] = some x1 := by have h := hf 1 _ rfl; simpa [cellsInt] using h
  have f2 : DataW.trod enc Try.prog w base spare held n' 31 [c2] = some x2 := by have h := hf 2 _ rfl; simpa [cellsWord] using h
  obtain ⟨k, e0, _⟩ := DataW.trod_int Try.underlying3 f0
  obtain ⟨n, e1, _⟩ := DataW.trod_int Try.underlying3 f1
  obtain ⟨m, e2, _⟩ := DataW.trod_int Try.underlying31 f2
  obtain rfl : c0 = .int .i64 k := by simpa using e0
  obtain rfl : c1 = .int .i64 n := by simpa using e1
  obtain rfl : c2 = .int .u64 m := by simpa using e2
  exact ⟨k, n, m, hat 0 (by decide), hat 1 (by decide), hat 2 (by decide)⟩

/-- whatever the list is -/
theorem walk {W : World} {s : ByteArray} {a1 : Option Addr} {l1 c1 : Nat} (hs : s.size ≤ maxLen) (h1 : (a1 = none ∧ l1 = 0) ∨ ∃ a : Addr, a1 = some a ∧ l1 ≤ c1 ∧ c1 ≤ maxLen ∧ ∀ i, i < c1 → ∃ k n m : Int, W.cell? (a.add (i * 3 + 0)) = some (.int .i64 k) ∧ W.cell? (a.add (i * 3 + 1)) = some (.int .i64 n) ∧ W.cell? (a.add (i * 3 + 2)) = some (.int .u64 m)) :
    Calls Try.prog 3 #[.string s, .slice a1 l1 c1] W fun e w' => e = .returned (.bool true) ∧ Below W.heap.size W w' := by
  by_cases hz : l1 = 0
  · subst hz
    exact packTakes_none s a1 c1 hs W
  · rcases h1 with ⟨_, e⟩ | ⟨a, rfl, hl, hm, hc⟩
    · exact absurd e hz
    · have hc0 := hc 0 (by omega)
      obtain ⟨b, off, spot⟩ := a
      have hspot : spot = none := by
        obtain ⟨_, _, _, h, _⟩ := hc0
        simpa [Addr.add] using World.cell?_spot h
      subst hspot
      let K : Nat → Int := fun i => if h : i < c1 then (hc i h).choose else 0
      let N : Nat → Int := fun i => if h : i < c1 then (hc i h).choose_spec.choose else 0
      let M : Nat → Int := fun i => if h : i < c1 then (hc i h).choose_spec.choose_spec.choose else 0
      have row : ∀ i, i < c1 → W.cell? ⟨b, off + i * 3, none⟩ = some (.int .i64 (K i)) ∧ W.cell? ⟨b, off + i * 3 + 1, none⟩ = some (.int .i64 (N i)) ∧ W.cell? ⟨b, off + i * 3 + 2, none⟩ = some (.int .u64 (M i)) := fun i hi => by
        have h := (hc i hi).choose_spec.choose_spec.choose_spec
        have a0 : (⟨b, off, none⟩ : Addr).add (i * 3 + 0) = ⟨b, off + i * 3, none⟩ := by rw [Addr.add_lit]; rfl
        have a1 : (⟨b, off, none⟩ : Addr).add (i * 3 + 1) = ⟨b, off + i * 3 + 1, none⟩ := by rw [Addr.add_lit]; rfl
        have a2 : (⟨b, off, none⟩ : Addr).add (i * 3 + 2) = ⟨b, off + i * 3 + 2, none⟩ := by rw [Addr.add_lit]; rfl
        simp only [K, N, M, dif_pos hi]
        exact ⟨by rw [← a0]; exact h.1, by rw [← a1]; exact h.2.1, by rw [← a2]; exact h.2.2⟩
      refine packTakes_some s b off l1 c1 K N M hs (by omega) W (cell_lt (row 0 (by omega)).1) fun k hk => row k (by omega)

set_option maxRecDepth 100000 in
theorem lifted (os : Os) (started : os.Started) (H : Type) (enc : TypeId × Value → H) :
    ReturnsInHanded {} Try.checked os 3 .any (Rows.packTakesSpec.pre6 enc Try.prog Try.f3 Rows.packTakesRow.domain false) (Rows.packTakesSpec.post enc Try.prog Try.f3 false true false false) := by
  refine returnsInHanded_of_change (C := Try.checked) own started (by kernel_rfl) Try.func3
    (ChangeSpec.witness6 (enc := enc) (C := Try.checked) false ⟨#[], #[.string ByteArray.empty, .slice none 0 0], []⟩ 8 (by kernel_rfl) (by kernel_rfl) (by kernel_rfl) (by kernel_rfl)) ?_
  intro W base args ds gs before hval0 hW hcnd _
  have hval : ∀ (j : Nat) t v, Try.f3.params[j]? = some t → args[j]? = some v → Value.okWide Try.prog W .any base t v := hval0
  have hW' := hW
  obtain ⟨p, q, hA0, hV, rfl, hfz, hnd⟩ := hW
  have hA : DataW.TrodAll enc Try.prog W 0 (fun _ => true) true Try.f3.params.toList args.toList ds p := hA0
  rw [Try.params3] at hA hval
  obtain ⟨v0, vs0, d0, ds0, p0, q0, hargs, rfl, rfl, h0, r0⟩ := trodAll_cons hA
  obtain ⟨v1, vs1, d1, ds1, p1, q1, rfl, rfl, rfl, h1, r1⟩ := trodAll_cons r0
  obtain ⟨rfl, rfl, rfl⟩ := trodAll_nil r1
  obtain rfl : args = #[v0, v1] := by cases args; simp_all
  obtain ⟨rfl, rfl⟩ := trodVars_none hV
  obtain ⟨s, rfl, rfl, rfl, w0⟩ := open_string Try.underlying9 (hval 0 9 v0 rfl rfl) h0
  obtain ⟨a1, l1, c1, rfl⟩ := okWide_slice Try.underlying22 (hval 1 22 v1 rfl rfl)
  have k1 := h1
  obtain ⟨fuel1, f1⟩ := h1
  clear hA0 hval0
  simp only [List.append_nil, List.nil_append] at hW'
  have hlt : ∀ x ∈ p1, x.block < W.heap.size := fun x hx => by simpa using hW'.lt x (by simpa using hx)
  have w1 : (a1 = none ∧ l1 = 0) ∨ ∃ a : Addr, a1 = some a ∧ l1 ≤ c1 ∧ c1 ≤ maxLen ∧ ∀ i, i < c1 → ∃ k n m : Int, W.cell? (a.add (i * 3 + 0)) = some (.int .i64 k) ∧ W.cell? (a.add (i * 3 + 1)) = some (.int .i64 n) ∧ W.cell? (a.add (i * 3 + 2)) = some (.int .u64 m) := by
    rcases open_slice Try.underlying22 f1 with ⟨hcs, hx⟩ | ⟨a, len', cap', m, n, D, Pl, hcs, _, hl, hm, hmm, hx, hi⟩
    · simp [Value.cells] at hcs
      exact Or.inl ⟨hcs.1, hcs.2.1⟩
    · simp [Value.cells] at hcs
      obtain ⟨rfl, rfl, rfl⟩ := hcs
      simp only [if_true] at hmm
      subst hmm
      refine Or.inr ⟨a, rfl, hl, hm, fun i hi' => ?_⟩
      obtain ⟨cs', hc, ht⟩ := hi i hi'
      rw [cellsTake] at hc
      obtain ⟨k, n, m, h0, h1, h2⟩ := thing hc ht
      rw [add_add] at h0 h1 h2
      exact ⟨k, n, m, h0, h1, h2⟩
  refine (walk w0 w1).mono fun e W' ⟨he, bel⟩ => ?_
  subst he
  refine ⟨_, rfl, _, _, _, [], p1, [], hW', trodAll_mk1 (shut_bool Try.underlying4 _), ?_, rfl, bel.frame _, fun h => by cases h⟩
  have t1 := Below.trod laidOut (by kernel_rfl) (of_decide_eq_true (by kernel_rfl)) k1 bel hlt
  have t := trodAll_cons_mk (shut_string Try.underlying9 w0) (trodAll_cons_mk t1 trodAll_mk0)
  rw [List.append_nil] at t
  exact t

theorem over : Rows.packTakesRow.holds Try.pinned (OpenSpec.ofChange Rows.packTakesSpec) :=
  OpenClaim.holds_of_wide 3 Try.f3 rfl rfl rfl rfl rfl rfl rfl ⟨rfl, rfl, rfl, rfl, rfl⟩ rfl rfl rfl rfl rfl (by kernel_rfl) Try.func3 (by kernel_rfl)
    (of_decide_eq_true (by kernel_rfl)) (by unfold Func.isWrapper; first | (rw [if_pos (by decide +kernel)]; kernel_rfl) | (rw [if_neg (by decide +kernel)]; exact ⟨rfl, rfl⟩))
    (fun os started H enc _ => lifted os started H enc)

end Go.Proofs.Ytponpkmmfamjnaa.packTakes
namespace Go.Proofs.Ytponpkmmfamjnaa
theorem packTakes_holds : Rows.PackTakesSaid := packTakes.over
#print axioms packTakes_holds
end Go.Proofs.Ytponpkmmfamjnaa
