/-
  A list of three numbers each, handed in: its reading, whole.
-/
import Derived.Test.YtemnkffaapljpaaUPlayA
import Derived.ProofKit
import Derived.OpenShut
import Derived.ShutString
import Derived.Deep.Slices
import Derived.Deep.Grids
namespace Go.Proofs.Ytemnkffaapljpaa
open Go.ChangeShapes Go.WideShapes Go.ChangeAt Go.RowKit Go.Deep
open Go.ChangeMaps (open_string shut_string)
set_option linter.unusedVariables false
theorem cellsIntR : Try.prog.cellsOf 3 = 1 := by kernel_rfl
theorem cellsRawR : Try.prog.cellsOf 108 = 3 := by kernel_rfl
theorem three_ofR {α : Type} {l : List α} (h : l.length = 3) : ∃ a b c, l = [a, b, c] := by
  match l, h with
  | [a, b, c], _ => exact ⟨a, b, c, rfl⟩
theorem rawOne {H : Type} {enc : TypeId × Value → H} {w : World} {fuel : Nat} {a : Addr} {cs : List Value} {x : DataW H × List MemPlace}
    (hc : w.cells? 0 a 3 = some cs) (h : DataW.trod enc Try.prog w 0 (fun _ => true) true fuel 108 cs = some x) :
    ∃ A : RA, w.cell? (a.add 0) = some (.int .i64 A.k) ∧ w.cell? (a.add 1) = some (.int .i64 A.a) ∧ w.cell? (a.add 2) = some (.int .i64 A.t) := by
  obtain ⟨_, hl, hat⟩ := World.cells?_some hc
  obtain ⟨xs, n', _, _, _, hxl, hf⟩ := DataW.trod_struct Try.underlying108 h
  obtain ⟨c0, c1, c2, rfl⟩ := three_ofR hl
  obtain ⟨x0, x1, x2, rfl⟩ := three_ofR hxl
  have f0 : DataW.trod enc Try.prog w 0 (fun _ => true) true n' 3 [c0] = some x0 := by have h := hf 0 _ rfl; simpa [cellsIntR] using h
  have f1 : DataW.trod enc Try.prog w 0 (fun _ => true) true n' 3 [c1] = some x1 := by have h := hf 1 _ rfl; simpa [cellsIntR] using h
  have f2 : DataW.trod enc Try.prog w 0 (fun _ => true) true n' 3 [c2] = some x2 := by have h := hf 2 _ rfl; simpa [cellsIntR] using h
  obtain ⟨v0, e0, _⟩ := DataW.trod_int Try.underlying3 f0
  obtain ⟨v1, e1, _⟩ := DataW.trod_int Try.underlying3 f1
  obtain ⟨v2, e2, _⟩ := DataW.trod_int Try.underlying3 f2
  obtain rfl : c0 = .int .i64 v0 := by simpa using e0
  obtain rfl : c1 = .int .i64 v1 := by simpa using e1
  obtain rfl : c2 = .int .i64 v2 := by simpa using e2
  exact ⟨⟨v0, v1, v2⟩, hat 0 (by decide), hat 1 (by decide), hat 2 (by decide)⟩
theorem rawsFull {H : Type} {enc : TypeId × Value → H} {W : World} {fuel : Nat} {a1 : Option Addr} {l1 c1 : Nat} {x : DataW H × List MemPlace}
    (f1 : DataW.trod enc Try.prog W 0 (fun _ => true) true fuel 22 (Value.slice a1 l1 c1).cells.toList = some x) : ∃ A, RawsAt W a1 l1 A := by
  rcases open_slice Try.underlying22 f1 with ⟨hcs, hx⟩ | ⟨a, len', cap', m, n, D, Pl, hcs, _, hl, hm, hmm, hx, hi⟩
  · simp [Value.cells] at hcs
    exact ⟨fun _ => ⟨0, 0, 0⟩, Or.inl hcs.2.1⟩
  · simp [Value.cells] at hcs
    obtain ⟨rfl, rfl, rfl⟩ := hcs
    simp only [if_true] at hmm
    subst hmm
    by_cases h0 : l1 = 0
    · exact ⟨fun _ => ⟨0, 0, 0⟩, Or.inl h0⟩
    have hc : ∀ i, i < m → ∃ A : RA, W.cell? (a.add (i * 3 + 0)) = some (.int .i64 A.k) ∧ W.cell? (a.add (i * 3 + 1)) = some (.int .i64 A.a) ∧ W.cell? (a.add (i * 3 + 2)) = some (.int .i64 A.t) := fun i hi' => by
      obtain ⟨cs', hc, ht⟩ := hi i hi'
      rw [cellsRawR] at hc
      obtain ⟨A, h0, h1, h2⟩ := rawOne hc ht
      rw [add_add] at h0 h1 h2
      exact ⟨A, h0, h1, h2⟩
    obtain ⟨b, off, spot⟩ := a
    have hspot : spot = none := by
      obtain ⟨_, h, _⟩ := hc 0 (by omega)
      simpa [Addr.add] using World.cell?_spot h
    subst hspot
    let A : Nat → RA := fun i => if h : i < m then (hc i h).choose else ⟨0, 0, 0⟩
    refine ⟨A, Or.inr ⟨b, off, rfl, fun i hi' => ?_⟩⟩
    have him : i < m := by omega
    have h := (hc i him).choose_spec
    have b0 : (⟨b, off, none⟩ : Addr).add (i * 3 + 0) = ⟨b, off + i * 3, none⟩ := by rw [Addr.add_lit]; rfl
    have b1 : (⟨b, off, none⟩ : Addr).add (i * 3 + 1) = ⟨b, off + i * 3 + 1, none⟩ := by rw [Addr.add_lit]; rfl
    have b2 : (⟨b, off, none⟩ : Addr).add (i * 3 + 2) = ⟨b, off + i * 3 + 2, none⟩ := by rw [Addr.add_lit]; rfl
    obtain ⟨h0, h1, h2⟩ := h
    simp only [A, dif_pos him]
    exact ⟨by rw [← b0]; exact h0, by rw [← b1]; exact h1, by rw [← b2]; exact h2⟩
end Go.Proofs.Ytemnkffaapljpaa
