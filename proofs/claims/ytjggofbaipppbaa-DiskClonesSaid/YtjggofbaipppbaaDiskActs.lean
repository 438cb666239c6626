/-
  A list of calls, handed in: its reading, whole.
-/
import Derived.Test.YtjggofbaipppbaaDiskPlaysA
import Derived.ProofKit
import Derived.OpenShut
import Derived.ShutString
import Derived.Deep.Slices
import Derived.Deep.Grids
namespace Go.Proofs.Ytjggofbaipppbaa
open Go.ChangeShapes Go.WideShapes Go.ChangeAt Go.RowKit Go.Deep
open Go.ChangeMaps (open_string shut_string)
set_option linter.unusedVariables false
theorem cellsIntD : Try.prog.cellsOf 3 = 1 := by kernel_rfl
theorem cellsTextD : Try.prog.cellsOf 9 = 1 := by kernel_rfl
theorem cellsIntsD : Try.prog.cellsOf 32 = 1 := by kernel_rfl
theorem cellsActD : Try.prog.cellsOf 34 = 5 := by kernel_rfl
theorem five_ofD {α : Type} {l : List α} (h : l.length = 5) : ∃ a b c d e, l = [a, b, c, d, e] := by
  match l, h with
  | [a, b, c, d, e], _ => exact ⟨a, b, c, d, e, rfl⟩
theorem row_atD {w : World} {a : Addr} {n : Nat} {V : Nat → Value} (h : ∀ i, i < n → w.cell? (a.add i) = some (V i)) (hp : 0 < n) :
    ∃ b off, a = ⟨b, off, none⟩ ∧ ∀ j, j < n → w.cell? ⟨b, off + j, none⟩ = some (V j) := by
  obtain ⟨b, off, spot⟩ := a
  have hspot : spot = none := by simpa [Addr.add] using World.cell?_spot (h 0 hp)
  subst hspot
  exact ⟨b, off, rfl, fun j hj => by rw [← Go.WideShapes.add_plain]; exact h j hj⟩
/-- a call of the list: kind, sector, number, text, cuts -/
theorem actFull {H : Type} {enc : TypeId × Value → H} {w : World} {fuel : Nat} {a : Addr} {cs : List Value} {x : DataW H × List MemPlace}
    (hc : w.cells? 0 a 5 = some cs) (h : DataW.trod enc Try.prog w 0 (fun _ => true) true fuel 34 cs = some x) :
    ∃ A : DAct, (w.cell? (a.add 0) = some (.int .i64 A.kind) ∧ w.cell? (a.add 1) = some (.int .i64 A.a) ∧ w.cell? (a.add 2) = some (.int .i64 A.n) ∧ w.cell? (a.add 3) = some (.string A.s) ∧ w.cell? (a.add 4) = some (.slice A.ca A.cl A.cc)) ∧ A.s.size ≤ maxLen ∧ IntsApart (fun _ => False) w A.ca A.cl A.es := by
  obtain ⟨_, hl, hat⟩ := World.cells?_some hc
  obtain ⟨xs, n', _, _, _, hxl, hf⟩ := DataW.trod_struct Try.underlying34 h
  obtain ⟨c0, c1, c2, c3, c4, rfl⟩ := five_ofD hl
  obtain ⟨x0, x1, x2, x3, x4, rfl⟩ := five_ofD hxl
  have f0 : DataW.trod enc Try.prog w 0 (fun _ => true) true n' 3 [c0] = some x0 := by have h := hf 0 _ rfl; simpa [cellsIntD] using h
  have f1 : DataW.trod enc Try.prog w 0 (fun _ => true) true n' 3 [c1] = some x1 := by have h := hf 1 _ rfl; simpa [cellsIntD] using h
  have f2 : DataW.trod enc Try.prog w 0 (fun _ => true) true n' 3 [c2] = some x2 := by have h := hf 2 _ rfl; simpa [cellsIntD] using h
  have f3 : DataW.trod enc Try.prog w 0 (fun _ => true) true n' 9 [c3] = some x3 := by have h := hf 3 _ rfl; simpa [cellsIntD, cellsTextD] using h
  have f4 : DataW.trod enc Try.prog w 0 (fun _ => true) true n' 32 [c4] = some x4 := by have h := hf 4 _ rfl; simpa [cellsIntD, cellsTextD, cellsIntsD] using h
  obtain ⟨v0, e0, _⟩ := DataW.trod_int Try.underlying3 f0
  obtain ⟨v1, e1, _⟩ := DataW.trod_int Try.underlying3 f1
  obtain ⟨v2, e2, _⟩ := DataW.trod_int Try.underlying3 f2
  obtain ⟨s, e3, _, hs⟩ := DataW.trod_string Try.underlying9 f3
  obtain rfl : c0 = .int .i64 v0 := by simpa using e0
  obtain rfl : c1 = .int .i64 v1 := by simpa using e1
  obtain rfl : c2 = .int .i64 v2 := by simpa using e2
  obtain rfl : c3 = .string s := by simpa using e3
  have key : ∃ (ca : Option Addr) (cl cc : Nat) (es : Nat → Int), c4 = .slice ca cl cc ∧ IntsApart (fun _ => False) w ca cl es := by
    rcases open_ints Try.underlying32 Try.underlying3 cellsIntD f4 with ⟨hcs, hx⟩ | ⟨a', len', cap', zs, hcs, _, hl', hm, hz, hx, hcell, hwz⟩
    · obtain rfl : c4 = .slice none 0 0 := by simpa using hcs
      exact ⟨none, 0, 0, fun _ => 0, rfl, Or.inl rfl⟩
    · obtain rfl : c4 = .slice (some a') len' cap' := by simpa using hcs
      simp at hz
      refine ⟨some a', len', cap', fun i => zs.getD i 0, rfl, ?_⟩
      by_cases h0 : len' = 0
      · exact Or.inl h0
      · obtain ⟨b, off, rfl, hr⟩ := row_atD (n := cap') (V := fun i => .int .i64 (zs.getD i 0)) (fun i hi => hcell i (by omega)) (by omega)
        exact Or.inr ⟨b, off, rfl, fun e => e, fun i hi => hr i (by omega)⟩
  obtain ⟨ca, cl, cc, es, rfl, hI⟩ := key
  exact ⟨⟨v0, v1, v2, s, ca, cl, cc, es⟩, ⟨hat 0 (by decide), hat 1 (by decide), hat 2 (by decide), hat 3 (by decide), hat 4 (by decide)⟩, hs, hI⟩
/-- a list of calls, whole -/
theorem actsFull {H : Type} {enc : TypeId × Value → H} {W : World} {fuel : Nat} {a1 : Option Addr} {l1 c1 : Nat} {x : DataW H × List MemPlace}
    (f1 : DataW.trod enc Try.prog W 0 (fun _ => true) true fuel 22 (Value.slice a1 l1 c1).cells.toList = some x) : ∃ A, FullAt W a1 l1 A := by
  rcases open_slice Try.underlying22 f1 with ⟨hcs, hx⟩ | ⟨a, len', cap', m, n, D, Pl, hcs, _, hl, hm, hmm, hx, hi⟩
  · simp [Value.cells] at hcs
    exact ⟨fun _ => ⟨0, 0, 0, ⟨#[]⟩, none, 0, 0, fun _ => 0⟩, Or.inl hcs.2.1⟩
  · simp [Value.cells] at hcs
    obtain ⟨rfl, rfl, rfl⟩ := hcs
    simp only [if_true] at hmm
    subst hmm
    by_cases h0 : l1 = 0
    · exact ⟨fun _ => ⟨0, 0, 0, ⟨#[]⟩, none, 0, 0, fun _ => 0⟩, Or.inl h0⟩
    have hc : ∀ i, i < m → ∃ A : DAct, (W.cell? (a.add (i * 5 + 0)) = some (.int .i64 A.kind) ∧ W.cell? (a.add (i * 5 + 1)) = some (.int .i64 A.a) ∧ W.cell? (a.add (i * 5 + 2)) = some (.int .i64 A.n) ∧ W.cell? (a.add (i * 5 + 3)) = some (.string A.s) ∧ W.cell? (a.add (i * 5 + 4)) = some (.slice A.ca A.cl A.cc)) ∧ A.s.size ≤ maxLen ∧ IntsApart (fun _ => False) W A.ca A.cl A.es := fun i hi' => by
      obtain ⟨cs', hc, ht⟩ := hi i hi'
      rw [cellsActD] at hc
      obtain ⟨A, ⟨h0, h1, h2, h3, h4⟩, hs, hI⟩ := actFull hc ht
      rw [add_add] at h0 h1 h2 h3 h4
      exact ⟨A, ⟨h0, h1, h2, h3, h4⟩, hs, hI⟩
    obtain ⟨b, off, spot⟩ := a
    have hspot : spot = none := by
      obtain ⟨_, ⟨h, _⟩, _⟩ := hc 0 (by omega)
      simpa [Addr.add] using World.cell?_spot h
    subst hspot
    let A : Nat → DAct := fun i => if h : i < m then (hc i h).choose else ⟨0, 0, 0, ⟨#[]⟩, none, 0, 0, fun _ => 0⟩
    refine ⟨A, Or.inr ⟨b, off, rfl, fun i hi' => ?_⟩⟩
    have him : i < m := by omega
    have h := (hc i him).choose_spec
    have b0 : (⟨b, off, none⟩ : Addr).add (i * 5 + 0) = ⟨b, off + i * 5, none⟩ := by rw [Addr.add_lit]; rfl
    have b1 : (⟨b, off, none⟩ : Addr).add (i * 5 + 1) = ⟨b, off + i * 5 + 1, none⟩ := by rw [Addr.add_lit]; rfl
    have b2 : (⟨b, off, none⟩ : Addr).add (i * 5 + 2) = ⟨b, off + i * 5 + 2, none⟩ := by rw [Addr.add_lit]; rfl
    have b3 : (⟨b, off, none⟩ : Addr).add (i * 5 + 3) = ⟨b, off + i * 5 + 3, none⟩ := by rw [Addr.add_lit]; rfl
    have b4 : (⟨b, off, none⟩ : Addr).add (i * 5 + 4) = ⟨b, off + i * 5 + 4, none⟩ := by rw [Addr.add_lit]; rfl
    obtain ⟨⟨h0, h1, h2, h3, h4⟩, hs, hI⟩ := h
    simp only [A, dif_pos him]
    exact ⟨⟨by rw [← b0]; exact h0, by rw [← b1]; exact h1, by rw [← b2]; exact h2, by rw [← b3]; exact h3, by rw [← b4]; exact h4⟩, hs, hI⟩
end Go.Proofs.Ytjggofbaipppbaa
