/-
  A list of raw items, handed in: its reading, whole.
-/
import Derived.Test.YtpgmgopcgoblhaaDoorStreamMade
import Derived.ProofKit
import Derived.OpenShut
import Derived.ShutString
import Derived.Deep.Slices
import Derived.Deep.Grids
namespace Go.Proofs.YtpgmgopcgoblhaaDoor
open Go.ChangeShapes Go.WideShapes Go.ChangeAt Go.RowKit Go.Deep
open Go.ChangeMaps (open_string shut_string)
set_option linter.unusedVariables false
theorem cellsIntW : Tryd.prog.cellsOf 3 = 1 := by kernel_rfl
theorem cellsTextW : Tryd.prog.cellsOf 9 = 1 := by kernel_rfl
theorem cellsBoolW : Tryd.prog.cellsOf 4 = 1 := by kernel_rfl
theorem cellsRawW : Tryd.prog.cellsOf 54 = 4 := by kernel_rfl
theorem four_ofW {α : Type} {l : List α} (h : l.length = 4) : ∃ a b c d, l = [a, b, c, d] := by
  match l, h with
  | [a, b, c, d], _ => exact ⟨a, b, c, d, rfl⟩
theorem rawFull {H : Type} {enc : TypeId × Value → H} {w : World} {fuel : Nat} {a : Addr} {cs : List Value} {x : DataW H × List MemPlace}
    (hc : w.cells? 0 a 4 = some cs) (h : DataW.trod enc Tryd.prog w 0 (fun _ => true) true fuel 54 cs = some x) :
    ∃ A : RW, (w.cell? (a.add 0) = some (.int .i64 A.pl) ∧ w.cell? (a.add 1) = some (.int .i64 A.how) ∧ w.cell? (a.add 2) = some (.string A.s) ∧ w.cell? (a.add 3) = some (.bool A.no)) ∧ A.s.size ≤ maxLen := by
  obtain ⟨_, hl, hat⟩ := World.cells?_some hc
  obtain ⟨xs, n', _, _, _, hxl, hf⟩ := DataW.trod_struct Tryd.underlying54 h
  obtain ⟨c0, c1, c2, c3, rfl⟩ := four_ofW hl
  obtain ⟨x0, x1, x2, x3, rfl⟩ := four_ofW hxl
  have f0 : DataW.trod enc Tryd.prog w 0 (fun _ => true) true n' 3 [c0] = some x0 := by have h := hf 0 _ rfl; simpa [cellsIntW] using h
  have f1 : DataW.trod enc Tryd.prog w 0 (fun _ => true) true n' 3 [c1] = some x1 := by have h := hf 1 _ rfl; simpa [cellsIntW] using h
  have f2 : DataW.trod enc Tryd.prog w 0 (fun _ => true) true n' 9 [c2] = some x2 := by have h := hf 2 _ rfl; simpa [cellsIntW, cellsTextW] using h
  have f3 : DataW.trod enc Tryd.prog w 0 (fun _ => true) true n' 4 [c3] = some x3 := by have h := hf 3 _ rfl; simpa [cellsIntW, cellsTextW, cellsBoolW] using h
  obtain ⟨v0, e0, _⟩ := DataW.trod_int Tryd.underlying3 f0
  obtain ⟨v1, e1, _⟩ := DataW.trod_int Tryd.underlying3 f1
  obtain ⟨s, e2, _, hs⟩ := DataW.trod_string Tryd.underlying9 f2
  obtain ⟨b, e3, _⟩ := DataW.trod_bool Tryd.underlying4 f3
  obtain rfl : c0 = .int .i64 v0 := by simpa using e0
  obtain rfl : c1 = .int .i64 v1 := by simpa using e1
  obtain rfl : c2 = .string s := by simpa using e2
  obtain rfl : c3 = .bool b := by simpa using e3
  exact ⟨⟨v0, v1, s, b⟩, ⟨hat 0 (by decide), hat 1 (by decide), hat 2 (by decide), hat 3 (by decide)⟩, hs⟩
/-- a list of raw items, whole -/
theorem rawsFull {H : Type} {enc : TypeId × Value → H} {W : World} {fuel : Nat} {a1 : Option Addr} {l1 c1 : Nat} {x : DataW H × List MemPlace}
    (f1 : DataW.trod enc Tryd.prog W 0 (fun _ => true) true fuel 23 (Value.slice a1 l1 c1).cells.toList = some x) : ∃ A, RawsIn W a1 l1 A := by
  rcases open_slice Tryd.underlying23 f1 with ⟨hcs, hx⟩ | ⟨a, len', cap', m, n, D, Pl, hcs, _, hl, hm, hmm, hx, hi⟩
  · simp [Value.cells] at hcs
    exact ⟨fun _ => ⟨0, 0, ⟨#[]⟩, false⟩, Or.inl hcs.2.1⟩
  · simp [Value.cells] at hcs
    obtain ⟨rfl, rfl, rfl⟩ := hcs
    simp only [if_true] at hmm
    subst hmm
    by_cases h0 : l1 = 0
    · exact ⟨fun _ => ⟨0, 0, ⟨#[]⟩, false⟩, Or.inl h0⟩
    have hc : ∀ i, i < m → ∃ A : RW, (W.cell? (a.add (i * 4 + 0)) = some (.int .i64 A.pl) ∧ W.cell? (a.add (i * 4 + 1)) = some (.int .i64 A.how) ∧ W.cell? (a.add (i * 4 + 2)) = some (.string A.s) ∧ W.cell? (a.add (i * 4 + 3)) = some (.bool A.no)) ∧ A.s.size ≤ maxLen := fun i hi' => by
      obtain ⟨cs', hc, ht⟩ := hi i hi'
      rw [cellsRawW] at hc
      obtain ⟨A, ⟨h0, h1, h2, h3⟩, hs⟩ := rawFull hc ht
      rw [add_add] at h0 h1 h2 h3
      exact ⟨A, ⟨h0, h1, h2, h3⟩, hs⟩
    obtain ⟨b, off, spot⟩ := a
    have hspot : spot = none := by
      obtain ⟨_, ⟨h, _⟩, _⟩ := hc 0 (by omega)
      simpa [Addr.add] using World.cell?_spot h
    subst hspot
    let A : Nat → RW := fun i => if h : i < m then (hc i h).choose else ⟨0, 0, ⟨#[]⟩, false⟩
    refine ⟨A, Or.inr ⟨b, off, rfl, fun i hi' => ?_⟩⟩
    have him : i < m := by omega
    have h := (hc i him).choose_spec
    have b0 : (⟨b, off, none⟩ : Addr).add (i * 4 + 0) = ⟨b, off + i * 4, none⟩ := by rw [Addr.add_lit]; rfl
    have b1 : (⟨b, off, none⟩ : Addr).add (i * 4 + 1) = ⟨b, off + i * 4 + 1, none⟩ := by rw [Addr.add_lit]; rfl
    have b2 : (⟨b, off, none⟩ : Addr).add (i * 4 + 2) = ⟨b, off + i * 4 + 2, none⟩ := by rw [Addr.add_lit]; rfl
    have b3 : (⟨b, off, none⟩ : Addr).add (i * 4 + 3) = ⟨b, off + i * 4 + 3, none⟩ := by rw [Addr.add_lit]; rfl
    obtain ⟨⟨h0, h1, h2, h3⟩, hs⟩ := h
    simp only [A, dif_pos him]
    exact ⟨⟨by rw [← b0]; exact h0, by rw [← b1]; exact h1, by rw [← b2]; exact h2, by rw [← b3]; exact h3⟩, hs⟩
end Go.Proofs.YtpgmgopcgoblhaaDoor
