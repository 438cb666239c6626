/-
  A super as the document has it, handed in by value: its five numbers.
-/
import Derived.Test.YtnkmidfdpjcdaaaSuperKit
import Derived.ProofKit
import Derived.OpenShut
import Derived.Deep.Slices
namespace Go.Proofs.Ytnkmidfdpjcdaaa
open Go.ChangeShapes Go.WideShapes Go.ChangeAt Go.RowKit Go.Deep

theorem cellsInt' : Try.prog.cellsOf 3 = 1 := by kernel_rfl
theorem cellsRefSup : Try.prog.cellsOf 47 = 5 := by kernel_rfl
theorem five_of {α : Type} {l : List α} (h : l.length = 5) : ∃ a b c d e, l = [a, b, c, d, e] := by
  cases l with
  | nil => cases h
  | cons a l =>
    cases l with
    | nil => cases h
    | cons b l =>
      cases l with
      | nil => cases h
      | cons c l =>
        cases l with
        | nil => cases h
        | cons d l =>
          cases l with
          | nil => cases h
          | cons e l =>
            cases l with
            | nil => exact ⟨a, b, c, d, e, rfl⟩
            | cons f l => simp at h
set_option maxRecDepth 100000 in
theorem refArg {H : Type} {enc : TypeId × Value → H} {w : World} {base b0 : Nat} {spare : Nat → Bool} {held : Bool} {r : Reach} {v : Value} {d : DataW H} {p : List MemPlace}
    (hv : Value.okWide Try.prog w r b0 47 v) (h : DataW.Trod enc Try.prog w base spare held 47 v d p) :
    ∃ x0 x1 x2 x3 x4 : Int, v = .agg #[.int .i64 x0, .int .i64 x1, .int .i64 x2, .int .i64 x3, .int .i64 x4] := by
  obtain ⟨cs, rfl, hsz⟩ := okWide_struct Try.underlying47 hv
  obtain ⟨l⟩ := cs
  have hl : l.length = 5 := by
    have := hsz.trans cellsRefSup
    simpa using this
  obtain ⟨fuel, hf⟩ := h
  obtain ⟨xs, n', _, _, _, hxl, hg⟩ := DataW.trod_struct Try.underlying47 hf
  obtain ⟨c0, c1, c2, c3, c4, rfl⟩ := five_of hl
  obtain ⟨y0, y1, y2, y3, y4, rfl⟩ := five_of hxl
  have f0 : DataW.trod enc Try.prog w base spare held n' 3 [c0] = some y0 := by have h := hg 0 _ rfl; simpa [cellsInt', Value.cells] using h
  have f1 : DataW.trod enc Try.prog w base spare held n' 3 [c1] = some y1 := by have h := hg 1 _ rfl; simpa [cellsInt', Value.cells] using h
  have f2 : DataW.trod enc Try.prog w base spare held n' 3 [c2] = some y2 := by have h := hg 2 _ rfl; simpa [cellsInt', Value.cells] using h
  have f3 : DataW.trod enc Try.prog w base spare held n' 3 [c3] = some y3 := by have h := hg 3 _ rfl; simpa [cellsInt', Value.cells] using h
  have f4 : DataW.trod enc Try.prog w base spare held n' 3 [c4] = some y4 := by have h := hg 4 _ rfl; simpa [cellsInt', Value.cells] using h
  obtain ⟨x0, e0, _⟩ := DataW.trod_int Try.underlying3 f0
  obtain ⟨x1, e1, _⟩ := DataW.trod_int Try.underlying3 f1
  obtain ⟨x2, e2, _⟩ := DataW.trod_int Try.underlying3 f2
  obtain ⟨x3, e3, _⟩ := DataW.trod_int Try.underlying3 f3
  obtain ⟨x4, e4, _⟩ := DataW.trod_int Try.underlying3 f4
  obtain rfl : c0 = .int .i64 x0 := by simpa using e0
  obtain rfl : c1 = .int .i64 x1 := by simpa using e1
  obtain rfl : c2 = .int .i64 x2 := by simpa using e2
  obtain rfl : c3 = .int .i64 x3 := by simpa using e3
  obtain rfl : c4 = .int .i64 x4 := by simpa using e4
  exact ⟨x0, x1, x2, x3, x4, rfl⟩
end Go.Proofs.Ytnkmidfdpjcdaaa
