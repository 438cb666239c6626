/-
  An entry as the document has it, handed in by value: its numbers.
-/
import Derived.Test.YtemnkffaapljpaaCatBytesLaw
import Derived.ProofKit
import Derived.OpenShut
import Derived.Deep.Slices
namespace Go.Proofs.Ytemnkffaapljpaa
open Go.ChangeShapes Go.WideShapes Go.ChangeAt Go.RowKit Go.Deep

theorem cellsInt' : Try.prog.cellsOf 3 = 1 := by kernel_rfl
theorem cellsBool' : Try.prog.cellsOf 4 = 1 := by kernel_rfl
theorem cellsEntr : Try.prog.cellsOf 63 = 6 := by kernel_rfl
theorem six_of {α : Type} {l : List α} (h : l.length = 6) : ∃ a b c d e f, l = [a, b, c, d, e, f] := by
  match l, h with
  | [a, b, c, d, e, f], _ => exact ⟨a, b, c, d, e, f, rfl⟩
set_option maxRecDepth 100000 in
theorem entArg {H : Type} {enc : TypeId × Value → H} {w : World} {base b0 : Nat} {spare : Nat → Bool} {held : Bool} {r : Reach} {v : Value} {d : DataW H} {p : List MemPlace}
    (hv : Value.okWide Try.prog w r b0 63 v) (h : DataW.Trod enc Try.prog w base spare held 63 v d p) :
    ∃ (x0 x1 : Int) (x2 : Bool) (x3 x4 x5 : Int), v = .agg #[.int .i64 x0, .int .i64 x1, .bool x2, .int .i64 x3, .int .i64 x4, .int .i64 x5] := by
  obtain ⟨cs, rfl, hsz⟩ := okWide_struct Try.underlying63 hv
  obtain ⟨l⟩ := cs
  have hl : l.length = 6 := by
    have := hsz.trans cellsEntr
    simpa using this
  obtain ⟨fuel, hf⟩ := h
  obtain ⟨xs, n', _, _, _, hxl, hg⟩ := DataW.trod_struct Try.underlying63 hf
  obtain ⟨c0, c1, c2, c3, c4, c5, rfl⟩ := six_of hl
  obtain ⟨y0, y1, y2, y3, y4, y5, rfl⟩ := six_of hxl
  have f0 : DataW.trod enc Try.prog w base spare held n' 3 [c0] = some y0 := by have h := hg 0 _ rfl; simpa [cellsInt', cellsBool', Value.cells] using h
  have f1 : DataW.trod enc Try.prog w base spare held n' 3 [c1] = some y1 := by have h := hg 1 _ rfl; simpa [cellsInt', cellsBool', Value.cells] using h
  have f2 : DataW.trod enc Try.prog w base spare held n' 4 [c2] = some y2 := by have h := hg 2 _ rfl; simpa [cellsInt', cellsBool', Value.cells] using h
  have f3 : DataW.trod enc Try.prog w base spare held n' 3 [c3] = some y3 := by have h := hg 3 _ rfl; simpa [cellsInt', cellsBool', Value.cells] using h
  have f4 : DataW.trod enc Try.prog w base spare held n' 3 [c4] = some y4 := by have h := hg 4 _ rfl; simpa [cellsInt', cellsBool', Value.cells] using h
  have f5 : DataW.trod enc Try.prog w base spare held n' 3 [c5] = some y5 := by have h := hg 5 _ rfl; simpa [cellsInt', cellsBool', Value.cells] using h
  obtain ⟨x0, e0, _⟩ := DataW.trod_int Try.underlying3 f0
  obtain rfl : c0 = .int .i64 x0 := by simpa using e0
  obtain ⟨x1, e1, _⟩ := DataW.trod_int Try.underlying3 f1
  obtain rfl : c1 = .int .i64 x1 := by simpa using e1
  obtain ⟨x2, e2, _⟩ := DataW.trod_bool Try.underlying4 f2
  obtain rfl : c2 = .bool x2 := by simpa using e2
  obtain ⟨x3, e3, _⟩ := DataW.trod_int Try.underlying3 f3
  obtain rfl : c3 = .int .i64 x3 := by simpa using e3
  obtain ⟨x4, e4, _⟩ := DataW.trod_int Try.underlying3 f4
  obtain rfl : c4 = .int .i64 x4 := by simpa using e4
  obtain ⟨x5, e5, _⟩ := DataW.trod_int Try.underlying3 f5
  obtain rfl : c5 = .int .i64 x5 := by simpa using e5
  exact ⟨x0, x1, x2, x3, x4, x5, rfl⟩
end Go.Proofs.Ytemnkffaapljpaa
