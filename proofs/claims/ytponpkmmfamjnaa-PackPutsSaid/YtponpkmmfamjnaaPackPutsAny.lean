/-
  PackPuts: over whatever numbers that fit.
-/
import Derived.Test.YtponpkmmfamjnaaPackPuts
import Derived.OpenShut
namespace Go.Proofs.Ytponpkmmfamjnaa
open Go.RowKit
theorem packPuts_any (a b m n : Int) (s : ByteArray) (fill : Int) (wa : (Lit.int .u64 a).wf = true) (wb : (Lit.int .u64 b).wf = true) (_wm : (Lit.int .i64 m).wf = true) (_wn : (Lit.int .i64 n).wf = true) (ws : s.size ≤ maxLen) (_wf : (Lit.int .i64 fill).wf = true) (w : World) :
    Calls Try.prog 4 #[.int .u64 a, .int .u64 b, .int .i64 m, .int .i64 n, .string s, .int .i64 fill] w fun e w' => e = .returned (.bool true) ∧ Below w.heap.size w w' := by
  have h1 := bounds_u64 wa
  have h2 := bounds_u64 wb
  obtain ⟨x, rfl⟩ := Int.eq_ofNat_of_zero_le h1.1
  obtain ⟨y, rfl⟩ := Int.eq_ofNat_of_zero_le h2.1
  exact packPuts_walk x y m n s fill (by omega) (by omega) ws w
end Go.Proofs.Ytponpkmmfamjnaa
