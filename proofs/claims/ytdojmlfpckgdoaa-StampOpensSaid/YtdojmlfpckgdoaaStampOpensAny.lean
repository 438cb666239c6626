/-
  StampOpens, over the row's numbers.
-/
import Derived.Test.YtdojmlfpckgdoaaStampOpensLaw
import Derived.OpenShut
namespace Go.Proofs.Ytdojmlfpckgdoaa
open Go.RowKit
theorem stampOpens_any (a b : Int) (s : ByteArray) (n : Int) (wa : (Lit.int .u32 a).wf = true) (wb : (Lit.int .u32 b).wf = true) (hs : s.size ≤ maxLen) (_wn : (Lit.int .i64 n).wf = true) (w : World) :
    Calls Try.prog 8 #[.int .u32 a, .int .u32 b, .string s, .int .i64 n] w fun e w' => e = .returned (.bool true) ∧ Below w.heap.size w w' := by
  have h1 := bounds_u32 wa
  have h2 := bounds_u32 wb
  obtain ⟨a, rfl⟩ := Int.eq_ofNat_of_zero_le h1.1
  obtain ⟨b, rfl⟩ := Int.eq_ofNat_of_zero_le h2.1
  obtain ⟨t, ht, hcut⟩ := cut_law s 70 hs (by omega)
  exact stampOpens_walk a b s n (by omega) (by omega) w t ht hcut
end Go.Proofs.Ytdojmlfpckgdoaa
