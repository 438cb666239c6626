/-
  StampTorn, over the row's numbers.
-/
import Derived.Test.YtdojmlfpckgdoaaStampTornLaw
import Derived.OpenShut
namespace Go.Proofs.Ytdojmlfpckgdoaa
open Go.RowKit
theorem stampTorn_any (a b : Int) (s o : ByteArray) (n : Int) (wa : (Lit.int .u32 a).wf = true) (wb : (Lit.int .u32 b).wf = true) (hs : s.size ≤ maxLen) (ho : o.size ≤ maxLen) (_wn : (Lit.int .i64 n).wf = true) (w : World) :
    Calls Try.prog 9 #[.int .u32 a, .int .u32 b, .string s, .string o, .int .i64 n] w fun e w' => e = .returned (.bool true) ∧ Below w.heap.size w w' := by
  have h1 := bounds_u32 wa
  have h2 := bounds_u32 wb
  obtain ⟨a, rfl⟩ := Int.eq_ofNat_of_zero_le h1.1
  obtain ⟨b, rfl⟩ := Int.eq_ofNat_of_zero_le h2.1
  obtain ⟨t, ht, hcut⟩ := cut_law s 47 hs (by omega)
  obtain ⟨t2, ht2, hcut2⟩ := cut_law o 64 ho (by omega)
  exact stampTorn_walk a b s o n (by omega) (by omega) w t t2 ht ht2 hcut hcut2
end Go.Proofs.Ytdojmlfpckgdoaa
