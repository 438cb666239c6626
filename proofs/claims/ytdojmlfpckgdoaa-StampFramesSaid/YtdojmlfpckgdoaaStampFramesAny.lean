/-
  StampFrames, over the row's numbers.
-/
import Derived.Test.YtdojmlfpckgdoaaStampFramesLaw
import Derived.OpenShut
namespace Go.Proofs.Ytdojmlfpckgdoaa
open Go.RowKit
theorem stampFrames_any (a b c d : Int) (s : ByteArray) (wa : (Lit.int .u32 a).wf = true) (wb : (Lit.int .u32 b).wf = true) (wc : (Lit.int .u32 c).wf = true) (wd : (Lit.int .u32 d).wf = true) (hs : s.size ≤ maxLen) (w : World) :
    Calls Try.prog 7 #[.int .u32 a, .int .u32 b, .int .u32 c, .int .u32 d, .string s] w fun e w' => e = .returned (.bool true) ∧ Below w.heap.size w w' := by
  have h1 := bounds_u32 wa
  have h2 := bounds_u32 wb
  have h3 := bounds_u32 wc
  have h4 := bounds_u32 wd
  obtain ⟨a, rfl⟩ := Int.eq_ofNat_of_zero_le h1.1
  obtain ⟨b, rfl⟩ := Int.eq_ofNat_of_zero_le h2.1
  obtain ⟨c, rfl⟩ := Int.eq_ofNat_of_zero_le h3.1
  obtain ⟨d, rfl⟩ := Int.eq_ofNat_of_zero_le h4.1
  obtain ⟨t, _, hcut⟩ := cut_law s 60 hs (by omega)
  by_cases hz : 47 < t.size
  · exact stampFrames_big a b c d s (by omega) (by omega) w t hcut hz
  · exact stampFrames_ok a b c d s (by omega) (by omega) (by omega) (by omega) w t hcut (by omega)
end Go.Proofs.Ytdojmlfpckgdoaa
