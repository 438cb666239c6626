/-
  The law's Frame, in a Guard: for every stamp and text the frame, or the error; and what the law asks at its head.
-/
import Derived.Test.YtjggofbaipppbaaStampFrame
import Derived.Laws.EntriesVeiled
namespace Go.Proofs.Ytjggofbaipppbaa
open Go.RowKit

def frameErr (t : ByteArray) : Option Int := if t.size ≤ 47 then none else some 3
def frameRes (a b : Nat) (t : ByteArray) : ByteArray := if t.size ≤ 47 then ⟨(frameOf a b t.data.toList).toArray⟩ else ⟨#[]⟩
end Go.Proofs.Ytjggofbaipppbaa
