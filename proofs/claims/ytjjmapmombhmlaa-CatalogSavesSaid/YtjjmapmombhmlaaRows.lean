/-
  No cell of these rows narrows 'for every input' (looked for: loops, veiled, ifaces, maps, wideKeys, modest, calm, conditions, laid).
  DERIVED. THE GIVEN ROWS OF THIS SEAT. 6 by the template 'for every input the law returns true; each argument reads behind the call as it read before'; 0 by the template 'total and deterministic' (their statements: YtjjmapmombhmlaaTotals.lean).
  GIVEN WITH THE SEED: the statements are not yours to turn. If you find one false, say at which input.
  Laid BY PROGRAM, IN A SANDBOX (cutbox-rows.mjs): the forced cells as the released guide's own fill.sh prints them over the translation 682eddceccaadda3… (all of the seat's roots in one cut). By AI agents, Wed Nov 11 2026. No macro, syntax, notation, axiom, sorry.
-/
import Derived.Test.YtjjmapmombhmlaaChecked
import GoSem.Claim
import GoSem.ClaimJoined
import GoSem.ClaimMapViews
import Derived.JoinedTies
import Derived.KernelRfl
namespace Go.Proofs.Ytjjmapmombhmlaa
/- THE CELL 'sum', in the pinned program and in every row, IS THE sha256 OF THE DUMP (.gsa) THAT YtjjmapmombhmlaaProg.lean LOADS. Nothing in Lean hashes anything: it is a label: what it is worth is what the hold of that sum in a sandbox is worth. -/
noncomputable def Try.pinned : Pinned := { name := "ytjjmapmombhmlaa", sum := "682eddceccaadda311afc70c0b1c6b3569d57eb9167d647ce92935f4af7619e7", checked := Try.checked }
namespace Rows
def none {H : Type} : Left H := { results := [], args := [] }

/-- 'stereobatelaw09.UndoPlays': WHATEVER THE INPUT: true; the input reads as it did. -/
def undoPlaysSpec : ChangeSpec := { name := "undoPlays", fn := fun _ => fun
  | [d] => { results := [.lit (.bool true)], args := [d] }
  | _ => none }
def undoPlaysRow : OpenClaim := { program := "ytjjmapmombhmlaa", sum := "682eddceccaadda311afc70c0b1c6b3569d57eb9167d647ce92935f4af7619e7", func := "stereobate/stereobatelaw09.UndoPlays", spec := "undoPlays", unfollowed := true, recurses := true, apart := false }
def UndoPlaysSaid : Prop := undoPlaysRow.holds Try.pinned (OpenSpec.ofChange undoPlaysSpec)

/-- ITS FALSE NEIGHBOUR: 'it returns false'. Refute it at one input. -/
def undoPlaysWrong : ChangeSpec := { name := "undoPlays", fn := fun _ => fun
  | [d] => { results := [.lit (.bool false)], args := [d] }
  | _ => none }
def UndoPlaysWrongFalsely : Prop := undoPlaysRow.holds Try.pinned (OpenSpec.ofChange undoPlaysWrong)

/-- 'stereobatelaw10.HeapAdopts': WHATEVER THE INPUT: true; the input reads as it did. -/
def heapAdoptsSpec : ChangeSpec := { name := "heapAdopts", fn := fun _ => fun
  | [d] => { results := [.lit (.bool true)], args := [d] }
  | _ => none }
def heapAdoptsRow : OpenClaim := { program := "ytjjmapmombhmlaa", sum := "682eddceccaadda311afc70c0b1c6b3569d57eb9167d647ce92935f4af7619e7", func := "stereobate/stereobatelaw10.HeapAdopts", spec := "heapAdopts", unfollowed := true, recurses := true, apart := false }
def HeapAdoptsSaid : Prop := heapAdoptsRow.holds Try.pinned (OpenSpec.ofChange heapAdoptsSpec)

/-- ITS FALSE NEIGHBOUR: 'it returns false'. Refute it at one input. -/
def heapAdoptsWrong : ChangeSpec := { name := "heapAdopts", fn := fun _ => fun
  | [d] => { results := [.lit (.bool false)], args := [d] }
  | _ => none }
def HeapAdoptsWrongFalsely : Prop := heapAdoptsRow.holds Try.pinned (OpenSpec.ofChange heapAdoptsWrong)

/-- 'stereobatelaw10.HeapFull': WHATEVER THE INPUT: true; the input reads as it did. -/
def heapFullSpec : ChangeSpec := { name := "heapFull", fn := fun _ => fun
  | [d1, d2, d3] => { results := [.lit (.bool true)], args := [d1, d2, d3] }
  | _ => none }
def heapFullRow : OpenClaim := { program := "ytjjmapmombhmlaa", sum := "682eddceccaadda311afc70c0b1c6b3569d57eb9167d647ce92935f4af7619e7", func := "stereobate/stereobatelaw10.HeapFull", spec := "heapFull", unfollowed := true, recurses := true, apart := false }
def HeapFullSaid : Prop := heapFullRow.holds Try.pinned (OpenSpec.ofChange heapFullSpec)

/-- ITS FALSE NEIGHBOUR: 'it returns false'. Refute it at one input. -/
def heapFullWrong : ChangeSpec := { name := "heapFull", fn := fun _ => fun
  | [d1, d2, d3] => { results := [.lit (.bool false)], args := [d1, d2, d3] }
  | _ => none }
def HeapFullWrongFalsely : Prop := heapFullRow.holds Try.pinned (OpenSpec.ofChange heapFullWrong)

/-- 'stereobatelaw15.CatalogSaves': WHATEVER THE INPUT: true; the input reads as it did. -/
def catalogSavesSpec : ChangeSpec := { name := "catalogSaves", fn := fun _ => fun
  | [d] => { results := [.lit (.bool true)], args := [d] }
  | _ => none }
def catalogSavesRow : OpenClaim := { program := "ytjjmapmombhmlaa", sum := "682eddceccaadda311afc70c0b1c6b3569d57eb9167d647ce92935f4af7619e7", func := "stereobate/stereobatelaw15.CatalogSaves", spec := "catalogSaves", unfollowed := true, recurses := true, apart := false }
def CatalogSavesSaid : Prop := catalogSavesRow.holds Try.pinned (OpenSpec.ofChange catalogSavesSpec)

/-- ITS FALSE NEIGHBOUR: 'it returns false'. Refute it at one input. -/
def catalogSavesWrong : ChangeSpec := { name := "catalogSaves", fn := fun _ => fun
  | [d] => { results := [.lit (.bool false)], args := [d] }
  | _ => none }
def CatalogSavesWrongFalsely : Prop := catalogSavesRow.holds Try.pinned (OpenSpec.ofChange catalogSavesWrong)

/-- 'stereobatelaw15.CatalogAdopts': WHATEVER THE INPUT: true; the input reads as it did. -/
def catalogAdoptsSpec : ChangeSpec := { name := "catalogAdopts", fn := fun _ => fun
  | [d1, d2, d3] => { results := [.lit (.bool true)], args := [d1, d2, d3] }
  | _ => none }
def catalogAdoptsRow : OpenClaim := { program := "ytjjmapmombhmlaa", sum := "682eddceccaadda311afc70c0b1c6b3569d57eb9167d647ce92935f4af7619e7", func := "stereobate/stereobatelaw15.CatalogAdopts", spec := "catalogAdopts", unfollowed := true, recurses := true, apart := false }
def CatalogAdoptsSaid : Prop := catalogAdoptsRow.holds Try.pinned (OpenSpec.ofChange catalogAdoptsSpec)

/-- ITS FALSE NEIGHBOUR: 'it returns false'. Refute it at one input. -/
def catalogAdoptsWrong : ChangeSpec := { name := "catalogAdopts", fn := fun _ => fun
  | [d1, d2, d3] => { results := [.lit (.bool false)], args := [d1, d2, d3] }
  | _ => none }
def CatalogAdoptsWrongFalsely : Prop := catalogAdoptsRow.holds Try.pinned (OpenSpec.ofChange catalogAdoptsWrong)

/-- 'stereobatelaw15.CatalogSpoilt': WHATEVER THE INPUT: true; the input reads as it did. -/
def catalogSpoiltSpec : ChangeSpec := { name := "catalogSpoilt", fn := fun _ => fun
  | [d1, d2, d3, d4] => { results := [.lit (.bool true)], args := [d1, d2, d3, d4] }
  | _ => none }
def catalogSpoiltRow : OpenClaim := { program := "ytjjmapmombhmlaa", sum := "682eddceccaadda311afc70c0b1c6b3569d57eb9167d647ce92935f4af7619e7", func := "stereobate/stereobatelaw15.CatalogSpoilt", spec := "catalogSpoilt", unfollowed := true, recurses := true, apart := false }
def CatalogSpoiltSaid : Prop := catalogSpoiltRow.holds Try.pinned (OpenSpec.ofChange catalogSpoiltSpec)

/-- ITS FALSE NEIGHBOUR: 'it returns false'. Refute it at one input. -/
def catalogSpoiltWrong : ChangeSpec := { name := "catalogSpoilt", fn := fun _ => fun
  | [d1, d2, d3, d4] => { results := [.lit (.bool false)], args := [d1, d2, d3, d4] }
  | _ => none }
def CatalogSpoiltWrongFalsely : Prop := catalogSpoiltRow.holds Try.pinned (OpenSpec.ofChange catalogSpoiltWrong)

/- THE SECOND FORM. 'bulk': how many values and letters a reading holds, each counted each time it is reached (what is shared counts as often as it is met; a slice's spare places count too). A statement '..UptoSaid' is the law's where the arguments, and the package variables that the reading takes, are together of bulk at most 1048576: NARROWER than '..Said'. Prove '..Said' where nothing that the law and all that it calls make is longer than what came in: it says more and counts as full. Else prove '..UptoSaid'. A law counts once. -/
mutual
def uptoBulk {H : Type} : DataW H → Nat
  | .lit (.string bytes) => bytes.length + 1
  | .lit _ => 1
  | .nil => 1
  | .ptr d => uptoBulk d + 1
  | .slice elems spare => uptoBulkAll elems + uptoBulkAll spare + 1
  | .agg parts => uptoBulkAll parts + 1
  | .iface _ d => uptoBulk d + 1
  | .map entries => uptoBulkEntries entries + 1
  | .held _ => 1
def uptoBulkAll {H : Type} : List (DataW H) → Nat
  | [] => 0
  | d :: r => uptoBulk d + uptoBulkAll r
def uptoBulkEntries {H : Type} : List (Lit × DataW H) → Nat
  | [] => 0
  | x :: r => uptoBulkEntry x + uptoBulkEntries r
def uptoBulkEntry {H : Type} : Lit × DataW H → Nat
  | (.string bytes, d) => bytes.length + uptoBulk d + 1
  | (_, d) => uptoBulk d + 1
 end
def uptoSmall : (H : Type) → List (DataW H) → Bool := fun _ ds => decide (uptoBulkAll ds ≤ 1048576)
def OpenSpec.upto (s : _root_.Go.ChangeSpec) : _root_.Go.OpenSpec := { _root_.Go.OpenSpec.ofChange s with cond := some uptoSmall }

/-- 'stereobatelaw09.UndoPlays', WHERE WHAT IT READS IS OF BULK AT MOST 1048576: true; the input reads as it did. -/
def undoPlaysUptoRow : OpenClaim := { program := "ytjjmapmombhmlaa", sum := "682eddceccaadda311afc70c0b1c6b3569d57eb9167d647ce92935f4af7619e7", func := "stereobate/stereobatelaw09.UndoPlays", spec := "undoPlays", unfollowed := true, recurses := true, apart := false, narrowed := true }
def UndoPlaysUptoSaid : Prop := undoPlaysUptoRow.holds Try.pinned (OpenSpec.upto undoPlaysSpec)

/-- 'stereobatelaw10.HeapAdopts', WHERE WHAT IT READS IS OF BULK AT MOST 1048576: true; the input reads as it did. -/
def heapAdoptsUptoRow : OpenClaim := { program := "ytjjmapmombhmlaa", sum := "682eddceccaadda311afc70c0b1c6b3569d57eb9167d647ce92935f4af7619e7", func := "stereobate/stereobatelaw10.HeapAdopts", spec := "heapAdopts", unfollowed := true, recurses := true, apart := false, narrowed := true }
def HeapAdoptsUptoSaid : Prop := heapAdoptsUptoRow.holds Try.pinned (OpenSpec.upto heapAdoptsSpec)

/-- 'stereobatelaw10.HeapFull', WHERE WHAT IT READS IS OF BULK AT MOST 1048576: true; the input reads as it did. -/
def heapFullUptoRow : OpenClaim := { program := "ytjjmapmombhmlaa", sum := "682eddceccaadda311afc70c0b1c6b3569d57eb9167d647ce92935f4af7619e7", func := "stereobate/stereobatelaw10.HeapFull", spec := "heapFull", unfollowed := true, recurses := true, apart := false, narrowed := true }
def HeapFullUptoSaid : Prop := heapFullUptoRow.holds Try.pinned (OpenSpec.upto heapFullSpec)

/-- 'stereobatelaw15.CatalogSaves', WHERE WHAT IT READS IS OF BULK AT MOST 1048576: true; the input reads as it did. -/
def catalogSavesUptoRow : OpenClaim := { program := "ytjjmapmombhmlaa", sum := "682eddceccaadda311afc70c0b1c6b3569d57eb9167d647ce92935f4af7619e7", func := "stereobate/stereobatelaw15.CatalogSaves", spec := "catalogSaves", unfollowed := true, recurses := true, apart := false, narrowed := true }
def CatalogSavesUptoSaid : Prop := catalogSavesUptoRow.holds Try.pinned (OpenSpec.upto catalogSavesSpec)

/-- 'stereobatelaw15.CatalogAdopts', WHERE WHAT IT READS IS OF BULK AT MOST 1048576: true; the input reads as it did. -/
def catalogAdoptsUptoRow : OpenClaim := { program := "ytjjmapmombhmlaa", sum := "682eddceccaadda311afc70c0b1c6b3569d57eb9167d647ce92935f4af7619e7", func := "stereobate/stereobatelaw15.CatalogAdopts", spec := "catalogAdopts", unfollowed := true, recurses := true, apart := false, narrowed := true }
def CatalogAdoptsUptoSaid : Prop := catalogAdoptsUptoRow.holds Try.pinned (OpenSpec.upto catalogAdoptsSpec)

/-- 'stereobatelaw15.CatalogSpoilt', WHERE WHAT IT READS IS OF BULK AT MOST 1048576: true; the input reads as it did. -/
def catalogSpoiltUptoRow : OpenClaim := { program := "ytjjmapmombhmlaa", sum := "682eddceccaadda311afc70c0b1c6b3569d57eb9167d647ce92935f4af7619e7", func := "stereobate/stereobatelaw15.CatalogSpoilt", spec := "catalogSpoilt", unfollowed := true, recurses := true, apart := false, narrowed := true }
def CatalogSpoiltUptoSaid : Prop := catalogSpoiltUptoRow.holds Try.pinned (OpenSpec.upto catalogSpoiltSpec)

end Rows
end Go.Proofs.Ytjjmapmombhmlaa
