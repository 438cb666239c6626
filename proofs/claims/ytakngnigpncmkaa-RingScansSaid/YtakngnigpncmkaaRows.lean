/-
  No cell of these rows narrows 'for every input' (looked for: loops, veiled, ifaces, maps, wideKeys, modest, calm, conditions, laid).
  DERIVED. THE GIVEN ROWS OF THIS SEAT. 10 by the template 'for every input the law returns true; each argument reads behind the call as it read before'; 0 by the template 'total and deterministic' (their statements: YtakngnigpncmkaaTotals.lean).
  GIVEN WITH THE SEED: the statements are not yours to turn. If you find one false, say at which input.
  Laid BY PROGRAM, IN A SANDBOX (cutbox-rows.mjs): the forced cells as the released guide's own fill.sh prints them over the translation 85505bc132381989… (all of the seat's roots in one cut). By AI agents, Wed Nov 11 2026. No macro, syntax, notation, axiom, sorry.
-/
import Derived.Test.YtakngnigpncmkaaChecked
import GoSem.Claim
import GoSem.ClaimJoined
import GoSem.ClaimMapViews
import Derived.JoinedTies
import Derived.KernelRfl
namespace Go.Proofs.Ytakngnigpncmkaa
/- THE CELL 'sum', in the pinned program and in every row, IS THE sha256 OF THE DUMP (.gsa) THAT YtakngnigpncmkaaProg.lean LOADS. Nothing in Lean hashes anything: it is a label: what it is worth is what the hold of that sum in a sandbox is worth. -/
noncomputable def Try.pinned : Pinned := { name := "ytakngnigpncmkaa", sum := "85505bc13238198972d0b5cdff06599604c8db67e544fac64982a04ee377d5ed", checked := Try.checked }
namespace Rows
def none {H : Type} : Left H := { results := [], args := [] }

/-- 'stereobatelaw04.DiskPlays': WHATEVER THE INPUT: true; the input reads as it did. -/
def diskPlaysSpec : ChangeSpec := { name := "diskPlays", fn := fun _ => fun
  | [d1, d2] => { results := [.lit (.bool true)], args := [d1, d2] }
  | _ => none }
def diskPlaysRow : OpenClaim := { program := "ytakngnigpncmkaa", sum := "85505bc13238198972d0b5cdff06599604c8db67e544fac64982a04ee377d5ed", func := "stereobate/stereobatelaw04.DiskPlays", spec := "diskPlays", unfollowed := true, recurses := true, apart := false }
def DiskPlaysSaid : Prop := diskPlaysRow.holds Try.pinned (OpenSpec.ofChange diskPlaysSpec)

/-- ITS FALSE NEIGHBOUR: 'it returns false'. Refute it at one input. -/
def diskPlaysWrong : ChangeSpec := { name := "diskPlays", fn := fun _ => fun
  | [d1, d2] => { results := [.lit (.bool false)], args := [d1, d2] }
  | _ => none }
def DiskPlaysWrongFalsely : Prop := diskPlaysRow.holds Try.pinned (OpenSpec.ofChange diskPlaysWrong)

/-- 'stereobatelaw04.DiskClones': WHATEVER THE INPUT: true; the input reads as it did. -/
def diskClonesSpec : ChangeSpec := { name := "diskClones", fn := fun _ => fun
  | [d1, d2] => { results := [.lit (.bool true)], args := [d1, d2] }
  | _ => none }
def diskClonesRow : OpenClaim := { program := "ytakngnigpncmkaa", sum := "85505bc13238198972d0b5cdff06599604c8db67e544fac64982a04ee377d5ed", func := "stereobate/stereobatelaw04.DiskClones", spec := "diskClones", unfollowed := true, recurses := true, apart := false }
def DiskClonesSaid : Prop := diskClonesRow.holds Try.pinned (OpenSpec.ofChange diskClonesSpec)

/-- ITS FALSE NEIGHBOUR: 'it returns false'. Refute it at one input. -/
def diskClonesWrong : ChangeSpec := { name := "diskClones", fn := fun _ => fun
  | [d1, d2] => { results := [.lit (.bool false)], args := [d1, d2] }
  | _ => none }
def DiskClonesWrongFalsely : Prop := diskClonesRow.holds Try.pinned (OpenSpec.ofChange diskClonesWrong)

/-- 'stereobatelaw07.SuperWrites': WHATEVER THE INPUT: true; the input reads as it did. -/
def superWritesSpec : ChangeSpec := { name := "superWrites", fn := fun _ => fun
  | [d1, d2] => { results := [.lit (.bool true)], args := [d1, d2] }
  | _ => none }
def superWritesRow : OpenClaim := { program := "ytakngnigpncmkaa", sum := "85505bc13238198972d0b5cdff06599604c8db67e544fac64982a04ee377d5ed", func := "stereobate/stereobatelaw07.SuperWrites", spec := "superWrites", unfollowed := true, recurses := true, apart := false }
def SuperWritesSaid : Prop := superWritesRow.holds Try.pinned (OpenSpec.ofChange superWritesSpec)

/-- ITS FALSE NEIGHBOUR: 'it returns false'. Refute it at one input. -/
def superWritesWrong : ChangeSpec := { name := "superWrites", fn := fun _ => fun
  | [d1, d2] => { results := [.lit (.bool false)], args := [d1, d2] }
  | _ => none }
def SuperWritesWrongFalsely : Prop := superWritesRow.holds Try.pinned (OpenSpec.ofChange superWritesWrong)

/-- 'stereobatelaw07.SuperReads': WHATEVER THE INPUT: true; the input reads as it did. -/
def superReadsSpec : ChangeSpec := { name := "superReads", fn := fun _ => fun
  | [d1, d2, d3, d4, d5, d6] => { results := [.lit (.bool true)], args := [d1, d2, d3, d4, d5, d6] }
  | _ => none }
def superReadsRow : OpenClaim := { program := "ytakngnigpncmkaa", sum := "85505bc13238198972d0b5cdff06599604c8db67e544fac64982a04ee377d5ed", func := "stereobate/stereobatelaw07.SuperReads", spec := "superReads", unfollowed := true, recurses := true, apart := false }
def SuperReadsSaid : Prop := superReadsRow.holds Try.pinned (OpenSpec.ofChange superReadsSpec)

/-- ITS FALSE NEIGHBOUR: 'it returns false'. Refute it at one input. -/
def superReadsWrong : ChangeSpec := { name := "superReads", fn := fun _ => fun
  | [d1, d2, d3, d4, d5, d6] => { results := [.lit (.bool false)], args := [d1, d2, d3, d4, d5, d6] }
  | _ => none }
def SuperReadsWrongFalsely : Prop := superReadsRow.holds Try.pinned (OpenSpec.ofChange superReadsWrong)

/-- 'stereobatelaw07.SuperTurn': WHATEVER THE INPUT: true; the input reads as it did. -/
def superTurnSpec : ChangeSpec := { name := "superTurn", fn := fun _ => fun
  | [d1, d2, d3, d4] => { results := [.lit (.bool true)], args := [d1, d2, d3, d4] }
  | _ => none }
def superTurnRow : OpenClaim := { program := "ytakngnigpncmkaa", sum := "85505bc13238198972d0b5cdff06599604c8db67e544fac64982a04ee377d5ed", func := "stereobate/stereobatelaw07.SuperTurn", spec := "superTurn", unfollowed := true, recurses := true, apart := false }
def SuperTurnSaid : Prop := superTurnRow.holds Try.pinned (OpenSpec.ofChange superTurnSpec)

/-- ITS FALSE NEIGHBOUR: 'it returns false'. Refute it at one input. -/
def superTurnWrong : ChangeSpec := { name := "superTurn", fn := fun _ => fun
  | [d1, d2, d3, d4] => { results := [.lit (.bool false)], args := [d1, d2, d3, d4] }
  | _ => none }
def SuperTurnWrongFalsely : Prop := superTurnRow.holds Try.pinned (OpenSpec.ofChange superTurnWrong)

/-- 'stereobatelaw07.SuperSpoilt': WHATEVER THE INPUT: true; the input reads as it did. -/
def superSpoiltSpec : ChangeSpec := { name := "superSpoilt", fn := fun _ => fun
  | [d1, d2, d3] => { results := [.lit (.bool true)], args := [d1, d2, d3] }
  | _ => none }
def superSpoiltRow : OpenClaim := { program := "ytakngnigpncmkaa", sum := "85505bc13238198972d0b5cdff06599604c8db67e544fac64982a04ee377d5ed", func := "stereobate/stereobatelaw07.SuperSpoilt", spec := "superSpoilt", unfollowed := true, recurses := true, apart := false }
def SuperSpoiltSaid : Prop := superSpoiltRow.holds Try.pinned (OpenSpec.ofChange superSpoiltSpec)

/-- ITS FALSE NEIGHBOUR: 'it returns false'. Refute it at one input. -/
def superSpoiltWrong : ChangeSpec := { name := "superSpoilt", fn := fun _ => fun
  | [d1, d2, d3] => { results := [.lit (.bool false)], args := [d1, d2, d3] }
  | _ => none }
def SuperSpoiltWrongFalsely : Prop := superSpoiltRow.holds Try.pinned (OpenSpec.ofChange superSpoiltWrong)

/-- 'stereobatelaw08.RingAppends': WHATEVER THE INPUT: true; the input reads as it did. -/
def ringAppendsSpec : ChangeSpec := { name := "ringAppends", fn := fun _ => fun
  | [d1, d2, d3, d4, d5] => { results := [.lit (.bool true)], args := [d1, d2, d3, d4, d5] }
  | _ => none }
def ringAppendsRow : OpenClaim := { program := "ytakngnigpncmkaa", sum := "85505bc13238198972d0b5cdff06599604c8db67e544fac64982a04ee377d5ed", func := "stereobate/stereobatelaw08.RingAppends", spec := "ringAppends", unfollowed := true, recurses := true, apart := false }
def RingAppendsSaid : Prop := ringAppendsRow.holds Try.pinned (OpenSpec.ofChange ringAppendsSpec)

/-- ITS FALSE NEIGHBOUR: 'it returns false'. Refute it at one input. -/
def ringAppendsWrong : ChangeSpec := { name := "ringAppends", fn := fun _ => fun
  | [d1, d2, d3, d4, d5] => { results := [.lit (.bool false)], args := [d1, d2, d3, d4, d5] }
  | _ => none }
def RingAppendsWrongFalsely : Prop := ringAppendsRow.holds Try.pinned (OpenSpec.ofChange ringAppendsWrong)

/-- 'stereobatelaw08.RingScans': WHATEVER THE INPUT: true; the input reads as it did. -/
def ringScansSpec : ChangeSpec := { name := "ringScans", fn := fun _ => fun
  | [d1, d2, d3, d4, d5, d6] => { results := [.lit (.bool true)], args := [d1, d2, d3, d4, d5, d6] }
  | _ => none }
def ringScansRow : OpenClaim := { program := "ytakngnigpncmkaa", sum := "85505bc13238198972d0b5cdff06599604c8db67e544fac64982a04ee377d5ed", func := "stereobate/stereobatelaw08.RingScans", spec := "ringScans", unfollowed := true, recurses := true, apart := false }
def RingScansSaid : Prop := ringScansRow.holds Try.pinned (OpenSpec.ofChange ringScansSpec)

/-- ITS FALSE NEIGHBOUR: 'it returns false'. Refute it at one input. -/
def ringScansWrong : ChangeSpec := { name := "ringScans", fn := fun _ => fun
  | [d1, d2, d3, d4, d5, d6] => { results := [.lit (.bool false)], args := [d1, d2, d3, d4, d5, d6] }
  | _ => none }
def RingScansWrongFalsely : Prop := ringScansRow.holds Try.pinned (OpenSpec.ofChange ringScansWrong)

/-- 'stereobatelaw08.RingKept': WHATEVER THE INPUT: true; the input reads as it did. -/
def ringKeptSpec : ChangeSpec := { name := "ringKept", fn := fun _ => fun
  | [d1, d2, d3, d4, d5] => { results := [.lit (.bool true)], args := [d1, d2, d3, d4, d5] }
  | _ => none }
def ringKeptRow : OpenClaim := { program := "ytakngnigpncmkaa", sum := "85505bc13238198972d0b5cdff06599604c8db67e544fac64982a04ee377d5ed", func := "stereobate/stereobatelaw08.RingKept", spec := "ringKept", unfollowed := true, recurses := true, apart := false }
def RingKeptSaid : Prop := ringKeptRow.holds Try.pinned (OpenSpec.ofChange ringKeptSpec)

/-- ITS FALSE NEIGHBOUR: 'it returns false'. Refute it at one input. -/
def ringKeptWrong : ChangeSpec := { name := "ringKept", fn := fun _ => fun
  | [d1, d2, d3, d4, d5] => { results := [.lit (.bool false)], args := [d1, d2, d3, d4, d5] }
  | _ => none }
def RingKeptWrongFalsely : Prop := ringKeptRow.holds Try.pinned (OpenSpec.ofChange ringKeptWrong)

/-- 'stereobatelaw08.RingCosts': WHATEVER THE INPUT: true; the input reads as it did. -/
def ringCostsSpec : ChangeSpec := { name := "ringCosts", fn := fun _ => fun
  | [d1, d2] => { results := [.lit (.bool true)], args := [d1, d2] }
  | _ => none }
def ringCostsRow : OpenClaim := { program := "ytakngnigpncmkaa", sum := "85505bc13238198972d0b5cdff06599604c8db67e544fac64982a04ee377d5ed", func := "stereobate/stereobatelaw08.RingCosts", spec := "ringCosts", unfollowed := true, recurses := true, apart := false }
def RingCostsSaid : Prop := ringCostsRow.holds Try.pinned (OpenSpec.ofChange ringCostsSpec)

/-- ITS FALSE NEIGHBOUR: 'it returns false'. Refute it at one input. -/
def ringCostsWrong : ChangeSpec := { name := "ringCosts", fn := fun _ => fun
  | [d1, d2] => { results := [.lit (.bool false)], args := [d1, d2] }
  | _ => none }
def RingCostsWrongFalsely : Prop := ringCostsRow.holds Try.pinned (OpenSpec.ofChange ringCostsWrong)

/- THE SECOND FORM. 'bulk': how many values and letters a reading holds, each counted each time it is reached (what is shared counts as often as it is met; a slice's spare places count too). A statement '..UptoSaid' is the law's where the arguments, and the package variables that the reading takes, are together of bulk at most 1048576: NARROWER than '..Said'. Prove '..Said' where nothing that the law and all that it calls make is longer than what came in: it says more and counts as full. Else prove '..UptoSaid'. A law counts once. -/
mutual
def uptoBulk {H : Type} : DataW H → Nat
  | .lit (.string bytes) => bytes.length + 1
  | .lit _ => 1
  | .nil => 1
  | .ptr d => uptoBulk d + 1
  | .slice elems spare => uptoBulkAll elems + uptoBulkAll spare + 1
  | .agg parts => uptoBulkAll parts + 1
  | .iface _ d => uptoBulk d + 1
  | .map entries => uptoBulkEntries entries + 1
  | .held _ => 1
def uptoBulkAll {H : Type} : List (DataW H) → Nat
  | [] => 0
  | d :: r => uptoBulk d + uptoBulkAll r
def uptoBulkEntries {H : Type} : List (Lit × DataW H) → Nat
  | [] => 0
  | x :: r => uptoBulkEntry x + uptoBulkEntries r
def uptoBulkEntry {H : Type} : Lit × DataW H → Nat
  | (.string bytes, d) => bytes.length + uptoBulk d + 1
  | (_, d) => uptoBulk d + 1
 end
def uptoSmall : (H : Type) → List (DataW H) → Bool := fun _ ds => decide (uptoBulkAll ds ≤ 1048576)
def OpenSpec.upto (s : _root_.Go.ChangeSpec) : _root_.Go.OpenSpec := { _root_.Go.OpenSpec.ofChange s with cond := some uptoSmall }

/-- 'stereobatelaw04.DiskPlays', WHERE WHAT IT READS IS OF BULK AT MOST 1048576: true; the input reads as it did. -/
def diskPlaysUptoRow : OpenClaim := { program := "ytakngnigpncmkaa", sum := "85505bc13238198972d0b5cdff06599604c8db67e544fac64982a04ee377d5ed", func := "stereobate/stereobatelaw04.DiskPlays", spec := "diskPlays", unfollowed := true, recurses := true, apart := false, narrowed := true }
def DiskPlaysUptoSaid : Prop := diskPlaysUptoRow.holds Try.pinned (OpenSpec.upto diskPlaysSpec)

/-- 'stereobatelaw04.DiskClones', WHERE WHAT IT READS IS OF BULK AT MOST 1048576: true; the input reads as it did. -/
def diskClonesUptoRow : OpenClaim := { program := "ytakngnigpncmkaa", sum := "85505bc13238198972d0b5cdff06599604c8db67e544fac64982a04ee377d5ed", func := "stereobate/stereobatelaw04.DiskClones", spec := "diskClones", unfollowed := true, recurses := true, apart := false, narrowed := true }
def DiskClonesUptoSaid : Prop := diskClonesUptoRow.holds Try.pinned (OpenSpec.upto diskClonesSpec)

/-- 'stereobatelaw07.SuperWrites', WHERE WHAT IT READS IS OF BULK AT MOST 1048576: true; the input reads as it did. -/
def superWritesUptoRow : OpenClaim := { program := "ytakngnigpncmkaa", sum := "85505bc13238198972d0b5cdff06599604c8db67e544fac64982a04ee377d5ed", func := "stereobate/stereobatelaw07.SuperWrites", spec := "superWrites", unfollowed := true, recurses := true, apart := false, narrowed := true }
def SuperWritesUptoSaid : Prop := superWritesUptoRow.holds Try.pinned (OpenSpec.upto superWritesSpec)

/-- 'stereobatelaw07.SuperReads', WHERE WHAT IT READS IS OF BULK AT MOST 1048576: true; the input reads as it did. -/
def superReadsUptoRow : OpenClaim := { program := "ytakngnigpncmkaa", sum := "85505bc13238198972d0b5cdff06599604c8db67e544fac64982a04ee377d5ed", func := "stereobate/stereobatelaw07.SuperReads", spec := "superReads", unfollowed := true, recurses := true, apart := false, narrowed := true }
def SuperReadsUptoSaid : Prop := superReadsUptoRow.holds Try.pinned (OpenSpec.upto superReadsSpec)

/-- 'stereobatelaw07.SuperTurn', WHERE WHAT IT READS IS OF BULK AT MOST 1048576: true; the input reads as it did. -/
def superTurnUptoRow : OpenClaim := { program := "ytakngnigpncmkaa", sum := "85505bc13238198972d0b5cdff06599604c8db67e544fac64982a04ee377d5ed", func := "stereobate/stereobatelaw07.SuperTurn", spec := "superTurn", unfollowed := true, recurses := true, apart := false, narrowed := true }
def SuperTurnUptoSaid : Prop := superTurnUptoRow.holds Try.pinned (OpenSpec.upto superTurnSpec)

/-- 'stereobatelaw07.SuperSpoilt', WHERE WHAT IT READS IS OF BULK AT MOST 1048576: true; the input reads as it did. -/
def superSpoiltUptoRow : OpenClaim := { program := "ytakngnigpncmkaa", sum := "85505bc13238198972d0b5cdff06599604c8db67e544fac64982a04ee377d5ed", func := "stereobate/stereobatelaw07.SuperSpoilt", spec := "superSpoilt", unfollowed := true, recurses := true, apart := false, narrowed := true }
def SuperSpoiltUptoSaid : Prop := superSpoiltUptoRow.holds Try.pinned (OpenSpec.upto superSpoiltSpec)

/-- 'stereobatelaw08.RingAppends', WHERE WHAT IT READS IS OF BULK AT MOST 1048576: true; the input reads as it did. -/
def ringAppendsUptoRow : OpenClaim := { program := "ytakngnigpncmkaa", sum := "85505bc13238198972d0b5cdff06599604c8db67e544fac64982a04ee377d5ed", func := "stereobate/stereobatelaw08.RingAppends", spec := "ringAppends", unfollowed := true, recurses := true, apart := false, narrowed := true }
def RingAppendsUptoSaid : Prop := ringAppendsUptoRow.holds Try.pinned (OpenSpec.upto ringAppendsSpec)

/-- 'stereobatelaw08.RingScans', WHERE WHAT IT READS IS OF BULK AT MOST 1048576: true; the input reads as it did. -/
def ringScansUptoRow : OpenClaim := { program := "ytakngnigpncmkaa", sum := "85505bc13238198972d0b5cdff06599604c8db67e544fac64982a04ee377d5ed", func := "stereobate/stereobatelaw08.RingScans", spec := "ringScans", unfollowed := true, recurses := true, apart := false, narrowed := true }
def RingScansUptoSaid : Prop := ringScansUptoRow.holds Try.pinned (OpenSpec.upto ringScansSpec)

/-- 'stereobatelaw08.RingKept', WHERE WHAT IT READS IS OF BULK AT MOST 1048576: true; the input reads as it did. -/
def ringKeptUptoRow : OpenClaim := { program := "ytakngnigpncmkaa", sum := "85505bc13238198972d0b5cdff06599604c8db67e544fac64982a04ee377d5ed", func := "stereobate/stereobatelaw08.RingKept", spec := "ringKept", unfollowed := true, recurses := true, apart := false, narrowed := true }
def RingKeptUptoSaid : Prop := ringKeptUptoRow.holds Try.pinned (OpenSpec.upto ringKeptSpec)

/-- 'stereobatelaw08.RingCosts', WHERE WHAT IT READS IS OF BULK AT MOST 1048576: true; the input reads as it did. -/
def ringCostsUptoRow : OpenClaim := { program := "ytakngnigpncmkaa", sum := "85505bc13238198972d0b5cdff06599604c8db67e544fac64982a04ee377d5ed", func := "stereobate/stereobatelaw08.RingCosts", spec := "ringCosts", unfollowed := true, recurses := true, apart := false, narrowed := true }
def RingCostsUptoSaid : Prop := ringCostsUptoRow.holds Try.pinned (OpenSpec.upto ringCostsSpec)

end Rows
end Go.Proofs.Ytakngnigpncmkaa
