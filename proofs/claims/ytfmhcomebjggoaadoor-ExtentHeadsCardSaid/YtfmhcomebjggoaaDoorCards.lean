/-
  DERIVED. GIVEN WITH THE SEED: THE CARDS: each row of YtfmhcomebjggoaaDoorRows.lean that lists a variable, with what it lists TIED to the program's text (the seventh form; the later family's looks); each row that meets fmt, with fmt's text TOLD by the authors' own Lean function (tested against real Go, not proved from fmt's source: count such statements apart). THE CARD IS WHAT COUNTS. Prove the row's statement (the work); the ties are given (YtfmhcomebjggoaaDoorTie.lean); close each card by the builder's one call (the guide's Derived/Test/ToyasCard.lean, 'card_holds'). Laid BY PROGRAM, IN A SANDBOX (cutbox-door.mjs). By AI agents, Wed Nov 11 2026. No macro, syntax, notation, axiom, sorry.
-/
import Derived.Test.YtfmhcomebjggoaaDoorRows
import GoSem.ClaimSeven
namespace Go.Proofs.YtfmhcomebjggoaaDoor
namespace Rows

/-- THE TIED CARD OF 'stereobatelaw11.ExtentHeads'. -/
def extentHeadsCard : Claim7 := { stood := { row := extentHeadsRow, standIns := [], harness := (true, "44f0cd2c8a9492b9fc5376a65b972b7e69612bd69a12327f6c8848f83be378f1"), looks := true }, kinds := [], alts := [], laidByText := true, laidKinds := [.data, .pinned], laidTests := true, laidLooks := .later }
def ExtentHeadsCardSaid : Prop := Claim7.holds Tryd.pinned (.plain (OpenSpec.ofChange extentHeadsSpec)) extentHeadsCard

/-- THE SECOND FORM's CARD OF 'stereobatelaw11.ExtentHeads'. -/
def extentHeadsUptoCard : Claim7 := { stood := { row := extentHeadsUptoRow, standIns := [], harness := (true, "44f0cd2c8a9492b9fc5376a65b972b7e69612bd69a12327f6c8848f83be378f1"), looks := true }, kinds := [], alts := [], laidByText := true, laidKinds := [.data, .pinned], laidTests := true, laidLooks := .later }
def ExtentHeadsUptoCardSaid : Prop := Claim7.holds Tryd.pinned (.plain (OpenSpec.upto extentHeadsSpec)) extentHeadsUptoCard
end Rows
end Go.Proofs.YtfmhcomebjggoaaDoor
