/-
  DERIVED. GIVEN WITH THE SEED: THE CARDS: each row of YtfmhcomebjggoaaGreatDoorRows.lean that lists a variable, with what it lists TIED to the program's text (the seventh form; the later family's looks); each row that meets fmt, with fmt's text TOLD by the authors' own Lean function (tested against real Go, not proved from fmt's source: count such statements apart). THE CARD IS WHAT COUNTS. Prove the row's statement (the work); the ties are given (YtfmhcomebjggoaaGreatDoorTie.lean); close each card by the builder's one call (the guide's Derived/Test/ToyasCard.lean, 'card_holds'). Laid BY PROGRAM, IN A SANDBOX (cutbox-door.mjs). By AI agents, Wed Nov 11 2026. No macro, syntax, notation, axiom, sorry.
-/
import Derived.Test.YtfmhcomebjggoaaGreatDoorRows
import GoSem.ClaimSeven
namespace Go.Proofs.YtfmhcomebjggoaaGreatDoor
namespace Rows

/-- THE TIED CARD OF 'stereobatelaw11.ExtentSpoilt'. -/
def extentSpoiltCard : Claim7 := { stood := { row := extentSpoiltRow, standIns := [], harness := (true, "9eace07a528b7e551f1933920958b542ece53e3576ddb512f8935e5c4175d9f4"), looks := true }, kinds := [], alts := [], laidByText := true, laidKinds := [.data, .data, .data, .pinned], laidTests := true, laidLooks := .later }
def ExtentSpoiltCardSaid : Prop := Claim7.holds Tryz.pinned (.plain (OpenSpec.ofChange extentSpoiltSpec)) extentSpoiltCard

/-- THE TIED CARD OF 'stereobatelaw11.ExtentCosts'. -/
def extentCostsCard : Claim7 := { stood := { row := extentCostsRow, standIns := [], harness := (true, "9eace07a528b7e551f1933920958b542ece53e3576ddb512f8935e5c4175d9f4"), looks := true }, kinds := [], alts := [], laidByText := true, laidKinds := [.data, .data, .data, .pinned], laidTests := true, laidLooks := .later }
def ExtentCostsCardSaid : Prop := Claim7.holds Tryz.pinned (.plain (OpenSpec.ofChange extentCostsSpec)) extentCostsCard

/-- THE TIED CARD OF 'stereobatelaw11.ExtentClash'. -/
def extentClashCard : Claim7 := { stood := { row := extentClashRow, standIns := [], harness := (true, "9eace07a528b7e551f1933920958b542ece53e3576ddb512f8935e5c4175d9f4"), looks := true }, kinds := [], alts := [], laidByText := true, laidKinds := [.data, .data, .data, .pinned], laidTests := true, laidLooks := .later }
def ExtentClashCardSaid : Prop := Claim7.holds Tryz.pinned (.plain (OpenSpec.ofChange extentClashSpec)) extentClashCard

/-- THE SECOND FORM's CARD OF 'stereobatelaw11.ExtentSpoilt'. -/
def extentSpoiltUptoCard : Claim7 := { stood := { row := extentSpoiltUptoRow, standIns := [], harness := (true, "9eace07a528b7e551f1933920958b542ece53e3576ddb512f8935e5c4175d9f4"), looks := true }, kinds := [], alts := [], laidByText := true, laidKinds := [.data, .data, .data, .pinned], laidTests := true, laidLooks := .later }
def ExtentSpoiltUptoCardSaid : Prop := Claim7.holds Tryz.pinned (.plain (OpenSpec.upto extentSpoiltSpec)) extentSpoiltUptoCard

/-- THE SECOND FORM's CARD OF 'stereobatelaw11.ExtentCosts'. -/
def extentCostsUptoCard : Claim7 := { stood := { row := extentCostsUptoRow, standIns := [], harness := (true, "9eace07a528b7e551f1933920958b542ece53e3576ddb512f8935e5c4175d9f4"), looks := true }, kinds := [], alts := [], laidByText := true, laidKinds := [.data, .data, .data, .pinned], laidTests := true, laidLooks := .later }
def ExtentCostsUptoCardSaid : Prop := Claim7.holds Tryz.pinned (.plain (OpenSpec.upto extentCostsSpec)) extentCostsUptoCard

/-- THE SECOND FORM's CARD OF 'stereobatelaw11.ExtentClash'. -/
def extentClashUptoCard : Claim7 := { stood := { row := extentClashUptoRow, standIns := [], harness := (true, "9eace07a528b7e551f1933920958b542ece53e3576ddb512f8935e5c4175d9f4"), looks := true }, kinds := [], alts := [], laidByText := true, laidKinds := [.data, .data, .data, .pinned], laidTests := true, laidLooks := .later }
def ExtentClashUptoCardSaid : Prop := Claim7.holds Tryz.pinned (.plain (OpenSpec.upto extentClashSpec)) extentClashUptoCard
end Rows
end Go.Proofs.YtfmhcomebjggoaaGreatDoor
