/-
  DERIVED. GIVEN WITH THE SEED: THE CARDS: each row of YtbohpffigmllkaaGreatDoorRows.lean that lists a variable, with what it lists TIED to the program's text (the seventh form; the later family's looks); each row that meets fmt, with fmt's text TOLD by the authors' own Lean function (tested against real Go, not proved from fmt's source: count such statements apart). THE CARD IS WHAT COUNTS. Prove the row's statement (the work); the ties are given (YtbohpffigmllkaaGreatDoorTie.lean); close each card by the builder's one call (the guide's Derived/Test/ToyasCard.lean, 'card_holds'). Laid BY PROGRAM, IN A SANDBOX (cutbox-door.mjs). By AI agents, Wed Nov 11 2026. No macro, syntax, notation, axiom, sorry.
-/
import Derived.Test.YtbohpffigmllkaaGreatDoorRows
import GoSem.ClaimSeven
namespace Go.Proofs.YtbohpffigmllkaaGreatDoor
namespace Rows

/-- THE TIED CARD OF 'stereobatelaw11.ExtentPlays'. -/
def extentPlaysCard : Claim7 := { stood := { row := extentPlaysRow, standIns := [], harness := (true, "dbb4f766b2d2ddaed8c5d5ffa03ad6ba7aaaa5c93c5fe59060034d8a6fe08ceb"), looks := true }, kinds := [], alts := [], laidByText := true, laidKinds := [.data, .data, .data, .pinned], laidTests := true, laidLooks := .later }
def ExtentPlaysCardSaid : Prop := Claim7.holds Tryz.pinned (.plain (OpenSpec.ofChange extentPlaysSpec)) extentPlaysCard

/-- THE TIED CARD OF 'stereobatelaw11.ExtentSpoilt'. -/
def extentSpoiltCard : Claim7 := { stood := { row := extentSpoiltRow, standIns := [], harness := (true, "dbb4f766b2d2ddaed8c5d5ffa03ad6ba7aaaa5c93c5fe59060034d8a6fe08ceb"), looks := true }, kinds := [], alts := [], laidByText := true, laidKinds := [.data, .data, .data, .pinned], laidTests := true, laidLooks := .later }
def ExtentSpoiltCardSaid : Prop := Claim7.holds Tryz.pinned (.plain (OpenSpec.ofChange extentSpoiltSpec)) extentSpoiltCard

/-- THE TIED CARD OF 'stereobatelaw11.ExtentCosts'. -/
def extentCostsCard : Claim7 := { stood := { row := extentCostsRow, standIns := [], harness := (true, "dbb4f766b2d2ddaed8c5d5ffa03ad6ba7aaaa5c93c5fe59060034d8a6fe08ceb"), looks := true }, kinds := [], alts := [], laidByText := true, laidKinds := [.data, .data, .data, .pinned], laidTests := true, laidLooks := .later }
def ExtentCostsCardSaid : Prop := Claim7.holds Tryz.pinned (.plain (OpenSpec.ofChange extentCostsSpec)) extentCostsCard

/-- THE TIED CARD OF 'stereobatelaw11.ExtentClash'. -/
def extentClashCard : Claim7 := { stood := { row := extentClashRow, standIns := [], harness := (true, "dbb4f766b2d2ddaed8c5d5ffa03ad6ba7aaaa5c93c5fe59060034d8a6fe08ceb"), looks := true }, kinds := [], alts := [], laidByText := true, laidKinds := [.data, .data, .data, .pinned], laidTests := true, laidLooks := .later }
def ExtentClashCardSaid : Prop := Claim7.holds Tryz.pinned (.plain (OpenSpec.ofChange extentClashSpec)) extentClashCard

/-- THE SECOND FORM's CARD OF 'stereobatelaw11.ExtentPlays'. -/
def extentPlaysUptoCard : Claim7 := { stood := { row := extentPlaysUptoRow, standIns := [], harness := (true, "dbb4f766b2d2ddaed8c5d5ffa03ad6ba7aaaa5c93c5fe59060034d8a6fe08ceb"), looks := true }, kinds := [], alts := [], laidByText := true, laidKinds := [.data, .data, .data, .pinned], laidTests := true, laidLooks := .later }
def ExtentPlaysUptoCardSaid : Prop := Claim7.holds Tryz.pinned (.plain (OpenSpec.upto extentPlaysSpec)) extentPlaysUptoCard

/-- THE SECOND FORM's CARD OF 'stereobatelaw11.ExtentSpoilt'. -/
def extentSpoiltUptoCard : Claim7 := { stood := { row := extentSpoiltUptoRow, standIns := [], harness := (true, "dbb4f766b2d2ddaed8c5d5ffa03ad6ba7aaaa5c93c5fe59060034d8a6fe08ceb"), looks := true }, kinds := [], alts := [], laidByText := true, laidKinds := [.data, .data, .data, .pinned], laidTests := true, laidLooks := .later }
def ExtentSpoiltUptoCardSaid : Prop := Claim7.holds Tryz.pinned (.plain (OpenSpec.upto extentSpoiltSpec)) extentSpoiltUptoCard

/-- THE SECOND FORM's CARD OF 'stereobatelaw11.ExtentCosts'. -/
def extentCostsUptoCard : Claim7 := { stood := { row := extentCostsUptoRow, standIns := [], harness := (true, "dbb4f766b2d2ddaed8c5d5ffa03ad6ba7aaaa5c93c5fe59060034d8a6fe08ceb"), looks := true }, kinds := [], alts := [], laidByText := true, laidKinds := [.data, .data, .data, .pinned], laidTests := true, laidLooks := .later }
def ExtentCostsUptoCardSaid : Prop := Claim7.holds Tryz.pinned (.plain (OpenSpec.upto extentCostsSpec)) extentCostsUptoCard

/-- THE SECOND FORM's CARD OF 'stereobatelaw11.ExtentClash'. -/
def extentClashUptoCard : Claim7 := { stood := { row := extentClashUptoRow, standIns := [], harness := (true, "dbb4f766b2d2ddaed8c5d5ffa03ad6ba7aaaa5c93c5fe59060034d8a6fe08ceb"), looks := true }, kinds := [], alts := [], laidByText := true, laidKinds := [.data, .data, .data, .pinned], laidTests := true, laidLooks := .later }
def ExtentClashUptoCardSaid : Prop := Claim7.holds Tryz.pinned (.plain (OpenSpec.upto extentClashSpec)) extentClashUptoCard
end Rows
end Go.Proofs.YtbohpffigmllkaaGreatDoor
