/-
  DERIVED. GIVEN WITH THE SEED: THE CARDS: each row of YtpgmgopcgoblhaaDoorRows.lean that lists a variable, with what it lists TIED to the program's text (the seventh form; the later family's looks); each row that meets fmt, with fmt's text TOLD by the authors' own Lean function (tested against real Go, not proved from fmt's source: count such statements apart). THE CARD IS WHAT COUNTS. Prove the row's statement (the work); the ties are given (YtpgmgopcgoblhaaDoorTie.lean); close each card by the builder's one call (the guide's Derived/Test/ToyasCard.lean, 'card_holds'). Laid BY PROGRAM, IN A SANDBOX (cutbox-door.mjs). By AI agents, Wed Nov 11 2026. No macro, syntax, notation, axiom, sorry.
-/
import Derived.Test.YtpgmgopcgoblhaaDoorRows
import GoSem.ClaimSeven
namespace Go.Proofs.YtpgmgopcgoblhaaDoor
namespace Rows

/-- THE TIED CARD OF 'stereobatelaw21.StreamBytes'. -/
def streamBytesCard : Claim7 := { stood := { row := streamBytesRow, standIns := [], harness := (true, "cb8f1269cafb5c5acda340c6c2da5867e8d19cefb695d1c4c8682694e8ebf40a"), looks := true }, kinds := [], alts := [], laidByText := true, laidKinds := [.data, .pinned], laidTests := true, laidLooks := .later }
def StreamBytesCardSaid : Prop := Claim7.holds Tryd.pinned (.plain (OpenSpec.ofChange streamBytesSpec)) streamBytesCard

/-- THE TIED CARD OF 'stereobatelaw21.StreamParses'. -/
def streamParsesCard : Claim7 := { stood := { row := streamParsesRow, standIns := [], harness := (true, "cb8f1269cafb5c5acda340c6c2da5867e8d19cefb695d1c4c8682694e8ebf40a"), looks := true }, kinds := [], alts := [], laidByText := true, laidKinds := [.data, .pinned], laidTests := true, laidLooks := .later }
def StreamParsesCardSaid : Prop := Claim7.holds Tryd.pinned (.plain (OpenSpec.ofChange streamParsesSpec)) streamParsesCard

/-- THE TIED CARD OF 'stereobatelaw21.StreamSizes'. -/
def streamSizesCard : Claim7 := { stood := { row := streamSizesRow, standIns := [], harness := (true, "cb8f1269cafb5c5acda340c6c2da5867e8d19cefb695d1c4c8682694e8ebf40a"), looks := true }, kinds := [], alts := [], laidByText := true, laidKinds := [.data, .pinned], laidTests := true, laidLooks := .later }
def StreamSizesCardSaid : Prop := Claim7.holds Tryd.pinned (.plain (OpenSpec.ofChange streamSizesSpec)) streamSizesCard

/-- THE SECOND FORM's CARD OF 'stereobatelaw21.StreamBytes'. -/
def streamBytesUptoCard : Claim7 := { stood := { row := streamBytesUptoRow, standIns := [], harness := (true, "cb8f1269cafb5c5acda340c6c2da5867e8d19cefb695d1c4c8682694e8ebf40a"), looks := true }, kinds := [], alts := [], laidByText := true, laidKinds := [.data, .pinned], laidTests := true, laidLooks := .later }
def StreamBytesUptoCardSaid : Prop := Claim7.holds Tryd.pinned (.plain (OpenSpec.upto streamBytesSpec)) streamBytesUptoCard

/-- THE SECOND FORM's CARD OF 'stereobatelaw21.StreamParses'. -/
def streamParsesUptoCard : Claim7 := { stood := { row := streamParsesUptoRow, standIns := [], harness := (true, "cb8f1269cafb5c5acda340c6c2da5867e8d19cefb695d1c4c8682694e8ebf40a"), looks := true }, kinds := [], alts := [], laidByText := true, laidKinds := [.data, .pinned], laidTests := true, laidLooks := .later }
def StreamParsesUptoCardSaid : Prop := Claim7.holds Tryd.pinned (.plain (OpenSpec.upto streamParsesSpec)) streamParsesUptoCard

/-- THE SECOND FORM's CARD OF 'stereobatelaw21.StreamSizes'. -/
def streamSizesUptoCard : Claim7 := { stood := { row := streamSizesUptoRow, standIns := [], harness := (true, "cb8f1269cafb5c5acda340c6c2da5867e8d19cefb695d1c4c8682694e8ebf40a"), looks := true }, kinds := [], alts := [], laidByText := true, laidKinds := [.data, .pinned], laidTests := true, laidLooks := .later }
def StreamSizesUptoCardSaid : Prop := Claim7.holds Tryd.pinned (.plain (OpenSpec.upto streamSizesSpec)) streamSizesUptoCard
end Rows
end Go.Proofs.YtpgmgopcgoblhaaDoor
