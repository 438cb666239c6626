/-
  DERIVED. GIVEN WITH THE SEED: THE CARDS: each row of YtheccbnejamhlaaDoorRows.lean that lists a variable, with what it lists TIED to the program's text (the seventh form; the later family's looks); each row that meets fmt, with fmt's text TOLD by the authors' own Lean function (tested against real Go, not proved from fmt's source: count such statements apart). THE CARD IS WHAT COUNTS. Prove the row's statement (the work); the ties are given (YtheccbnejamhlaaDoorTie.lean); close each card by the builder's one call (the guide's Derived/Test/ToyasCard.lean, 'card_holds'). Laid BY PROGRAM, IN A SANDBOX (cutbox-door.mjs). By AI agents, Wed Nov 11 2026. No macro, syntax, notation, axiom, sorry.
-/
import Derived.Test.YtheccbnejamhlaaDoorRows
import GoSem.ClaimSeven
namespace Go.Proofs.YtheccbnejamhlaaDoor
namespace Rows

/-- THE TIED CARD OF 'stereobatelaw01.ShaSums'. -/
def shaSumsCard : Claim7 := { stood := { row := shaSumsRow, standIns := [], harness := (true, "870f2047f320082d258e4b69be4a7ef441facd8a8f42833a1aead3e5f6fbd4e9"), looks := true }, kinds := [], alts := [], laidByText := true, laidKinds := [.data, .data], laidTests := true, laidLooks := .later }
def ShaSumsCardSaid : Prop := Claim7.holds Tryd.pinned (.plain (OpenSpec.ofChange shaSumsSpec)) shaSumsCard

/-- THE TIED CARD OF 'stereobatelaw01.ShaApart'. -/
def shaApartCard : Claim7 := { stood := { row := shaApartRow, standIns := [], harness := (true, "870f2047f320082d258e4b69be4a7ef441facd8a8f42833a1aead3e5f6fbd4e9"), looks := true }, kinds := [], alts := [], laidByText := true, laidKinds := [.data, .data], laidTests := true, laidLooks := .later }
def ShaApartCardSaid : Prop := Claim7.holds Tryd.pinned (.plain (OpenSpec.ofChange shaApartSpec)) shaApartCard

/-- THE TIED CARD OF 'stereobatelaw12.NodeBytes'. -/
def nodeBytesCard : Claim7 := { stood := { row := nodeBytesRow, standIns := [], harness := (true, "870f2047f320082d258e4b69be4a7ef441facd8a8f42833a1aead3e5f6fbd4e9"), looks := true }, kinds := [], alts := [], laidByText := true, laidKinds := [.data, .data], laidTests := true, laidLooks := .later }
def NodeBytesCardSaid : Prop := Claim7.holds Tryd.pinned (.plain (OpenSpec.ofChange nodeBytesSpec)) nodeBytesCard

/-- THE TIED CARD OF 'stereobatelaw12.NodeParses'. -/
def nodeParsesCard : Claim7 := { stood := { row := nodeParsesRow, standIns := [], harness := (true, "870f2047f320082d258e4b69be4a7ef441facd8a8f42833a1aead3e5f6fbd4e9"), looks := true }, kinds := [], alts := [], laidByText := true, laidKinds := [.data, .data], laidTests := true, laidLooks := .later }
def NodeParsesCardSaid : Prop := Claim7.holds Tryd.pinned (.plain (OpenSpec.ofChange nodeParsesSpec)) nodeParsesCard

/-- THE TIED CARD OF 'stereobatelaw12.NodeDigest'. -/
def nodeDigestCard : Claim7 := { stood := { row := nodeDigestRow, standIns := [], harness := (true, "870f2047f320082d258e4b69be4a7ef441facd8a8f42833a1aead3e5f6fbd4e9"), looks := true }, kinds := [], alts := [], laidByText := true, laidKinds := [.data, .data], laidTests := true, laidLooks := .later }
def NodeDigestCardSaid : Prop := Claim7.holds Tryd.pinned (.plain (OpenSpec.ofChange nodeDigestSpec)) nodeDigestCard

/-- THE TIED CARD OF 'stereobatelaw12.NodeSlots'. -/
def nodeSlotsCard : Claim7 := { stood := { row := nodeSlotsRow, standIns := [], harness := (true, "870f2047f320082d258e4b69be4a7ef441facd8a8f42833a1aead3e5f6fbd4e9"), looks := true }, kinds := [], alts := [], laidByText := true, laidKinds := [.data, .data], laidTests := true, laidLooks := .later }
def NodeSlotsCardSaid : Prop := Claim7.holds Tryd.pinned (.plain (OpenSpec.ofChange nodeSlotsSpec)) nodeSlotsCard

/-- THE TIED CARD OF 'stereobatelaw12.NodeEmpty'. -/
def nodeEmptyCard : Claim7 := { stood := { row := nodeEmptyRow, standIns := [], harness := (true, "870f2047f320082d258e4b69be4a7ef441facd8a8f42833a1aead3e5f6fbd4e9"), looks := true }, kinds := [], alts := [], laidByText := true, laidKinds := [.data, .data], laidTests := true, laidLooks := .later }
def NodeEmptyCardSaid : Prop := Claim7.holds Tryd.pinned (.plain (OpenSpec.ofChange nodeEmptySpec)) nodeEmptyCard

/-- THE SECOND FORM's CARD OF 'stereobatelaw01.ShaSums'. -/
def shaSumsUptoCard : Claim7 := { stood := { row := shaSumsUptoRow, standIns := [], harness := (true, "870f2047f320082d258e4b69be4a7ef441facd8a8f42833a1aead3e5f6fbd4e9"), looks := true }, kinds := [], alts := [], laidByText := true, laidKinds := [.data, .data], laidTests := true, laidLooks := .later }
def ShaSumsUptoCardSaid : Prop := Claim7.holds Tryd.pinned (.plain (OpenSpec.upto shaSumsSpec)) shaSumsUptoCard

/-- THE SECOND FORM's CARD OF 'stereobatelaw01.ShaApart'. -/
def shaApartUptoCard : Claim7 := { stood := { row := shaApartUptoRow, standIns := [], harness := (true, "870f2047f320082d258e4b69be4a7ef441facd8a8f42833a1aead3e5f6fbd4e9"), looks := true }, kinds := [], alts := [], laidByText := true, laidKinds := [.data, .data], laidTests := true, laidLooks := .later }
def ShaApartUptoCardSaid : Prop := Claim7.holds Tryd.pinned (.plain (OpenSpec.upto shaApartSpec)) shaApartUptoCard

/-- THE SECOND FORM's CARD OF 'stereobatelaw12.NodeBytes'. -/
def nodeBytesUptoCard : Claim7 := { stood := { row := nodeBytesUptoRow, standIns := [], harness := (true, "870f2047f320082d258e4b69be4a7ef441facd8a8f42833a1aead3e5f6fbd4e9"), looks := true }, kinds := [], alts := [], laidByText := true, laidKinds := [.data, .data], laidTests := true, laidLooks := .later }
def NodeBytesUptoCardSaid : Prop := Claim7.holds Tryd.pinned (.plain (OpenSpec.upto nodeBytesSpec)) nodeBytesUptoCard

/-- THE SECOND FORM's CARD OF 'stereobatelaw12.NodeParses'. -/
def nodeParsesUptoCard : Claim7 := { stood := { row := nodeParsesUptoRow, standIns := [], harness := (true, "870f2047f320082d258e4b69be4a7ef441facd8a8f42833a1aead3e5f6fbd4e9"), looks := true }, kinds := [], alts := [], laidByText := true, laidKinds := [.data, .data], laidTests := true, laidLooks := .later }
def NodeParsesUptoCardSaid : Prop := Claim7.holds Tryd.pinned (.plain (OpenSpec.upto nodeParsesSpec)) nodeParsesUptoCard

/-- THE SECOND FORM's CARD OF 'stereobatelaw12.NodeDigest'. -/
def nodeDigestUptoCard : Claim7 := { stood := { row := nodeDigestUptoRow, standIns := [], harness := (true, "870f2047f320082d258e4b69be4a7ef441facd8a8f42833a1aead3e5f6fbd4e9"), looks := true }, kinds := [], alts := [], laidByText := true, laidKinds := [.data, .data], laidTests := true, laidLooks := .later }
def NodeDigestUptoCardSaid : Prop := Claim7.holds Tryd.pinned (.plain (OpenSpec.upto nodeDigestSpec)) nodeDigestUptoCard

/-- THE SECOND FORM's CARD OF 'stereobatelaw12.NodeSlots'. -/
def nodeSlotsUptoCard : Claim7 := { stood := { row := nodeSlotsUptoRow, standIns := [], harness := (true, "870f2047f320082d258e4b69be4a7ef441facd8a8f42833a1aead3e5f6fbd4e9"), looks := true }, kinds := [], alts := [], laidByText := true, laidKinds := [.data, .data], laidTests := true, laidLooks := .later }
def NodeSlotsUptoCardSaid : Prop := Claim7.holds Tryd.pinned (.plain (OpenSpec.upto nodeSlotsSpec)) nodeSlotsUptoCard

/-- THE SECOND FORM's CARD OF 'stereobatelaw12.NodeEmpty'. -/
def nodeEmptyUptoCard : Claim7 := { stood := { row := nodeEmptyUptoRow, standIns := [], harness := (true, "870f2047f320082d258e4b69be4a7ef441facd8a8f42833a1aead3e5f6fbd4e9"), looks := true }, kinds := [], alts := [], laidByText := true, laidKinds := [.data, .data], laidTests := true, laidLooks := .later }
def NodeEmptyUptoCardSaid : Prop := Claim7.holds Tryd.pinned (.plain (OpenSpec.upto nodeEmptySpec)) nodeEmptyUptoCard
end Rows
end Go.Proofs.YtheccbnejamhlaaDoor
