/-
  DERIVED. GIVEN WITH THE SEED: THE CARDS: each row of YtcojoohbhkhlnaaDoorRows.lean that lists a variable, with what it lists TIED to the program's text (the seventh form; the later family's looks); each row that meets fmt, with fmt's text TOLD by the authors' own Lean function (tested against real Go, not proved from fmt's source: count such statements apart). THE CARD IS WHAT COUNTS. Prove the row's statement (the work); the ties are given (YtcojoohbhkhlnaaDoorTie.lean); close each card by the builder's one call (the guide's Derived/Test/ToyasCard.lean, 'card_holds'). Laid BY PROGRAM, IN A SANDBOX (cutbox-door.mjs). By AI agents, Wed Nov 11 2026. No macro, syntax, notation, axiom, sorry.
-/
import Derived.Test.YtcojoohbhkhlnaaDoorRows
import GoSem.ClaimSeven
namespace Go.Proofs.YtcojoohbhkhlnaaDoor
namespace Rows

/-- THE TIED CARD OF 'smartcardlaw10.EccEncodes'. -/
def eccEncodesCard : Claim7 := { stood := { row := eccEncodesRow, standIns := [], harness := (true, "011543c124ee4bc2f1c5ac239564a1f030d0957f399fc76ff6483b8936393337"), looks := false }, kinds := [], alts := [], laidByText := true, laidKinds := [.data, .data], laidTests := true, laidLooks := .later }
def EccEncodesCardSaid : Prop := Claim7.holds Tryd.pinned (.plain (OpenSpec.ofChange eccEncodesSpec)) eccEncodesCard

/-- THE TIED CARD OF 'smartcardlaw10.EccDecodes'. -/
def eccDecodesCard : Claim7 := { stood := { row := eccDecodesRow, standIns := [], harness := (true, "011543c124ee4bc2f1c5ac239564a1f030d0957f399fc76ff6483b8936393337"), looks := false }, kinds := [], alts := [], laidByText := true, laidKinds := [.data, .data], laidTests := true, laidLooks := .later }
def EccDecodesCardSaid : Prop := Claim7.holds Tryd.pinned (.plain (OpenSpec.ofChange eccDecodesSpec)) eccDecodesCard

/-- THE TIED CARD OF 'smartcardlaw10.EccCorrects'. -/
def eccCorrectsCard : Claim7 := { stood := { row := eccCorrectsRow, standIns := [], harness := (true, "011543c124ee4bc2f1c5ac239564a1f030d0957f399fc76ff6483b8936393337"), looks := false }, kinds := [], alts := [], laidByText := true, laidKinds := [.data, .data], laidTests := true, laidLooks := .later }
def EccCorrectsCardSaid : Prop := Claim7.holds Tryd.pinned (.plain (OpenSpec.ofChange eccCorrectsSpec)) eccCorrectsCard

/-- THE TIED CARD OF 'smartcardlaw10.EccPacks'. -/
def eccPacksCard : Claim7 := { stood := { row := eccPacksRow, standIns := [], harness := (true, "011543c124ee4bc2f1c5ac239564a1f030d0957f399fc76ff6483b8936393337"), looks := false }, kinds := [], alts := [], laidByText := true, laidKinds := [.data, .data], laidTests := true, laidLooks := .later }
def EccPacksCardSaid : Prop := Claim7.holds Tryd.pinned (.plain (OpenSpec.ofChange eccPacksSpec)) eccPacksCard

/-- THE TIED CARD OF 'smartcardlaw10.EccUnpacks'. -/
def eccUnpacksCard : Claim7 := { stood := { row := eccUnpacksRow, standIns := [], harness := (true, "011543c124ee4bc2f1c5ac239564a1f030d0957f399fc76ff6483b8936393337"), looks := false }, kinds := [], alts := [], laidByText := true, laidKinds := [.data, .data], laidTests := true, laidLooks := .later }
def EccUnpacksCardSaid : Prop := Claim7.holds Tryd.pinned (.plain (OpenSpec.ofChange eccUnpacksSpec)) eccUnpacksCard

/-- THE TIED CARD OF 'smartcardlaw10.EccRoundTrip'. -/
def eccRoundTripCard : Claim7 := { stood := { row := eccRoundTripRow, standIns := [], harness := (true, "011543c124ee4bc2f1c5ac239564a1f030d0957f399fc76ff6483b8936393337"), looks := false }, kinds := [], alts := [], laidByText := true, laidKinds := [.data, .data], laidTests := true, laidLooks := .later }
def EccRoundTripCardSaid : Prop := Claim7.holds Tryd.pinned (.plain (OpenSpec.ofChange eccRoundTripSpec)) eccRoundTripCard

/-- THE SECOND FORM's CARD OF 'smartcardlaw10.EccEncodes'. -/
def eccEncodesUptoCard : Claim7 := { stood := { row := eccEncodesUptoRow, standIns := [], harness := (true, "011543c124ee4bc2f1c5ac239564a1f030d0957f399fc76ff6483b8936393337"), looks := false }, kinds := [], alts := [], laidByText := true, laidKinds := [.data, .data], laidTests := true, laidLooks := .later }
def EccEncodesUptoCardSaid : Prop := Claim7.holds Tryd.pinned (.plain (OpenSpec.upto eccEncodesSpec)) eccEncodesUptoCard

/-- THE SECOND FORM's CARD OF 'smartcardlaw10.EccDecodes'. -/
def eccDecodesUptoCard : Claim7 := { stood := { row := eccDecodesUptoRow, standIns := [], harness := (true, "011543c124ee4bc2f1c5ac239564a1f030d0957f399fc76ff6483b8936393337"), looks := false }, kinds := [], alts := [], laidByText := true, laidKinds := [.data, .data], laidTests := true, laidLooks := .later }
def EccDecodesUptoCardSaid : Prop := Claim7.holds Tryd.pinned (.plain (OpenSpec.upto eccDecodesSpec)) eccDecodesUptoCard

/-- THE SECOND FORM's CARD OF 'smartcardlaw10.EccCorrects'. -/
def eccCorrectsUptoCard : Claim7 := { stood := { row := eccCorrectsUptoRow, standIns := [], harness := (true, "011543c124ee4bc2f1c5ac239564a1f030d0957f399fc76ff6483b8936393337"), looks := false }, kinds := [], alts := [], laidByText := true, laidKinds := [.data, .data], laidTests := true, laidLooks := .later }
def EccCorrectsUptoCardSaid : Prop := Claim7.holds Tryd.pinned (.plain (OpenSpec.upto eccCorrectsSpec)) eccCorrectsUptoCard

/-- THE SECOND FORM's CARD OF 'smartcardlaw10.EccPacks'. -/
def eccPacksUptoCard : Claim7 := { stood := { row := eccPacksUptoRow, standIns := [], harness := (true, "011543c124ee4bc2f1c5ac239564a1f030d0957f399fc76ff6483b8936393337"), looks := false }, kinds := [], alts := [], laidByText := true, laidKinds := [.data, .data], laidTests := true, laidLooks := .later }
def EccPacksUptoCardSaid : Prop := Claim7.holds Tryd.pinned (.plain (OpenSpec.upto eccPacksSpec)) eccPacksUptoCard

/-- THE SECOND FORM's CARD OF 'smartcardlaw10.EccUnpacks'. -/
def eccUnpacksUptoCard : Claim7 := { stood := { row := eccUnpacksUptoRow, standIns := [], harness := (true, "011543c124ee4bc2f1c5ac239564a1f030d0957f399fc76ff6483b8936393337"), looks := false }, kinds := [], alts := [], laidByText := true, laidKinds := [.data, .data], laidTests := true, laidLooks := .later }
def EccUnpacksUptoCardSaid : Prop := Claim7.holds Tryd.pinned (.plain (OpenSpec.upto eccUnpacksSpec)) eccUnpacksUptoCard

/-- THE SECOND FORM's CARD OF 'smartcardlaw10.EccRoundTrip'. -/
def eccRoundTripUptoCard : Claim7 := { stood := { row := eccRoundTripUptoRow, standIns := [], harness := (true, "011543c124ee4bc2f1c5ac239564a1f030d0957f399fc76ff6483b8936393337"), looks := false }, kinds := [], alts := [], laidByText := true, laidKinds := [.data, .data], laidTests := true, laidLooks := .later }
def EccRoundTripUptoCardSaid : Prop := Claim7.holds Tryd.pinned (.plain (OpenSpec.upto eccRoundTripSpec)) eccRoundTripUptoCard
end Rows
end Go.Proofs.YtcojoohbhkhlnaaDoor
