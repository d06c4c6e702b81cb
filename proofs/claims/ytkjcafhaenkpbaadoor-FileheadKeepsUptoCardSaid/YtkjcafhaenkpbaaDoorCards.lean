/-
  DERIVED. GIVEN WITH THE SEED: THE CARDS: each row of YtkjcafhaenkpbaaDoorRows.lean that lists a variable, with what it lists TIED to the program's text (the seventh form; the later family's looks); each row that meets fmt, with fmt's text TOLD by the authors' own Lean function (tested against real Go, not proved from fmt's source: count such statements apart). THE CARD IS WHAT COUNTS. Prove the row's statement (the work); the ties are given (YtkjcafhaenkpbaaDoorTie.lean); close each card by the builder's one call (the guide's Derived/Test/ToyasCard.lean, 'card_holds'). Laid BY PROGRAM, IN A SANDBOX (cutbox-door.mjs). By AI agents, Wed Nov 11 2026. No macro, syntax, notation, axiom, sorry.
-/
import Derived.Test.YtkjcafhaenkpbaaDoorRows
import GoSem.ClaimSeven
namespace Go.Proofs.YtkjcafhaenkpbaaDoor
namespace Rows

/-- THE TIED CARD OF 'smartcardlaw15.FileheadChecks'. -/
def fileheadChecksCard : Claim7 := { stood := { row := fileheadChecksRow, standIns := [], harness := (true, "844c1ff2bc42d4afe9cd9bdca756d983205307e2f98ccc6863e1c97b37ce7771"), looks := false }, kinds := [], alts := [], laidByText := true, laidKinds := [.data], laidTests := true, laidLooks := .later }
def FileheadChecksCardSaid : Prop := Claim7.holds Tryd.pinned (.plain (OpenSpec.ofChange fileheadChecksSpec)) fileheadChecksCard

/-- THE TIED CARD OF 'smartcardlaw15.FileheadEncodes'. -/
def fileheadEncodesCard : Claim7 := { stood := { row := fileheadEncodesRow, standIns := [], harness := (true, "844c1ff2bc42d4afe9cd9bdca756d983205307e2f98ccc6863e1c97b37ce7771"), looks := false }, kinds := [], alts := [], laidByText := true, laidKinds := [.data], laidTests := true, laidLooks := .later }
def FileheadEncodesCardSaid : Prop := Claim7.holds Tryd.pinned (.plain (OpenSpec.ofChange fileheadEncodesSpec)) fileheadEncodesCard

/-- THE TIED CARD OF 'smartcardlaw15.FileheadDecodes'. -/
def fileheadDecodesCard : Claim7 := { stood := { row := fileheadDecodesRow, standIns := [], harness := (true, "844c1ff2bc42d4afe9cd9bdca756d983205307e2f98ccc6863e1c97b37ce7771"), looks := false }, kinds := [], alts := [], laidByText := true, laidKinds := [.data], laidTests := true, laidLooks := .later }
def FileheadDecodesCardSaid : Prop := Claim7.holds Tryd.pinned (.plain (OpenSpec.ofChange fileheadDecodesSpec)) fileheadDecodesCard

/-- THE TIED CARD OF 'smartcardlaw15.FileheadFollows'. -/
def fileheadFollowsCard : Claim7 := { stood := { row := fileheadFollowsRow, standIns := [], harness := (true, "844c1ff2bc42d4afe9cd9bdca756d983205307e2f98ccc6863e1c97b37ce7771"), looks := false }, kinds := [], alts := [], laidByText := true, laidKinds := [.data], laidTests := true, laidLooks := .later }
def FileheadFollowsCardSaid : Prop := Claim7.holds Tryd.pinned (.plain (OpenSpec.ofChange fileheadFollowsSpec)) fileheadFollowsCard

/-- THE TIED CARD OF 'smartcardlaw15.FileheadSame'. -/
def fileheadSameCard : Claim7 := { stood := { row := fileheadSameRow, standIns := [], harness := (true, "844c1ff2bc42d4afe9cd9bdca756d983205307e2f98ccc6863e1c97b37ce7771"), looks := false }, kinds := [], alts := [], laidByText := true, laidKinds := [.data], laidTests := true, laidLooks := .later }
def FileheadSameCardSaid : Prop := Claim7.holds Tryd.pinned (.plain (OpenSpec.ofChange fileheadSameSpec)) fileheadSameCard

/-- THE TIED CARD OF 'smartcardlaw15.FileheadRoundTrip'. -/
def fileheadRoundTripCard : Claim7 := { stood := { row := fileheadRoundTripRow, standIns := [], harness := (true, "844c1ff2bc42d4afe9cd9bdca756d983205307e2f98ccc6863e1c97b37ce7771"), looks := false }, kinds := [], alts := [], laidByText := true, laidKinds := [.data], laidTests := true, laidLooks := .later }
def FileheadRoundTripCardSaid : Prop := Claim7.holds Tryd.pinned (.plain (OpenSpec.ofChange fileheadRoundTripSpec)) fileheadRoundTripCard

/-- THE TIED CARD OF 'smartcardlaw15.FileheadKeeps'. -/
def fileheadKeepsCard : Claim7 := { stood := { row := fileheadKeepsRow, standIns := [], harness := (true, "844c1ff2bc42d4afe9cd9bdca756d983205307e2f98ccc6863e1c97b37ce7771"), looks := false }, kinds := [], alts := [], laidByText := true, laidKinds := [.data], laidTests := true, laidLooks := .later }
def FileheadKeepsCardSaid : Prop := Claim7.holds Tryd.pinned (.plain (OpenSpec.ofChange fileheadKeepsSpec)) fileheadKeepsCard

/-- THE SECOND FORM's CARD OF 'smartcardlaw15.FileheadChecks'. -/
def fileheadChecksUptoCard : Claim7 := { stood := { row := fileheadChecksUptoRow, standIns := [], harness := (true, "844c1ff2bc42d4afe9cd9bdca756d983205307e2f98ccc6863e1c97b37ce7771"), looks := false }, kinds := [], alts := [], laidByText := true, laidKinds := [.data], laidTests := true, laidLooks := .later }
def FileheadChecksUptoCardSaid : Prop := Claim7.holds Tryd.pinned (.plain (OpenSpec.upto fileheadChecksSpec)) fileheadChecksUptoCard

/-- THE SECOND FORM's CARD OF 'smartcardlaw15.FileheadEncodes'. -/
def fileheadEncodesUptoCard : Claim7 := { stood := { row := fileheadEncodesUptoRow, standIns := [], harness := (true, "844c1ff2bc42d4afe9cd9bdca756d983205307e2f98ccc6863e1c97b37ce7771"), looks := false }, kinds := [], alts := [], laidByText := true, laidKinds := [.data], laidTests := true, laidLooks := .later }
def FileheadEncodesUptoCardSaid : Prop := Claim7.holds Tryd.pinned (.plain (OpenSpec.upto fileheadEncodesSpec)) fileheadEncodesUptoCard

/-- THE SECOND FORM's CARD OF 'smartcardlaw15.FileheadDecodes'. -/
def fileheadDecodesUptoCard : Claim7 := { stood := { row := fileheadDecodesUptoRow, standIns := [], harness := (true, "844c1ff2bc42d4afe9cd9bdca756d983205307e2f98ccc6863e1c97b37ce7771"), looks := false }, kinds := [], alts := [], laidByText := true, laidKinds := [.data], laidTests := true, laidLooks := .later }
def FileheadDecodesUptoCardSaid : Prop := Claim7.holds Tryd.pinned (.plain (OpenSpec.upto fileheadDecodesSpec)) fileheadDecodesUptoCard

/-- THE SECOND FORM's CARD OF 'smartcardlaw15.FileheadFollows'. -/
def fileheadFollowsUptoCard : Claim7 := { stood := { row := fileheadFollowsUptoRow, standIns := [], harness := (true, "844c1ff2bc42d4afe9cd9bdca756d983205307e2f98ccc6863e1c97b37ce7771"), looks := false }, kinds := [], alts := [], laidByText := true, laidKinds := [.data], laidTests := true, laidLooks := .later }
def FileheadFollowsUptoCardSaid : Prop := Claim7.holds Tryd.pinned (.plain (OpenSpec.upto fileheadFollowsSpec)) fileheadFollowsUptoCard

/-- THE SECOND FORM's CARD OF 'smartcardlaw15.FileheadSame'. -/
def fileheadSameUptoCard : Claim7 := { stood := { row := fileheadSameUptoRow, standIns := [], harness := (true, "844c1ff2bc42d4afe9cd9bdca756d983205307e2f98ccc6863e1c97b37ce7771"), looks := false }, kinds := [], alts := [], laidByText := true, laidKinds := [.data], laidTests := true, laidLooks := .later }
def FileheadSameUptoCardSaid : Prop := Claim7.holds Tryd.pinned (.plain (OpenSpec.upto fileheadSameSpec)) fileheadSameUptoCard

/-- THE SECOND FORM's CARD OF 'smartcardlaw15.FileheadRoundTrip'. -/
def fileheadRoundTripUptoCard : Claim7 := { stood := { row := fileheadRoundTripUptoRow, standIns := [], harness := (true, "844c1ff2bc42d4afe9cd9bdca756d983205307e2f98ccc6863e1c97b37ce7771"), looks := false }, kinds := [], alts := [], laidByText := true, laidKinds := [.data], laidTests := true, laidLooks := .later }
def FileheadRoundTripUptoCardSaid : Prop := Claim7.holds Tryd.pinned (.plain (OpenSpec.upto fileheadRoundTripSpec)) fileheadRoundTripUptoCard

/-- THE SECOND FORM's CARD OF 'smartcardlaw15.FileheadKeeps'. -/
def fileheadKeepsUptoCard : Claim7 := { stood := { row := fileheadKeepsUptoRow, standIns := [], harness := (true, "844c1ff2bc42d4afe9cd9bdca756d983205307e2f98ccc6863e1c97b37ce7771"), looks := false }, kinds := [], alts := [], laidByText := true, laidKinds := [.data], laidTests := true, laidLooks := .later }
def FileheadKeepsUptoCardSaid : Prop := Claim7.holds Tryd.pinned (.plain (OpenSpec.upto fileheadKeepsSpec)) fileheadKeepsUptoCard
end Rows
end Go.Proofs.YtkjcafhaenkpbaaDoor
