/-
  DERIVED. GIVEN WITH THE SEED: THE CARDS: each row of YtnbggokmiokhlaaDoorRows.lean that lists a variable, with what it lists TIED to the program's text (the seventh form; the later family's looks); each row that meets fmt, with fmt's text TOLD by the authors' own Lean function (tested against real Go, not proved from fmt's source: count such statements apart). THE CARD IS WHAT COUNTS. Prove the row's statement (the work); the ties are given (YtnbggokmiokhlaaDoorTie.lean); close each card by the builder's one call (the guide's Derived/Test/ToyasCard.lean, 'card_holds'). Laid BY PROGRAM, IN A SANDBOX (cutbox-door.mjs). By AI agents, Wed Nov 11 2026. No macro, syntax, notation, axiom, sorry.
-/
import Derived.Test.YtnbggokmiokhlaaDoorRows
import GoSem.ClaimSeven
namespace Go.Proofs.YtnbggokmiokhlaaDoor
namespace Rows

/-- THE TIED CARD OF 'smartcardlaw05.AtrEncodes'. -/
def atrEncodesCard : Claim7 := { stood := { row := atrEncodesRow, standIns := [], harness := (true, "2ef38d059d15fc336eb5475d206b58a08f65da441dff15513c39690f2bd71cf2"), looks := true }, kinds := [], alts := [], laidByText := true, laidKinds := [.data], laidTests := true, laidLooks := .later }
def AtrEncodesCardSaid : Prop := Claim7.holds Tryd.pinned (.plain (OpenSpec.ofChange atrEncodesSpec)) atrEncodesCard

/-- THE TIED CARD OF 'smartcardlaw05.AtrDecodes'. -/
def atrDecodesCard : Claim7 := { stood := { row := atrDecodesRow, standIns := [], harness := (true, "2ef38d059d15fc336eb5475d206b58a08f65da441dff15513c39690f2bd71cf2"), looks := true }, kinds := [], alts := [], laidByText := true, laidKinds := [.data], laidTests := true, laidLooks := .later }
def AtrDecodesCardSaid : Prop := Claim7.holds Tryd.pinned (.plain (OpenSpec.ofChange atrDecodesSpec)) atrDecodesCard

/-- THE TIED CARD OF 'smartcardlaw05.AtrReads'. -/
def atrReadsCard : Claim7 := { stood := { row := atrReadsRow, standIns := [], harness := (true, "2ef38d059d15fc336eb5475d206b58a08f65da441dff15513c39690f2bd71cf2"), looks := true }, kinds := [], alts := [], laidByText := true, laidKinds := [.data], laidTests := true, laidLooks := .later }
def AtrReadsCardSaid : Prop := Claim7.holds Tryd.pinned (.plain (OpenSpec.ofChange atrReadsSpec)) atrReadsCard

/-- THE TIED CARD OF 'smartcardlaw05.AtrRequests'. -/
def atrRequestsCard : Claim7 := { stood := { row := atrRequestsRow, standIns := [], harness := (true, "2ef38d059d15fc336eb5475d206b58a08f65da441dff15513c39690f2bd71cf2"), looks := true }, kinds := [], alts := [], laidByText := true, laidKinds := [.data], laidTests := true, laidLooks := .later }
def AtrRequestsCardSaid : Prop := Claim7.holds Tryd.pinned (.plain (OpenSpec.ofChange atrRequestsSpec)) atrRequestsCard

/-- THE TIED CARD OF 'smartcardlaw05.AtrAnswers'. -/
def atrAnswersCard : Claim7 := { stood := { row := atrAnswersRow, standIns := [], harness := (true, "2ef38d059d15fc336eb5475d206b58a08f65da441dff15513c39690f2bd71cf2"), looks := true }, kinds := [], alts := [], laidByText := true, laidKinds := [.data], laidTests := true, laidLooks := .later }
def AtrAnswersCardSaid : Prop := Claim7.holds Tryd.pinned (.plain (OpenSpec.ofChange atrAnswersSpec)) atrAnswersCard

/-- THE TIED CARD OF 'smartcardlaw05.AtrAccepts'. -/
def atrAcceptsCard : Claim7 := { stood := { row := atrAcceptsRow, standIns := [], harness := (true, "2ef38d059d15fc336eb5475d206b58a08f65da441dff15513c39690f2bd71cf2"), looks := true }, kinds := [], alts := [], laidByText := true, laidKinds := [.data], laidTests := true, laidLooks := .later }
def AtrAcceptsCardSaid : Prop := Claim7.holds Tryd.pinned (.plain (OpenSpec.ofChange atrAcceptsSpec)) atrAcceptsCard

/-- THE TIED CARD OF 'smartcardlaw05.AtrCompares'. -/
def atrComparesCard : Claim7 := { stood := { row := atrComparesRow, standIns := [], harness := (true, "2ef38d059d15fc336eb5475d206b58a08f65da441dff15513c39690f2bd71cf2"), looks := true }, kinds := [], alts := [], laidByText := true, laidKinds := [.data], laidTests := true, laidLooks := .later }
def AtrComparesCardSaid : Prop := Claim7.holds Tryd.pinned (.plain (OpenSpec.ofChange atrComparesSpec)) atrComparesCard

/-- THE TIED CARD OF 'smartcardlaw05.AtrBack'. -/
def atrBackCard : Claim7 := { stood := { row := atrBackRow, standIns := [], harness := (true, "2ef38d059d15fc336eb5475d206b58a08f65da441dff15513c39690f2bd71cf2"), looks := true }, kinds := [], alts := [], laidByText := true, laidKinds := [.data], laidTests := true, laidLooks := .later }
def AtrBackCardSaid : Prop := Claim7.holds Tryd.pinned (.plain (OpenSpec.ofChange atrBackSpec)) atrBackCard

/-- THE TIED CARD OF 'smartcardlaw05.AtrAgrees'. -/
def atrAgreesCard : Claim7 := { stood := { row := atrAgreesRow, standIns := [], harness := (true, "2ef38d059d15fc336eb5475d206b58a08f65da441dff15513c39690f2bd71cf2"), looks := true }, kinds := [], alts := [], laidByText := true, laidKinds := [.data], laidTests := true, laidLooks := .later }
def AtrAgreesCardSaid : Prop := Claim7.holds Tryd.pinned (.plain (OpenSpec.ofChange atrAgreesSpec)) atrAgreesCard

/-- THE TIED CARD OF 'smartcardlaw06.BlockChecks'. -/
def blockChecksCard : Claim7 := { stood := { row := blockChecksRow, standIns := [], harness := (true, "2ef38d059d15fc336eb5475d206b58a08f65da441dff15513c39690f2bd71cf2"), looks := true }, kinds := [], alts := [], laidByText := true, laidKinds := [.data], laidTests := true, laidLooks := .later }
def BlockChecksCardSaid : Prop := Claim7.holds Tryd.pinned (.plain (OpenSpec.ofChange blockChecksSpec)) blockChecksCard

/-- THE TIED CARD OF 'smartcardlaw06.BlockEncodes'. -/
def blockEncodesCard : Claim7 := { stood := { row := blockEncodesRow, standIns := [], harness := (true, "2ef38d059d15fc336eb5475d206b58a08f65da441dff15513c39690f2bd71cf2"), looks := true }, kinds := [], alts := [], laidByText := true, laidKinds := [.data], laidTests := true, laidLooks := .later }
def BlockEncodesCardSaid : Prop := Claim7.holds Tryd.pinned (.plain (OpenSpec.ofChange blockEncodesSpec)) blockEncodesCard

/-- THE TIED CARD OF 'smartcardlaw06.BlockDecodes'. -/
def blockDecodesCard : Claim7 := { stood := { row := blockDecodesRow, standIns := [], harness := (true, "2ef38d059d15fc336eb5475d206b58a08f65da441dff15513c39690f2bd71cf2"), looks := true }, kinds := [], alts := [], laidByText := true, laidKinds := [.data], laidTests := true, laidLooks := .later }
def BlockDecodesCardSaid : Prop := Claim7.holds Tryd.pinned (.plain (OpenSpec.ofChange blockDecodesSpec)) blockDecodesCard

/-- THE TIED CARD OF 'smartcardlaw06.BlockSame'. -/
def blockSameCard : Claim7 := { stood := { row := blockSameRow, standIns := [], harness := (true, "2ef38d059d15fc336eb5475d206b58a08f65da441dff15513c39690f2bd71cf2"), looks := true }, kinds := [], alts := [], laidByText := true, laidKinds := [.data], laidTests := true, laidLooks := .later }
def BlockSameCardSaid : Prop := Claim7.holds Tryd.pinned (.plain (OpenSpec.ofChange blockSameSpec)) blockSameCard

/-- THE TIED CARD OF 'smartcardlaw06.BlockTexts'. -/
def blockTextsCard : Claim7 := { stood := { row := blockTextsRow, standIns := [], harness := (true, "2ef38d059d15fc336eb5475d206b58a08f65da441dff15513c39690f2bd71cf2"), looks := true }, kinds := [], alts := [], laidByText := true, laidKinds := [.data], laidTests := true, laidLooks := .later }
def BlockTextsCardSaid : Prop := Claim7.holds Tryd.pinned (.plain (OpenSpec.ofChange blockTextsSpec)) blockTextsCard

/-- THE TIED CARD OF 'smartcardlaw06.BlockRoundTrip'. -/
def blockRoundTripCard : Claim7 := { stood := { row := blockRoundTripRow, standIns := [], harness := (true, "2ef38d059d15fc336eb5475d206b58a08f65da441dff15513c39690f2bd71cf2"), looks := true }, kinds := [], alts := [], laidByText := true, laidKinds := [.data], laidTests := true, laidLooks := .later }
def BlockRoundTripCardSaid : Prop := Claim7.holds Tryd.pinned (.plain (OpenSpec.ofChange blockRoundTripSpec)) blockRoundTripCard

/-- THE TIED CARD OF 'smartcardlaw06.BlockDamage'. -/
def blockDamageCard : Claim7 := { stood := { row := blockDamageRow, standIns := [], harness := (true, "2ef38d059d15fc336eb5475d206b58a08f65da441dff15513c39690f2bd71cf2"), looks := true }, kinds := [], alts := [], laidByText := true, laidKinds := [.data], laidTests := true, laidLooks := .later }
def BlockDamageCardSaid : Prop := Claim7.holds Tryd.pinned (.plain (OpenSpec.ofChange blockDamageSpec)) blockDamageCard

/-- THE SECOND FORM's CARD OF 'smartcardlaw05.AtrEncodes'. -/
def atrEncodesUptoCard : Claim7 := { stood := { row := atrEncodesUptoRow, standIns := [], harness := (true, "2ef38d059d15fc336eb5475d206b58a08f65da441dff15513c39690f2bd71cf2"), looks := true }, kinds := [], alts := [], laidByText := true, laidKinds := [.data], laidTests := true, laidLooks := .later }
def AtrEncodesUptoCardSaid : Prop := Claim7.holds Tryd.pinned (.plain (OpenSpec.upto atrEncodesSpec)) atrEncodesUptoCard

/-- THE SECOND FORM's CARD OF 'smartcardlaw05.AtrDecodes'. -/
def atrDecodesUptoCard : Claim7 := { stood := { row := atrDecodesUptoRow, standIns := [], harness := (true, "2ef38d059d15fc336eb5475d206b58a08f65da441dff15513c39690f2bd71cf2"), looks := true }, kinds := [], alts := [], laidByText := true, laidKinds := [.data], laidTests := true, laidLooks := .later }
def AtrDecodesUptoCardSaid : Prop := Claim7.holds Tryd.pinned (.plain (OpenSpec.upto atrDecodesSpec)) atrDecodesUptoCard

/-- THE SECOND FORM's CARD OF 'smartcardlaw05.AtrReads'. -/
def atrReadsUptoCard : Claim7 := { stood := { row := atrReadsUptoRow, standIns := [], harness := (true, "2ef38d059d15fc336eb5475d206b58a08f65da441dff15513c39690f2bd71cf2"), looks := true }, kinds := [], alts := [], laidByText := true, laidKinds := [.data], laidTests := true, laidLooks := .later }
def AtrReadsUptoCardSaid : Prop := Claim7.holds Tryd.pinned (.plain (OpenSpec.upto atrReadsSpec)) atrReadsUptoCard

/-- THE SECOND FORM's CARD OF 'smartcardlaw05.AtrRequests'. -/
def atrRequestsUptoCard : Claim7 := { stood := { row := atrRequestsUptoRow, standIns := [], harness := (true, "2ef38d059d15fc336eb5475d206b58a08f65da441dff15513c39690f2bd71cf2"), looks := true }, kinds := [], alts := [], laidByText := true, laidKinds := [.data], laidTests := true, laidLooks := .later }
def AtrRequestsUptoCardSaid : Prop := Claim7.holds Tryd.pinned (.plain (OpenSpec.upto atrRequestsSpec)) atrRequestsUptoCard

/-- THE SECOND FORM's CARD OF 'smartcardlaw05.AtrAnswers'. -/
def atrAnswersUptoCard : Claim7 := { stood := { row := atrAnswersUptoRow, standIns := [], harness := (true, "2ef38d059d15fc336eb5475d206b58a08f65da441dff15513c39690f2bd71cf2"), looks := true }, kinds := [], alts := [], laidByText := true, laidKinds := [.data], laidTests := true, laidLooks := .later }
def AtrAnswersUptoCardSaid : Prop := Claim7.holds Tryd.pinned (.plain (OpenSpec.upto atrAnswersSpec)) atrAnswersUptoCard

/-- THE SECOND FORM's CARD OF 'smartcardlaw05.AtrAccepts'. -/
def atrAcceptsUptoCard : Claim7 := { stood := { row := atrAcceptsUptoRow, standIns := [], harness := (true, "2ef38d059d15fc336eb5475d206b58a08f65da441dff15513c39690f2bd71cf2"), looks := true }, kinds := [], alts := [], laidByText := true, laidKinds := [.data], laidTests := true, laidLooks := .later }
def AtrAcceptsUptoCardSaid : Prop := Claim7.holds Tryd.pinned (.plain (OpenSpec.upto atrAcceptsSpec)) atrAcceptsUptoCard

/-- THE SECOND FORM's CARD OF 'smartcardlaw05.AtrCompares'. -/
def atrComparesUptoCard : Claim7 := { stood := { row := atrComparesUptoRow, standIns := [], harness := (true, "2ef38d059d15fc336eb5475d206b58a08f65da441dff15513c39690f2bd71cf2"), looks := true }, kinds := [], alts := [], laidByText := true, laidKinds := [.data], laidTests := true, laidLooks := .later }
def AtrComparesUptoCardSaid : Prop := Claim7.holds Tryd.pinned (.plain (OpenSpec.upto atrComparesSpec)) atrComparesUptoCard

/-- THE SECOND FORM's CARD OF 'smartcardlaw05.AtrBack'. -/
def atrBackUptoCard : Claim7 := { stood := { row := atrBackUptoRow, standIns := [], harness := (true, "2ef38d059d15fc336eb5475d206b58a08f65da441dff15513c39690f2bd71cf2"), looks := true }, kinds := [], alts := [], laidByText := true, laidKinds := [.data], laidTests := true, laidLooks := .later }
def AtrBackUptoCardSaid : Prop := Claim7.holds Tryd.pinned (.plain (OpenSpec.upto atrBackSpec)) atrBackUptoCard

/-- THE SECOND FORM's CARD OF 'smartcardlaw05.AtrAgrees'. -/
def atrAgreesUptoCard : Claim7 := { stood := { row := atrAgreesUptoRow, standIns := [], harness := (true, "2ef38d059d15fc336eb5475d206b58a08f65da441dff15513c39690f2bd71cf2"), looks := true }, kinds := [], alts := [], laidByText := true, laidKinds := [.data], laidTests := true, laidLooks := .later }
def AtrAgreesUptoCardSaid : Prop := Claim7.holds Tryd.pinned (.plain (OpenSpec.upto atrAgreesSpec)) atrAgreesUptoCard

/-- THE SECOND FORM's CARD OF 'smartcardlaw06.BlockChecks'. -/
def blockChecksUptoCard : Claim7 := { stood := { row := blockChecksUptoRow, standIns := [], harness := (true, "2ef38d059d15fc336eb5475d206b58a08f65da441dff15513c39690f2bd71cf2"), looks := true }, kinds := [], alts := [], laidByText := true, laidKinds := [.data], laidTests := true, laidLooks := .later }
def BlockChecksUptoCardSaid : Prop := Claim7.holds Tryd.pinned (.plain (OpenSpec.upto blockChecksSpec)) blockChecksUptoCard

/-- THE SECOND FORM's CARD OF 'smartcardlaw06.BlockEncodes'. -/
def blockEncodesUptoCard : Claim7 := { stood := { row := blockEncodesUptoRow, standIns := [], harness := (true, "2ef38d059d15fc336eb5475d206b58a08f65da441dff15513c39690f2bd71cf2"), looks := true }, kinds := [], alts := [], laidByText := true, laidKinds := [.data], laidTests := true, laidLooks := .later }
def BlockEncodesUptoCardSaid : Prop := Claim7.holds Tryd.pinned (.plain (OpenSpec.upto blockEncodesSpec)) blockEncodesUptoCard

/-- THE SECOND FORM's CARD OF 'smartcardlaw06.BlockDecodes'. -/
def blockDecodesUptoCard : Claim7 := { stood := { row := blockDecodesUptoRow, standIns := [], harness := (true, "2ef38d059d15fc336eb5475d206b58a08f65da441dff15513c39690f2bd71cf2"), looks := true }, kinds := [], alts := [], laidByText := true, laidKinds := [.data], laidTests := true, laidLooks := .later }
def BlockDecodesUptoCardSaid : Prop := Claim7.holds Tryd.pinned (.plain (OpenSpec.upto blockDecodesSpec)) blockDecodesUptoCard

/-- THE SECOND FORM's CARD OF 'smartcardlaw06.BlockSame'. -/
def blockSameUptoCard : Claim7 := { stood := { row := blockSameUptoRow, standIns := [], harness := (true, "2ef38d059d15fc336eb5475d206b58a08f65da441dff15513c39690f2bd71cf2"), looks := true }, kinds := [], alts := [], laidByText := true, laidKinds := [.data], laidTests := true, laidLooks := .later }
def BlockSameUptoCardSaid : Prop := Claim7.holds Tryd.pinned (.plain (OpenSpec.upto blockSameSpec)) blockSameUptoCard

/-- THE SECOND FORM's CARD OF 'smartcardlaw06.BlockTexts'. -/
def blockTextsUptoCard : Claim7 := { stood := { row := blockTextsUptoRow, standIns := [], harness := (true, "2ef38d059d15fc336eb5475d206b58a08f65da441dff15513c39690f2bd71cf2"), looks := true }, kinds := [], alts := [], laidByText := true, laidKinds := [.data], laidTests := true, laidLooks := .later }
def BlockTextsUptoCardSaid : Prop := Claim7.holds Tryd.pinned (.plain (OpenSpec.upto blockTextsSpec)) blockTextsUptoCard

/-- THE SECOND FORM's CARD OF 'smartcardlaw06.BlockRoundTrip'. -/
def blockRoundTripUptoCard : Claim7 := { stood := { row := blockRoundTripUptoRow, standIns := [], harness := (true, "2ef38d059d15fc336eb5475d206b58a08f65da441dff15513c39690f2bd71cf2"), looks := true }, kinds := [], alts := [], laidByText := true, laidKinds := [.data], laidTests := true, laidLooks := .later }
def BlockRoundTripUptoCardSaid : Prop := Claim7.holds Tryd.pinned (.plain (OpenSpec.upto blockRoundTripSpec)) blockRoundTripUptoCard

/-- THE SECOND FORM's CARD OF 'smartcardlaw06.BlockDamage'. -/
def blockDamageUptoCard : Claim7 := { stood := { row := blockDamageUptoRow, standIns := [], harness := (true, "2ef38d059d15fc336eb5475d206b58a08f65da441dff15513c39690f2bd71cf2"), looks := true }, kinds := [], alts := [], laidByText := true, laidKinds := [.data], laidTests := true, laidLooks := .later }
def BlockDamageUptoCardSaid : Prop := Claim7.holds Tryd.pinned (.plain (OpenSpec.upto blockDamageSpec)) blockDamageUptoCard
end Rows
end Go.Proofs.YtnbggokmiokhlaaDoor
