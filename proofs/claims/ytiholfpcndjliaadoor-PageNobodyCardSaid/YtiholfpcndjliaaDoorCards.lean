/-
  DERIVED. GIVEN WITH THE SEED: THE CARDS: each row of YtiholfpcndjliaaDoorRows.lean that lists a variable, with what it lists TIED to the program's text (the seventh form; the later family's looks); each row that meets fmt, with fmt's text TOLD by the authors' own Lean function (tested against real Go, not proved from fmt's source: count such statements apart). THE CARD IS WHAT COUNTS. Prove the row's statement (the work); the ties are given (YtiholfpcndjliaaDoorTie.lean); close each card by the builder's one call (the guide's Derived/Test/ToyasCard.lean, 'card_holds'). Laid BY PROGRAM, IN A SANDBOX (cutbox-door.mjs). By AI agents, Wed Nov 11 2026. No macro, syntax, notation, axiom, sorry.
-/
import Derived.Test.YtiholfpcndjliaaDoorRows
import GoSem.ClaimSeven
namespace Go.Proofs.YtiholfpcndjliaaDoor
namespace Rows

/-- THE TIED CARD OF 'smartcardlaw11.PagePlays'. -/
def pagePlaysCard : Claim7 := { stood := { row := pagePlaysRow, standIns := [], harness := (true, "bf3807c470c7f579d70a830fa0c32eb7f8e2da0aa78b4d52be2e54c4bfa94788"), looks := false }, kinds := [], alts := [], laidByText := true, laidKinds := [.data, .data], laidTests := true, laidLooks := .later }
def PagePlaysCardSaid : Prop := Claim7.holds Tryd.pinned (.plain (OpenSpec.ofChange pagePlaysSpec)) pagePlaysCard

/-- THE TIED CARD OF 'smartcardlaw11.PageCuts'. -/
def pageCutsCard : Claim7 := { stood := { row := pageCutsRow, standIns := [], harness := (true, "bf3807c470c7f579d70a830fa0c32eb7f8e2da0aa78b4d52be2e54c4bfa94788"), looks := false }, kinds := [], alts := [], laidByText := true, laidKinds := [.data, .data], laidTests := true, laidLooks := .later }
def PageCutsCardSaid : Prop := Claim7.holds Tryd.pinned (.plain (OpenSpec.ofChange pageCutsSpec)) pageCutsCard

/-- THE TIED CARD OF 'smartcardlaw11.PageFixes'. -/
def pageFixesCard : Claim7 := { stood := { row := pageFixesRow, standIns := [], harness := (true, "bf3807c470c7f579d70a830fa0c32eb7f8e2da0aa78b4d52be2e54c4bfa94788"), looks := false }, kinds := [], alts := [], laidByText := true, laidKinds := [.data, .data], laidTests := true, laidLooks := .later }
def PageFixesCardSaid : Prop := Claim7.holds Tryd.pinned (.plain (OpenSpec.ofChange pageFixesSpec)) pageFixesCard

/-- THE TIED CARD OF 'smartcardlaw11.PageDetects'. -/
def pageDetectsCard : Claim7 := { stood := { row := pageDetectsRow, standIns := [], harness := (true, "bf3807c470c7f579d70a830fa0c32eb7f8e2da0aa78b4d52be2e54c4bfa94788"), looks := false }, kinds := [], alts := [], laidByText := true, laidKinds := [.data, .data], laidTests := true, laidLooks := .later }
def PageDetectsCardSaid : Prop := Claim7.holds Tryd.pinned (.plain (OpenSpec.ofChange pageDetectsSpec)) pageDetectsCard

/-- THE TIED CARD OF 'smartcardlaw11.PageWears'. -/
def pageWearsCard : Claim7 := { stood := { row := pageWearsRow, standIns := [], harness := (true, "bf3807c470c7f579d70a830fa0c32eb7f8e2da0aa78b4d52be2e54c4bfa94788"), looks := false }, kinds := [], alts := [], laidByText := true, laidKinds := [.data, .data], laidTests := true, laidLooks := .later }
def PageWearsCardSaid : Prop := Claim7.holds Tryd.pinned (.plain (OpenSpec.ofChange pageWearsSpec)) pageWearsCard

/-- THE TIED CARD OF 'smartcardlaw11.PageNobody'. -/
def pageNobodyCard : Claim7 := { stood := { row := pageNobodyRow, standIns := [], harness := (true, "bf3807c470c7f579d70a830fa0c32eb7f8e2da0aa78b4d52be2e54c4bfa94788"), looks := false }, kinds := [], alts := [], laidByText := true, laidKinds := [.data, .data], laidTests := true, laidLooks := .later }
def PageNobodyCardSaid : Prop := Claim7.holds Tryd.pinned (.plain (OpenSpec.ofChange pageNobodySpec)) pageNobodyCard

/-- THE TIED CARD OF 'smartcardlaw12.JournalModel'. -/
def journalModelCard : Claim7 := { stood := { row := journalModelRow, standIns := [], harness := (true, "bf3807c470c7f579d70a830fa0c32eb7f8e2da0aa78b4d52be2e54c4bfa94788"), looks := false }, kinds := [], alts := [], laidByText := true, laidKinds := [.data, .data], laidTests := true, laidLooks := .later }
def JournalModelCardSaid : Prop := Claim7.holds Tryd.pinned (.plain (OpenSpec.ofChange journalModelSpec)) journalModelCard

/-- THE TIED CARD OF 'smartcardlaw12.JournalAtomic'. -/
def journalAtomicCard : Claim7 := { stood := { row := journalAtomicRow, standIns := [], harness := (true, "bf3807c470c7f579d70a830fa0c32eb7f8e2da0aa78b4d52be2e54c4bfa94788"), looks := false }, kinds := [], alts := [], laidByText := true, laidKinds := [.data, .data], laidTests := true, laidLooks := .later }
def JournalAtomicCardSaid : Prop := Claim7.holds Tryd.pinned (.plain (OpenSpec.ofChange journalAtomicSpec)) journalAtomicCard

/-- THE TIED CARD OF 'smartcardlaw12.JournalAgain'. -/
def journalAgainCard : Claim7 := { stood := { row := journalAgainRow, standIns := [], harness := (true, "bf3807c470c7f579d70a830fa0c32eb7f8e2da0aa78b4d52be2e54c4bfa94788"), looks := false }, kinds := [], alts := [], laidByText := true, laidKinds := [.data, .data], laidTests := true, laidLooks := .later }
def JournalAgainCardSaid : Prop := Claim7.holds Tryd.pinned (.plain (OpenSpec.ofChange journalAgainSpec)) journalAgainCard

/-- THE TIED CARD OF 'smartcardlaw12.JournalSmall'. -/
def journalSmallCard : Claim7 := { stood := { row := journalSmallRow, standIns := [], harness := (true, "bf3807c470c7f579d70a830fa0c32eb7f8e2da0aa78b4d52be2e54c4bfa94788"), looks := false }, kinds := [], alts := [], laidByText := true, laidKinds := [.data, .data], laidTests := true, laidLooks := .later }
def JournalSmallCardSaid : Prop := Claim7.holds Tryd.pinned (.plain (OpenSpec.ofChange journalSmallSpec)) journalSmallCard

/-- THE TIED CARD OF 'smartcardlaw12.JournalNil'. -/
def journalNilCard : Claim7 := { stood := { row := journalNilRow, standIns := [], harness := (true, "bf3807c470c7f579d70a830fa0c32eb7f8e2da0aa78b4d52be2e54c4bfa94788"), looks := false }, kinds := [], alts := [], laidByText := true, laidKinds := [.data, .data], laidTests := true, laidLooks := .later }
def JournalNilCardSaid : Prop := Claim7.holds Tryd.pinned (.plain (OpenSpec.ofChange journalNilSpec)) journalNilCard

/-- THE SECOND FORM's CARD OF 'smartcardlaw11.PagePlays'. -/
def pagePlaysUptoCard : Claim7 := { stood := { row := pagePlaysUptoRow, standIns := [], harness := (true, "bf3807c470c7f579d70a830fa0c32eb7f8e2da0aa78b4d52be2e54c4bfa94788"), looks := false }, kinds := [], alts := [], laidByText := true, laidKinds := [.data, .data], laidTests := true, laidLooks := .later }
def PagePlaysUptoCardSaid : Prop := Claim7.holds Tryd.pinned (.plain (OpenSpec.upto pagePlaysSpec)) pagePlaysUptoCard

/-- THE SECOND FORM's CARD OF 'smartcardlaw11.PageCuts'. -/
def pageCutsUptoCard : Claim7 := { stood := { row := pageCutsUptoRow, standIns := [], harness := (true, "bf3807c470c7f579d70a830fa0c32eb7f8e2da0aa78b4d52be2e54c4bfa94788"), looks := false }, kinds := [], alts := [], laidByText := true, laidKinds := [.data, .data], laidTests := true, laidLooks := .later }
def PageCutsUptoCardSaid : Prop := Claim7.holds Tryd.pinned (.plain (OpenSpec.upto pageCutsSpec)) pageCutsUptoCard

/-- THE SECOND FORM's CARD OF 'smartcardlaw11.PageFixes'. -/
def pageFixesUptoCard : Claim7 := { stood := { row := pageFixesUptoRow, standIns := [], harness := (true, "bf3807c470c7f579d70a830fa0c32eb7f8e2da0aa78b4d52be2e54c4bfa94788"), looks := false }, kinds := [], alts := [], laidByText := true, laidKinds := [.data, .data], laidTests := true, laidLooks := .later }
def PageFixesUptoCardSaid : Prop := Claim7.holds Tryd.pinned (.plain (OpenSpec.upto pageFixesSpec)) pageFixesUptoCard

/-- THE SECOND FORM's CARD OF 'smartcardlaw11.PageDetects'. -/
def pageDetectsUptoCard : Claim7 := { stood := { row := pageDetectsUptoRow, standIns := [], harness := (true, "bf3807c470c7f579d70a830fa0c32eb7f8e2da0aa78b4d52be2e54c4bfa94788"), looks := false }, kinds := [], alts := [], laidByText := true, laidKinds := [.data, .data], laidTests := true, laidLooks := .later }
def PageDetectsUptoCardSaid : Prop := Claim7.holds Tryd.pinned (.plain (OpenSpec.upto pageDetectsSpec)) pageDetectsUptoCard

/-- THE SECOND FORM's CARD OF 'smartcardlaw11.PageWears'. -/
def pageWearsUptoCard : Claim7 := { stood := { row := pageWearsUptoRow, standIns := [], harness := (true, "bf3807c470c7f579d70a830fa0c32eb7f8e2da0aa78b4d52be2e54c4bfa94788"), looks := false }, kinds := [], alts := [], laidByText := true, laidKinds := [.data, .data], laidTests := true, laidLooks := .later }
def PageWearsUptoCardSaid : Prop := Claim7.holds Tryd.pinned (.plain (OpenSpec.upto pageWearsSpec)) pageWearsUptoCard

/-- THE SECOND FORM's CARD OF 'smartcardlaw11.PageNobody'. -/
def pageNobodyUptoCard : Claim7 := { stood := { row := pageNobodyUptoRow, standIns := [], harness := (true, "bf3807c470c7f579d70a830fa0c32eb7f8e2da0aa78b4d52be2e54c4bfa94788"), looks := false }, kinds := [], alts := [], laidByText := true, laidKinds := [.data, .data], laidTests := true, laidLooks := .later }
def PageNobodyUptoCardSaid : Prop := Claim7.holds Tryd.pinned (.plain (OpenSpec.upto pageNobodySpec)) pageNobodyUptoCard

/-- THE SECOND FORM's CARD OF 'smartcardlaw12.JournalModel'. -/
def journalModelUptoCard : Claim7 := { stood := { row := journalModelUptoRow, standIns := [], harness := (true, "bf3807c470c7f579d70a830fa0c32eb7f8e2da0aa78b4d52be2e54c4bfa94788"), looks := false }, kinds := [], alts := [], laidByText := true, laidKinds := [.data, .data], laidTests := true, laidLooks := .later }
def JournalModelUptoCardSaid : Prop := Claim7.holds Tryd.pinned (.plain (OpenSpec.upto journalModelSpec)) journalModelUptoCard

/-- THE SECOND FORM's CARD OF 'smartcardlaw12.JournalAtomic'. -/
def journalAtomicUptoCard : Claim7 := { stood := { row := journalAtomicUptoRow, standIns := [], harness := (true, "bf3807c470c7f579d70a830fa0c32eb7f8e2da0aa78b4d52be2e54c4bfa94788"), looks := false }, kinds := [], alts := [], laidByText := true, laidKinds := [.data, .data], laidTests := true, laidLooks := .later }
def JournalAtomicUptoCardSaid : Prop := Claim7.holds Tryd.pinned (.plain (OpenSpec.upto journalAtomicSpec)) journalAtomicUptoCard

/-- THE SECOND FORM's CARD OF 'smartcardlaw12.JournalAgain'. -/
def journalAgainUptoCard : Claim7 := { stood := { row := journalAgainUptoRow, standIns := [], harness := (true, "bf3807c470c7f579d70a830fa0c32eb7f8e2da0aa78b4d52be2e54c4bfa94788"), looks := false }, kinds := [], alts := [], laidByText := true, laidKinds := [.data, .data], laidTests := true, laidLooks := .later }
def JournalAgainUptoCardSaid : Prop := Claim7.holds Tryd.pinned (.plain (OpenSpec.upto journalAgainSpec)) journalAgainUptoCard

/-- THE SECOND FORM's CARD OF 'smartcardlaw12.JournalSmall'. -/
def journalSmallUptoCard : Claim7 := { stood := { row := journalSmallUptoRow, standIns := [], harness := (true, "bf3807c470c7f579d70a830fa0c32eb7f8e2da0aa78b4d52be2e54c4bfa94788"), looks := false }, kinds := [], alts := [], laidByText := true, laidKinds := [.data, .data], laidTests := true, laidLooks := .later }
def JournalSmallUptoCardSaid : Prop := Claim7.holds Tryd.pinned (.plain (OpenSpec.upto journalSmallSpec)) journalSmallUptoCard

/-- THE SECOND FORM's CARD OF 'smartcardlaw12.JournalNil'. -/
def journalNilUptoCard : Claim7 := { stood := { row := journalNilUptoRow, standIns := [], harness := (true, "bf3807c470c7f579d70a830fa0c32eb7f8e2da0aa78b4d52be2e54c4bfa94788"), looks := false }, kinds := [], alts := [], laidByText := true, laidKinds := [.data, .data], laidTests := true, laidLooks := .later }
def JournalNilUptoCardSaid : Prop := Claim7.holds Tryd.pinned (.plain (OpenSpec.upto journalNilSpec)) journalNilUptoCard
end Rows
end Go.Proofs.YtiholfpcndjliaaDoor
