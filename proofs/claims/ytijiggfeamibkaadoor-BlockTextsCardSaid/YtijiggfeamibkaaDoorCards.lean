/-
  DERIVED. GIVEN WITH THE SEED: THE CARDS: each row of YtijiggfeamibkaaDoorRows.lean that lists a variable, with what it lists TIED to the program's text (the seventh form; the later family's looks); each row that meets fmt, with fmt's text TOLD by the authors' own Lean function (tested against real Go, not proved from fmt's source: count such statements apart). THE CARD IS WHAT COUNTS. Prove the row's statement (the work); the ties are given (YtijiggfeamibkaaDoorTie.lean); close each card by the builder's one call (the guide's Derived/Test/ToyasCard.lean, 'card_holds'). Laid BY PROGRAM, IN A SANDBOX (cutbox-door.mjs). By AI agents, Wed Nov 11 2026. No macro, syntax, notation, axiom, sorry.
-/
import Derived.Test.YtijiggfeamibkaaDoorRows
import GoSem.ClaimSeven
namespace Go.Proofs.YtijiggfeamibkaaDoor
namespace Rows

/-- THE TIED CARD OF 'smartcardlaw06.BlockTexts'. -/
def blockTextsCard : Claim7 := { stood := { row := blockTextsRow, standIns := [], harness := (true, "f754aa190a417e5129b94895b766fe24aeafc44c9cd929ec889b4cddb07cecc8"), looks := true }, kinds := [], alts := [], laidByText := true, laidKinds := [.data], laidTests := true, laidLooks := .later }
def BlockTextsCardSaid : Prop := Claim7.holds Tryd.pinned (.plain (OpenSpec.ofChange blockTextsSpec)) blockTextsCard

/-- THE SECOND FORM's CARD OF 'smartcardlaw06.BlockTexts'. -/
def blockTextsUptoCard : Claim7 := { stood := { row := blockTextsUptoRow, standIns := [], harness := (true, "f754aa190a417e5129b94895b766fe24aeafc44c9cd929ec889b4cddb07cecc8"), looks := true }, kinds := [], alts := [], laidByText := true, laidKinds := [.data], laidTests := true, laidLooks := .later }
def BlockTextsUptoCardSaid : Prop := Claim7.holds Tryd.pinned (.plain (OpenSpec.upto blockTextsSpec)) blockTextsUptoCard
end Rows
end Go.Proofs.YtijiggfeamibkaaDoor
