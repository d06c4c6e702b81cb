/-
  DERIVED. GIVEN WITH THE SEED: THE CARDS: each row of YtjoibonbmalbdaaDoorRows.lean that lists a variable, with what it lists TIED to the program's text (the seventh form; the later family's looks); each row that meets fmt, with fmt's text TOLD by the authors' own Lean function (tested against real Go, not proved from fmt's source: count such statements apart). THE CARD IS WHAT COUNTS. Prove the row's statement (the work); the ties are given (YtjoibonbmalbdaaDoorTie.lean); close each card by the builder's one call (the guide's Derived/Test/ToyasCard.lean, 'card_holds'). Laid BY PROGRAM, IN A SANDBOX (cutbox-door.mjs). By AI agents, Wed Nov 11 2026. No macro, syntax, notation, axiom, sorry.
-/
import Derived.Test.YtjoibonbmalbdaaDoorRows
import GoSem.ClaimSeven
namespace Go.Proofs.YtjoibonbmalbdaaDoor
namespace Rows

/-- THE TIED CARD OF 'smartcardlaw03.CheckSums'. -/
def checkSumsCard : Claim7 := { stood := { row := checkSumsRow, standIns := [], harness := (true, "71877caa6a6057ccd74c37a6762e439c7558a8940a340b47f12e5391d1326784"), looks := false }, kinds := [], alts := [], laidByText := true, laidKinds := [.data], laidTests := true, laidLooks := .later }
def CheckSumsCardSaid : Prop := Claim7.holds Tryd.pinned (.plain (OpenSpec.ofChange checkSumsSpec)) checkSumsCard

/-- THE TIED CARD OF 'smartcardlaw03.CheckAppends'. -/
def checkAppendsCard : Claim7 := { stood := { row := checkAppendsRow, standIns := [], harness := (true, "71877caa6a6057ccd74c37a6762e439c7558a8940a340b47f12e5391d1326784"), looks := false }, kinds := [], alts := [], laidByText := true, laidKinds := [.data], laidTests := true, laidLooks := .later }
def CheckAppendsCardSaid : Prop := Claim7.holds Tryd.pinned (.plain (OpenSpec.ofChange checkAppendsSpec)) checkAppendsCard

/-- THE TIED CARD OF 'smartcardlaw03.CheckRemoves'. -/
def checkRemovesCard : Claim7 := { stood := { row := checkRemovesRow, standIns := [], harness := (true, "71877caa6a6057ccd74c37a6762e439c7558a8940a340b47f12e5391d1326784"), looks := false }, kinds := [], alts := [], laidByText := true, laidKinds := [.data], laidTests := true, laidLooks := .later }
def CheckRemovesCardSaid : Prop := Claim7.holds Tryd.pinned (.plain (OpenSpec.ofChange checkRemovesSpec)) checkRemovesCard

/-- THE TIED CARD OF 'smartcardlaw03.CheckRestores'. -/
def checkRestoresCard : Claim7 := { stood := { row := checkRestoresRow, standIns := [], harness := (true, "71877caa6a6057ccd74c37a6762e439c7558a8940a340b47f12e5391d1326784"), looks := false }, kinds := [], alts := [], laidByText := true, laidKinds := [.data], laidTests := true, laidLooks := .later }
def CheckRestoresCardSaid : Prop := Claim7.holds Tryd.pinned (.plain (OpenSpec.ofChange checkRestoresSpec)) checkRestoresCard

/-- THE TIED CARD OF 'smartcardlaw03.CheckDetects'. -/
def checkDetectsCard : Claim7 := { stood := { row := checkDetectsRow, standIns := [], harness := (true, "71877caa6a6057ccd74c37a6762e439c7558a8940a340b47f12e5391d1326784"), looks := false }, kinds := [], alts := [], laidByText := true, laidKinds := [.data], laidTests := true, laidLooks := .later }
def CheckDetectsCardSaid : Prop := Claim7.holds Tryd.pinned (.plain (OpenSpec.ofChange checkDetectsSpec)) checkDetectsCard

/-- THE TIED CARD OF 'smartcardlaw03.CheckBursts'. -/
def checkBurstsCard : Claim7 := { stood := { row := checkBurstsRow, standIns := [], harness := (true, "71877caa6a6057ccd74c37a6762e439c7558a8940a340b47f12e5391d1326784"), looks := false }, kinds := [], alts := [], laidByText := true, laidKinds := [.data], laidTests := true, laidLooks := .later }
def CheckBurstsCardSaid : Prop := Claim7.holds Tryd.pinned (.plain (OpenSpec.ofChange checkBurstsSpec)) checkBurstsCard

/-- THE TIED CARD OF 'smartcardlaw03.CheckLinear'. -/
def checkLinearCard : Claim7 := { stood := { row := checkLinearRow, standIns := [], harness := (true, "71877caa6a6057ccd74c37a6762e439c7558a8940a340b47f12e5391d1326784"), looks := false }, kinds := [], alts := [], laidByText := true, laidKinds := [.data], laidTests := true, laidLooks := .later }
def CheckLinearCardSaid : Prop := Claim7.holds Tryd.pinned (.plain (OpenSpec.ofChange checkLinearSpec)) checkLinearCard

/-- THE SECOND FORM's CARD OF 'smartcardlaw03.CheckSums'. -/
def checkSumsUptoCard : Claim7 := { stood := { row := checkSumsUptoRow, standIns := [], harness := (true, "71877caa6a6057ccd74c37a6762e439c7558a8940a340b47f12e5391d1326784"), looks := false }, kinds := [], alts := [], laidByText := true, laidKinds := [.data], laidTests := true, laidLooks := .later }
def CheckSumsUptoCardSaid : Prop := Claim7.holds Tryd.pinned (.plain (OpenSpec.upto checkSumsSpec)) checkSumsUptoCard

/-- THE SECOND FORM's CARD OF 'smartcardlaw03.CheckAppends'. -/
def checkAppendsUptoCard : Claim7 := { stood := { row := checkAppendsUptoRow, standIns := [], harness := (true, "71877caa6a6057ccd74c37a6762e439c7558a8940a340b47f12e5391d1326784"), looks := false }, kinds := [], alts := [], laidByText := true, laidKinds := [.data], laidTests := true, laidLooks := .later }
def CheckAppendsUptoCardSaid : Prop := Claim7.holds Tryd.pinned (.plain (OpenSpec.upto checkAppendsSpec)) checkAppendsUptoCard

/-- THE SECOND FORM's CARD OF 'smartcardlaw03.CheckRemoves'. -/
def checkRemovesUptoCard : Claim7 := { stood := { row := checkRemovesUptoRow, standIns := [], harness := (true, "71877caa6a6057ccd74c37a6762e439c7558a8940a340b47f12e5391d1326784"), looks := false }, kinds := [], alts := [], laidByText := true, laidKinds := [.data], laidTests := true, laidLooks := .later }
def CheckRemovesUptoCardSaid : Prop := Claim7.holds Tryd.pinned (.plain (OpenSpec.upto checkRemovesSpec)) checkRemovesUptoCard

/-- THE SECOND FORM's CARD OF 'smartcardlaw03.CheckRestores'. -/
def checkRestoresUptoCard : Claim7 := { stood := { row := checkRestoresUptoRow, standIns := [], harness := (true, "71877caa6a6057ccd74c37a6762e439c7558a8940a340b47f12e5391d1326784"), looks := false }, kinds := [], alts := [], laidByText := true, laidKinds := [.data], laidTests := true, laidLooks := .later }
def CheckRestoresUptoCardSaid : Prop := Claim7.holds Tryd.pinned (.plain (OpenSpec.upto checkRestoresSpec)) checkRestoresUptoCard

/-- THE SECOND FORM's CARD OF 'smartcardlaw03.CheckDetects'. -/
def checkDetectsUptoCard : Claim7 := { stood := { row := checkDetectsUptoRow, standIns := [], harness := (true, "71877caa6a6057ccd74c37a6762e439c7558a8940a340b47f12e5391d1326784"), looks := false }, kinds := [], alts := [], laidByText := true, laidKinds := [.data], laidTests := true, laidLooks := .later }
def CheckDetectsUptoCardSaid : Prop := Claim7.holds Tryd.pinned (.plain (OpenSpec.upto checkDetectsSpec)) checkDetectsUptoCard

/-- THE SECOND FORM's CARD OF 'smartcardlaw03.CheckBursts'. -/
def checkBurstsUptoCard : Claim7 := { stood := { row := checkBurstsUptoRow, standIns := [], harness := (true, "71877caa6a6057ccd74c37a6762e439c7558a8940a340b47f12e5391d1326784"), looks := false }, kinds := [], alts := [], laidByText := true, laidKinds := [.data], laidTests := true, laidLooks := .later }
def CheckBurstsUptoCardSaid : Prop := Claim7.holds Tryd.pinned (.plain (OpenSpec.upto checkBurstsSpec)) checkBurstsUptoCard

/-- THE SECOND FORM's CARD OF 'smartcardlaw03.CheckLinear'. -/
def checkLinearUptoCard : Claim7 := { stood := { row := checkLinearUptoRow, standIns := [], harness := (true, "71877caa6a6057ccd74c37a6762e439c7558a8940a340b47f12e5391d1326784"), looks := false }, kinds := [], alts := [], laidByText := true, laidKinds := [.data], laidTests := true, laidLooks := .later }
def CheckLinearUptoCardSaid : Prop := Claim7.holds Tryd.pinned (.plain (OpenSpec.upto checkLinearSpec)) checkLinearUptoCard
end Rows
end Go.Proofs.YtjoibonbmalbdaaDoor
