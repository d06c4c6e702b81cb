/-
  DERIVED. GIVEN WITH THE SEED: THE CARDS: each row of YtjkbfogjfgnhiaaDoorRows.lean that lists a variable, with what it lists TIED to the program's text (the seventh form; the later family's looks); each row that meets fmt, with fmt's text TOLD by the authors' own Lean function (tested against real Go, not proved from fmt's source: count such statements apart). THE CARD IS WHAT COUNTS. Prove the row's statement (the work); the ties are given (YtjkbfogjfgnhiaaDoorTie.lean); close each card by the builder's one call (the guide's Derived/Test/ToyasCard.lean, 'card_holds'). Laid BY PROGRAM, IN A SANDBOX (cutbox-door.mjs). By AI agents, Wed Nov 11 2026. No macro, syntax, notation, axiom, sorry.
-/
import Derived.Test.YtjkbfogjfgnhiaaDoorRows
import GoSem.ClaimSeven
namespace Go.Proofs.YtjkbfogjfgnhiaaDoor
namespace Rows

/-- THE TIED CARD OF 'smartcardlaw14.AccessChecks'. -/
def accessChecksCard : Claim7 := { stood := { row := accessChecksRow, standIns := [], harness := (true, "892086cf916aa885515b7ca3daf4fbc8ed51535dbe737def5b823f89e4a34178"), looks := false }, kinds := [], alts := [], laidByText := true, laidKinds := [.data, .data, .data, .data], laidTests := true, laidLooks := .later }
def AccessChecksCardSaid : Prop := Claim7.holds Tryd.pinned (.plain (OpenSpec.ofChange accessChecksSpec)) accessChecksCard

/-- THE TIED CARD OF 'smartcardlaw14.AccessHolds'. -/
def accessHoldsCard : Claim7 := { stood := { row := accessHoldsRow, standIns := [], harness := (true, "892086cf916aa885515b7ca3daf4fbc8ed51535dbe737def5b823f89e4a34178"), looks := false }, kinds := [], alts := [], laidByText := true, laidKinds := [.data, .data, .data, .data], laidTests := true, laidLooks := .later }
def AccessHoldsCardSaid : Prop := Claim7.holds Tryd.pinned (.plain (OpenSpec.ofChange accessHoldsSpec)) accessHoldsCard

/-- THE TIED CARD OF 'smartcardlaw14.AccessAllows'. -/
def accessAllowsCard : Claim7 := { stood := { row := accessAllowsRow, standIns := [], harness := (true, "892086cf916aa885515b7ca3daf4fbc8ed51535dbe737def5b823f89e4a34178"), looks := false }, kinds := [], alts := [], laidByText := true, laidKinds := [.data, .data, .data, .data], laidTests := true, laidLooks := .later }
def AccessAllowsCardSaid : Prop := Claim7.holds Tryd.pinned (.plain (OpenSpec.ofChange accessAllowsSpec)) accessAllowsCard

/-- THE TIED CARD OF 'smartcardlaw14.AccessImplies'. -/
def accessImpliesCard : Claim7 := { stood := { row := accessImpliesRow, standIns := [], harness := (true, "892086cf916aa885515b7ca3daf4fbc8ed51535dbe737def5b823f89e4a34178"), looks := false }, kinds := [], alts := [], laidByText := true, laidKinds := [.data, .data, .data, .data], laidTests := true, laidLooks := .later }
def AccessImpliesCardSaid : Prop := Claim7.holds Tryd.pinned (.plain (OpenSpec.ofChange accessImpliesSpec)) accessImpliesCard

/-- THE TIED CARD OF 'smartcardlaw14.AccessSound'. -/
def accessSoundCard : Claim7 := { stood := { row := accessSoundRow, standIns := [], harness := (true, "892086cf916aa885515b7ca3daf4fbc8ed51535dbe737def5b823f89e4a34178"), looks := false }, kinds := [], alts := [], laidByText := true, laidKinds := [.data, .data, .data, .data], laidTests := true, laidLooks := .later }
def AccessSoundCardSaid : Prop := Claim7.holds Tryd.pinned (.plain (OpenSpec.ofChange accessSoundSpec)) accessSoundCard

/-- THE TIED CARD OF 'smartcardlaw14.AccessOrder'. -/
def accessOrderCard : Claim7 := { stood := { row := accessOrderRow, standIns := [], harness := (true, "892086cf916aa885515b7ca3daf4fbc8ed51535dbe737def5b823f89e4a34178"), looks := false }, kinds := [], alts := [], laidByText := true, laidKinds := [.data, .data, .data, .data], laidTests := true, laidLooks := .later }
def AccessOrderCardSaid : Prop := Claim7.holds Tryd.pinned (.plain (OpenSpec.ofChange accessOrderSpec)) accessOrderCard

/-- THE TIED CARD OF 'smartcardlaw14.AccessMore'. -/
def accessMoreCard : Claim7 := { stood := { row := accessMoreRow, standIns := [], harness := (true, "892086cf916aa885515b7ca3daf4fbc8ed51535dbe737def5b823f89e4a34178"), looks := false }, kinds := [], alts := [], laidByText := true, laidKinds := [.data, .data, .data, .data], laidTests := true, laidLooks := .later }
def AccessMoreCardSaid : Prop := Claim7.holds Tryd.pinned (.plain (OpenSpec.ofChange accessMoreSpec)) accessMoreCard

/-- THE TIED CARD OF 'smartcardlaw14.AccessEncodes'. -/
def accessEncodesCard : Claim7 := { stood := { row := accessEncodesRow, standIns := [], harness := (true, "892086cf916aa885515b7ca3daf4fbc8ed51535dbe737def5b823f89e4a34178"), looks := false }, kinds := [], alts := [], laidByText := true, laidKinds := [.data, .data, .data, .data], laidTests := true, laidLooks := .later }
def AccessEncodesCardSaid : Prop := Claim7.holds Tryd.pinned (.plain (OpenSpec.ofChange accessEncodesSpec)) accessEncodesCard

/-- THE TIED CARD OF 'smartcardlaw14.AccessDecodes'. -/
def accessDecodesCard : Claim7 := { stood := { row := accessDecodesRow, standIns := [], harness := (true, "892086cf916aa885515b7ca3daf4fbc8ed51535dbe737def5b823f89e4a34178"), looks := false }, kinds := [], alts := [], laidByText := true, laidKinds := [.data, .data, .data, .data], laidTests := true, laidLooks := .later }
def AccessDecodesCardSaid : Prop := Claim7.holds Tryd.pinned (.plain (OpenSpec.ofChange accessDecodesSpec)) accessDecodesCard

/-- THE TIED CARD OF 'smartcardlaw14.AccessCompares'. -/
def accessComparesCard : Claim7 := { stood := { row := accessComparesRow, standIns := [], harness := (true, "892086cf916aa885515b7ca3daf4fbc8ed51535dbe737def5b823f89e4a34178"), looks := false }, kinds := [], alts := [], laidByText := true, laidKinds := [.data, .data, .data, .data], laidTests := true, laidLooks := .later }
def AccessComparesCardSaid : Prop := Claim7.holds Tryd.pinned (.plain (OpenSpec.ofChange accessComparesSpec)) accessComparesCard

/-- THE TIED CARD OF 'smartcardlaw14.AccessShows'. -/
def accessShowsCard : Claim7 := { stood := { row := accessShowsRow, standIns := [], harness := (true, "892086cf916aa885515b7ca3daf4fbc8ed51535dbe737def5b823f89e4a34178"), looks := false }, kinds := [], alts := [], laidByText := true, laidKinds := [.data, .data, .data, .data], laidTests := true, laidLooks := .later }
def AccessShowsCardSaid : Prop := Claim7.holds Tryd.pinned (.plain (OpenSpec.ofChange accessShowsSpec)) accessShowsCard

/-- THE TIED CARD OF 'smartcardlaw14.AccessBack'. -/
def accessBackCard : Claim7 := { stood := { row := accessBackRow, standIns := [], harness := (true, "892086cf916aa885515b7ca3daf4fbc8ed51535dbe737def5b823f89e4a34178"), looks := false }, kinds := [], alts := [], laidByText := true, laidKinds := [.data, .data, .data, .data], laidTests := true, laidLooks := .later }
def AccessBackCardSaid : Prop := Claim7.holds Tryd.pinned (.plain (OpenSpec.ofChange accessBackSpec)) accessBackCard

/-- THE SECOND FORM's CARD OF 'smartcardlaw14.AccessChecks'. -/
def accessChecksUptoCard : Claim7 := { stood := { row := accessChecksUptoRow, standIns := [], harness := (true, "892086cf916aa885515b7ca3daf4fbc8ed51535dbe737def5b823f89e4a34178"), looks := false }, kinds := [], alts := [], laidByText := true, laidKinds := [.data, .data, .data, .data], laidTests := true, laidLooks := .later }
def AccessChecksUptoCardSaid : Prop := Claim7.holds Tryd.pinned (.plain (OpenSpec.upto accessChecksSpec)) accessChecksUptoCard

/-- THE SECOND FORM's CARD OF 'smartcardlaw14.AccessHolds'. -/
def accessHoldsUptoCard : Claim7 := { stood := { row := accessHoldsUptoRow, standIns := [], harness := (true, "892086cf916aa885515b7ca3daf4fbc8ed51535dbe737def5b823f89e4a34178"), looks := false }, kinds := [], alts := [], laidByText := true, laidKinds := [.data, .data, .data, .data], laidTests := true, laidLooks := .later }
def AccessHoldsUptoCardSaid : Prop := Claim7.holds Tryd.pinned (.plain (OpenSpec.upto accessHoldsSpec)) accessHoldsUptoCard

/-- THE SECOND FORM's CARD OF 'smartcardlaw14.AccessAllows'. -/
def accessAllowsUptoCard : Claim7 := { stood := { row := accessAllowsUptoRow, standIns := [], harness := (true, "892086cf916aa885515b7ca3daf4fbc8ed51535dbe737def5b823f89e4a34178"), looks := false }, kinds := [], alts := [], laidByText := true, laidKinds := [.data, .data, .data, .data], laidTests := true, laidLooks := .later }
def AccessAllowsUptoCardSaid : Prop := Claim7.holds Tryd.pinned (.plain (OpenSpec.upto accessAllowsSpec)) accessAllowsUptoCard

/-- THE SECOND FORM's CARD OF 'smartcardlaw14.AccessImplies'. -/
def accessImpliesUptoCard : Claim7 := { stood := { row := accessImpliesUptoRow, standIns := [], harness := (true, "892086cf916aa885515b7ca3daf4fbc8ed51535dbe737def5b823f89e4a34178"), looks := false }, kinds := [], alts := [], laidByText := true, laidKinds := [.data, .data, .data, .data], laidTests := true, laidLooks := .later }
def AccessImpliesUptoCardSaid : Prop := Claim7.holds Tryd.pinned (.plain (OpenSpec.upto accessImpliesSpec)) accessImpliesUptoCard

/-- THE SECOND FORM's CARD OF 'smartcardlaw14.AccessSound'. -/
def accessSoundUptoCard : Claim7 := { stood := { row := accessSoundUptoRow, standIns := [], harness := (true, "892086cf916aa885515b7ca3daf4fbc8ed51535dbe737def5b823f89e4a34178"), looks := false }, kinds := [], alts := [], laidByText := true, laidKinds := [.data, .data, .data, .data], laidTests := true, laidLooks := .later }
def AccessSoundUptoCardSaid : Prop := Claim7.holds Tryd.pinned (.plain (OpenSpec.upto accessSoundSpec)) accessSoundUptoCard

/-- THE SECOND FORM's CARD OF 'smartcardlaw14.AccessOrder'. -/
def accessOrderUptoCard : Claim7 := { stood := { row := accessOrderUptoRow, standIns := [], harness := (true, "892086cf916aa885515b7ca3daf4fbc8ed51535dbe737def5b823f89e4a34178"), looks := false }, kinds := [], alts := [], laidByText := true, laidKinds := [.data, .data, .data, .data], laidTests := true, laidLooks := .later }
def AccessOrderUptoCardSaid : Prop := Claim7.holds Tryd.pinned (.plain (OpenSpec.upto accessOrderSpec)) accessOrderUptoCard

/-- THE SECOND FORM's CARD OF 'smartcardlaw14.AccessMore'. -/
def accessMoreUptoCard : Claim7 := { stood := { row := accessMoreUptoRow, standIns := [], harness := (true, "892086cf916aa885515b7ca3daf4fbc8ed51535dbe737def5b823f89e4a34178"), looks := false }, kinds := [], alts := [], laidByText := true, laidKinds := [.data, .data, .data, .data], laidTests := true, laidLooks := .later }
def AccessMoreUptoCardSaid : Prop := Claim7.holds Tryd.pinned (.plain (OpenSpec.upto accessMoreSpec)) accessMoreUptoCard

/-- THE SECOND FORM's CARD OF 'smartcardlaw14.AccessEncodes'. -/
def accessEncodesUptoCard : Claim7 := { stood := { row := accessEncodesUptoRow, standIns := [], harness := (true, "892086cf916aa885515b7ca3daf4fbc8ed51535dbe737def5b823f89e4a34178"), looks := false }, kinds := [], alts := [], laidByText := true, laidKinds := [.data, .data, .data, .data], laidTests := true, laidLooks := .later }
def AccessEncodesUptoCardSaid : Prop := Claim7.holds Tryd.pinned (.plain (OpenSpec.upto accessEncodesSpec)) accessEncodesUptoCard

/-- THE SECOND FORM's CARD OF 'smartcardlaw14.AccessDecodes'. -/
def accessDecodesUptoCard : Claim7 := { stood := { row := accessDecodesUptoRow, standIns := [], harness := (true, "892086cf916aa885515b7ca3daf4fbc8ed51535dbe737def5b823f89e4a34178"), looks := false }, kinds := [], alts := [], laidByText := true, laidKinds := [.data, .data, .data, .data], laidTests := true, laidLooks := .later }
def AccessDecodesUptoCardSaid : Prop := Claim7.holds Tryd.pinned (.plain (OpenSpec.upto accessDecodesSpec)) accessDecodesUptoCard

/-- THE SECOND FORM's CARD OF 'smartcardlaw14.AccessCompares'. -/
def accessComparesUptoCard : Claim7 := { stood := { row := accessComparesUptoRow, standIns := [], harness := (true, "892086cf916aa885515b7ca3daf4fbc8ed51535dbe737def5b823f89e4a34178"), looks := false }, kinds := [], alts := [], laidByText := true, laidKinds := [.data, .data, .data, .data], laidTests := true, laidLooks := .later }
def AccessComparesUptoCardSaid : Prop := Claim7.holds Tryd.pinned (.plain (OpenSpec.upto accessComparesSpec)) accessComparesUptoCard

/-- THE SECOND FORM's CARD OF 'smartcardlaw14.AccessShows'. -/
def accessShowsUptoCard : Claim7 := { stood := { row := accessShowsUptoRow, standIns := [], harness := (true, "892086cf916aa885515b7ca3daf4fbc8ed51535dbe737def5b823f89e4a34178"), looks := false }, kinds := [], alts := [], laidByText := true, laidKinds := [.data, .data, .data, .data], laidTests := true, laidLooks := .later }
def AccessShowsUptoCardSaid : Prop := Claim7.holds Tryd.pinned (.plain (OpenSpec.upto accessShowsSpec)) accessShowsUptoCard

/-- THE SECOND FORM's CARD OF 'smartcardlaw14.AccessBack'. -/
def accessBackUptoCard : Claim7 := { stood := { row := accessBackUptoRow, standIns := [], harness := (true, "892086cf916aa885515b7ca3daf4fbc8ed51535dbe737def5b823f89e4a34178"), looks := false }, kinds := [], alts := [], laidByText := true, laidKinds := [.data, .data, .data, .data], laidTests := true, laidLooks := .later }
def AccessBackUptoCardSaid : Prop := Claim7.holds Tryd.pinned (.plain (OpenSpec.upto accessBackSpec)) accessBackUptoCard
end Rows
end Go.Proofs.YtjkbfogjfgnhiaaDoor
