/-
  NARROWER THAN 'FOR EVERY INPUT', by the rows' own cells (each row's printed sentence says how): EccEncodes: laid · EccDecodes: laid · EccCorrects: laid · EccPacks: laid · EccUnpacks: laid · EccRoundTrip: laid.
  DERIVED. THE GIVEN ROWS OF THIS SEAT. 6 by the template 'for every input the law returns true; each argument reads behind the call as it read before'; 0 by the template 'total and deterministic' (their statements: YtcojoohbhkhlnaaDoorTotals.lean).
  GIVEN WITH THE SEED: the statements are not yours to turn. If you find one false, say at which input.
  Laid BY PROGRAM, IN A SANDBOX (cutbox-rows.mjs): the forced cells as the released guide's own fill.sh prints them over the translation f23357ddcb103768… (all of the seat's roots in one cut). By AI agents, Wed Nov 11 2026. No macro, syntax, notation, axiom, sorry.
-/
import Derived.Test.YtcojoohbhkhlnaaDoorChecked
import GoSem.Claim
import GoSem.ClaimJoined
import GoSem.ClaimMapViews
import Derived.JoinedTies
import Derived.KernelRfl
namespace Go.Proofs.YtcojoohbhkhlnaaDoor
/- THE CELL 'sum', in the pinned program and in every row, IS THE sha256 OF THE DUMP (.gsa) THAT YtcojoohbhkhlnaaDoorProg.lean LOADS. Nothing in Lean hashes anything: it is a label: what it is worth is what the hold of that sum in a sandbox is worth. -/
noncomputable def Tryd.pinned : Pinned := { name := "ytcojoohbhkhlnaadoor", sum := "f23357ddcb10376858d9ecdc09bc1ed61d7230e3ccbcfc186fd062ada07208ed", checked := Tryd.checked }
namespace Rows
def none {H : Type} : Left H := { results := [], args := [] }

/- WHAT THE LISTED PACKAGE-LEVEL VARIABLES READ AS WHEN THE CALL BEGINS. Each datum BY PROGRAM (the guide's laid-datum.mjs) off the statement by which the dump's own 'gosem.cut.vars' lays the variable. In a bare row this is a premise. The card (YtcojoohbhkhlnaaDoorCards.lean) ties it to the program's text. -/
def laid_smartcard_ecc_places {H : Type} : DataW H := .agg [.lit (.int .i64 3), .lit (.int .i64 5), .lit (.int .i64 6), .lit (.int .i64 7), .lit (.int .i64 9), .lit (.int .i64 10), .lit (.int .i64 11), .lit (.int .i64 12), .lit (.int .i64 13), .lit (.int .i64 14), .lit (.int .i64 15), .lit (.int .i64 17), .lit (.int .i64 18), .lit (.int .i64 19), .lit (.int .i64 20), .lit (.int .i64 21), .lit (.int .i64 22), .lit (.int .i64 23), .lit (.int .i64 24), .lit (.int .i64 25), .lit (.int .i64 26), .lit (.int .i64 27), .lit (.int .i64 28), .lit (.int .i64 29)]
def laid_smartcard_ecc_groups {H : Type} : DataW H := .agg [.lit (.int .u32 2863311530), .lit (.int .u32 3435973836), .lit (.int .u32 4042322160), .lit (.int .u32 4278255360), .lit (.int .u32 4294901760), .lit (.int .u32 4294967295), .lit (.int .u32 1073741824), .lit (.int .u32 2147483648)]

/-- 'smartcardlaw10.EccEncodes': WHATEVER THE INPUT: true; the input reads as it did. -/
def eccEncodesSpec : ChangeSpec := { name := "eccEncodes", fn := fun _ => fun
  | [d] => { results := [.lit (.bool true)], args := [d] }
  | _ => none }
def eccEncodesRow : OpenClaim := { program := "ytcojoohbhkhlnaadoor", sum := "f23357ddcb10376858d9ecdc09bc1ed61d7230e3ccbcfc186fd062ada07208ed", func := "smartcard/smartcardlaw10.EccEncodes", spec := "eccEncodes", unfollowed := true, recurses := true, named := ["smartcard/ecc.places", "smartcard/ecc.groups"], apart := false, laid := [("smartcard/ecc.places", laid_smartcard_ecc_places), ("smartcard/ecc.groups", laid_smartcard_ecc_groups)] }
def EccEncodesSaid : Prop := eccEncodesRow.holds Tryd.pinned (OpenSpec.ofChange eccEncodesSpec)

/-- ITS FALSE NEIGHBOUR: 'it returns false'. Refute it at one input. -/
def eccEncodesWrong : ChangeSpec := { name := "eccEncodes", fn := fun _ => fun
  | [d] => { results := [.lit (.bool false)], args := [d] }
  | _ => none }
def EccEncodesWrongFalsely : Prop := eccEncodesRow.holds Tryd.pinned (OpenSpec.ofChange eccEncodesWrong)

/-- 'smartcardlaw10.EccDecodes': WHATEVER THE INPUT: true; the input reads as it did. -/
def eccDecodesSpec : ChangeSpec := { name := "eccDecodes", fn := fun _ => fun
  | [d] => { results := [.lit (.bool true)], args := [d] }
  | _ => none }
def eccDecodesRow : OpenClaim := { program := "ytcojoohbhkhlnaadoor", sum := "f23357ddcb10376858d9ecdc09bc1ed61d7230e3ccbcfc186fd062ada07208ed", func := "smartcard/smartcardlaw10.EccDecodes", spec := "eccDecodes", unfollowed := true, recurses := true, named := ["smartcard/ecc.groups", "smartcard/ecc.places"], apart := false, laid := [("smartcard/ecc.places", laid_smartcard_ecc_places), ("smartcard/ecc.groups", laid_smartcard_ecc_groups)] }
def EccDecodesSaid : Prop := eccDecodesRow.holds Tryd.pinned (OpenSpec.ofChange eccDecodesSpec)

/-- ITS FALSE NEIGHBOUR: 'it returns false'. Refute it at one input. -/
def eccDecodesWrong : ChangeSpec := { name := "eccDecodes", fn := fun _ => fun
  | [d] => { results := [.lit (.bool false)], args := [d] }
  | _ => none }
def EccDecodesWrongFalsely : Prop := eccDecodesRow.holds Tryd.pinned (OpenSpec.ofChange eccDecodesWrong)

/-- 'smartcardlaw10.EccCorrects': WHATEVER THE INPUT: true; the input reads as it did. -/
def eccCorrectsSpec : ChangeSpec := { name := "eccCorrects", fn := fun _ => fun
  | [d1, d2, d3] => { results := [.lit (.bool true)], args := [d1, d2, d3] }
  | _ => none }
def eccCorrectsRow : OpenClaim := { program := "ytcojoohbhkhlnaadoor", sum := "f23357ddcb10376858d9ecdc09bc1ed61d7230e3ccbcfc186fd062ada07208ed", func := "smartcard/smartcardlaw10.EccCorrects", spec := "eccCorrects", unfollowed := true, recurses := true, named := ["smartcard/ecc.places", "smartcard/ecc.groups"], apart := false, laid := [("smartcard/ecc.places", laid_smartcard_ecc_places), ("smartcard/ecc.groups", laid_smartcard_ecc_groups)] }
def EccCorrectsSaid : Prop := eccCorrectsRow.holds Tryd.pinned (OpenSpec.ofChange eccCorrectsSpec)

/-- ITS FALSE NEIGHBOUR: 'it returns false'. Refute it at one input. -/
def eccCorrectsWrong : ChangeSpec := { name := "eccCorrects", fn := fun _ => fun
  | [d1, d2, d3] => { results := [.lit (.bool false)], args := [d1, d2, d3] }
  | _ => none }
def EccCorrectsWrongFalsely : Prop := eccCorrectsRow.holds Tryd.pinned (OpenSpec.ofChange eccCorrectsWrong)

/-- 'smartcardlaw10.EccPacks': WHATEVER THE INPUT: true; the input reads as it did. -/
def eccPacksSpec : ChangeSpec := { name := "eccPacks", fn := fun _ => fun
  | [d1, d2] => { results := [.lit (.bool true)], args := [d1, d2] }
  | _ => none }
def eccPacksRow : OpenClaim := { program := "ytcojoohbhkhlnaadoor", sum := "f23357ddcb10376858d9ecdc09bc1ed61d7230e3ccbcfc186fd062ada07208ed", func := "smartcard/smartcardlaw10.EccPacks", spec := "eccPacks", unfollowed := true, recurses := true, named := ["smartcard/ecc.places", "smartcard/ecc.groups"], apart := false, laid := [("smartcard/ecc.places", laid_smartcard_ecc_places), ("smartcard/ecc.groups", laid_smartcard_ecc_groups)] }
def EccPacksSaid : Prop := eccPacksRow.holds Tryd.pinned (OpenSpec.ofChange eccPacksSpec)

/-- ITS FALSE NEIGHBOUR: 'it returns false'. Refute it at one input. -/
def eccPacksWrong : ChangeSpec := { name := "eccPacks", fn := fun _ => fun
  | [d1, d2] => { results := [.lit (.bool false)], args := [d1, d2] }
  | _ => none }
def EccPacksWrongFalsely : Prop := eccPacksRow.holds Tryd.pinned (OpenSpec.ofChange eccPacksWrong)

/-- 'smartcardlaw10.EccUnpacks': WHATEVER THE INPUT: true; the input reads as it did. -/
def eccUnpacksSpec : ChangeSpec := { name := "eccUnpacks", fn := fun _ => fun
  | [d1, d2] => { results := [.lit (.bool true)], args := [d1, d2] }
  | _ => none }
def eccUnpacksRow : OpenClaim := { program := "ytcojoohbhkhlnaadoor", sum := "f23357ddcb10376858d9ecdc09bc1ed61d7230e3ccbcfc186fd062ada07208ed", func := "smartcard/smartcardlaw10.EccUnpacks", spec := "eccUnpacks", unfollowed := true, recurses := true, named := ["smartcard/ecc.places", "smartcard/ecc.groups"], apart := false, laid := [("smartcard/ecc.places", laid_smartcard_ecc_places), ("smartcard/ecc.groups", laid_smartcard_ecc_groups)] }
def EccUnpacksSaid : Prop := eccUnpacksRow.holds Tryd.pinned (OpenSpec.ofChange eccUnpacksSpec)

/-- ITS FALSE NEIGHBOUR: 'it returns false'. Refute it at one input. -/
def eccUnpacksWrong : ChangeSpec := { name := "eccUnpacks", fn := fun _ => fun
  | [d1, d2] => { results := [.lit (.bool false)], args := [d1, d2] }
  | _ => none }
def EccUnpacksWrongFalsely : Prop := eccUnpacksRow.holds Tryd.pinned (OpenSpec.ofChange eccUnpacksWrong)

/-- 'smartcardlaw10.EccRoundTrip': WHATEVER THE INPUT: true; the input reads as it did. -/
def eccRoundTripSpec : ChangeSpec := { name := "eccRoundTrip", fn := fun _ => fun
  | [d1, d2] => { results := [.lit (.bool true)], args := [d1, d2] }
  | _ => none }
def eccRoundTripRow : OpenClaim := { program := "ytcojoohbhkhlnaadoor", sum := "f23357ddcb10376858d9ecdc09bc1ed61d7230e3ccbcfc186fd062ada07208ed", func := "smartcard/smartcardlaw10.EccRoundTrip", spec := "eccRoundTrip", unfollowed := true, recurses := true, named := ["smartcard/ecc.places", "smartcard/ecc.groups"], apart := false, laid := [("smartcard/ecc.places", laid_smartcard_ecc_places), ("smartcard/ecc.groups", laid_smartcard_ecc_groups)] }
def EccRoundTripSaid : Prop := eccRoundTripRow.holds Tryd.pinned (OpenSpec.ofChange eccRoundTripSpec)

/-- ITS FALSE NEIGHBOUR: 'it returns false'. Refute it at one input. -/
def eccRoundTripWrong : ChangeSpec := { name := "eccRoundTrip", fn := fun _ => fun
  | [d1, d2] => { results := [.lit (.bool false)], args := [d1, d2] }
  | _ => none }
def EccRoundTripWrongFalsely : Prop := eccRoundTripRow.holds Tryd.pinned (OpenSpec.ofChange eccRoundTripWrong)

/- THE SECOND FORM. 'bulk': how many values and letters a reading holds, each counted each time it is reached (what is shared counts as often as it is met; a slice's spare places count too). A statement '..UptoSaid' is the law's where the arguments, and the package variables that the reading takes, are together of bulk at most 1048576: NARROWER than '..Said'. Prove '..Said' where nothing that the law and all that it calls make is longer than what came in: it says more and counts as full. Else prove '..UptoSaid'. A law counts once. -/
mutual
def uptoBulk {H : Type} : DataW H → Nat
  | .lit (.string bytes) => bytes.length + 1
  | .lit _ => 1
  | .nil => 1
  | .ptr d => uptoBulk d + 1
  | .slice elems spare => uptoBulkAll elems + uptoBulkAll spare + 1
  | .agg parts => uptoBulkAll parts + 1
  | .iface _ d => uptoBulk d + 1
  | .map entries => uptoBulkEntries entries + 1
  | .held _ => 1
def uptoBulkAll {H : Type} : List (DataW H) → Nat
  | [] => 0
  | d :: r => uptoBulk d + uptoBulkAll r
def uptoBulkEntries {H : Type} : List (Lit × DataW H) → Nat
  | [] => 0
  | x :: r => uptoBulkEntry x + uptoBulkEntries r
def uptoBulkEntry {H : Type} : Lit × DataW H → Nat
  | (.string bytes, d) => bytes.length + uptoBulk d + 1
  | (_, d) => uptoBulk d + 1
 end
def uptoSmall : (H : Type) → List (DataW H) → Bool := fun _ ds => decide (uptoBulkAll ds ≤ 1048576)
def OpenSpec.upto (s : _root_.Go.ChangeSpec) : _root_.Go.OpenSpec := { _root_.Go.OpenSpec.ofChange s with cond := some uptoSmall }

/-- 'smartcardlaw10.EccEncodes', WHERE WHAT IT READS IS OF BULK AT MOST 1048576: true; the input reads as it did. -/
def eccEncodesUptoRow : OpenClaim := { program := "ytcojoohbhkhlnaadoor", sum := "f23357ddcb10376858d9ecdc09bc1ed61d7230e3ccbcfc186fd062ada07208ed", func := "smartcard/smartcardlaw10.EccEncodes", spec := "eccEncodes", unfollowed := true, recurses := true, named := ["smartcard/ecc.places", "smartcard/ecc.groups"], apart := false, laid := [("smartcard/ecc.places", laid_smartcard_ecc_places), ("smartcard/ecc.groups", laid_smartcard_ecc_groups)], narrowed := true }
def EccEncodesUptoSaid : Prop := eccEncodesUptoRow.holds Tryd.pinned (OpenSpec.upto eccEncodesSpec)

/-- 'smartcardlaw10.EccDecodes', WHERE WHAT IT READS IS OF BULK AT MOST 1048576: true; the input reads as it did. -/
def eccDecodesUptoRow : OpenClaim := { program := "ytcojoohbhkhlnaadoor", sum := "f23357ddcb10376858d9ecdc09bc1ed61d7230e3ccbcfc186fd062ada07208ed", func := "smartcard/smartcardlaw10.EccDecodes", spec := "eccDecodes", unfollowed := true, recurses := true, named := ["smartcard/ecc.groups", "smartcard/ecc.places"], apart := false, laid := [("smartcard/ecc.places", laid_smartcard_ecc_places), ("smartcard/ecc.groups", laid_smartcard_ecc_groups)], narrowed := true }
def EccDecodesUptoSaid : Prop := eccDecodesUptoRow.holds Tryd.pinned (OpenSpec.upto eccDecodesSpec)

/-- 'smartcardlaw10.EccCorrects', WHERE WHAT IT READS IS OF BULK AT MOST 1048576: true; the input reads as it did. -/
def eccCorrectsUptoRow : OpenClaim := { program := "ytcojoohbhkhlnaadoor", sum := "f23357ddcb10376858d9ecdc09bc1ed61d7230e3ccbcfc186fd062ada07208ed", func := "smartcard/smartcardlaw10.EccCorrects", spec := "eccCorrects", unfollowed := true, recurses := true, named := ["smartcard/ecc.places", "smartcard/ecc.groups"], apart := false, laid := [("smartcard/ecc.places", laid_smartcard_ecc_places), ("smartcard/ecc.groups", laid_smartcard_ecc_groups)], narrowed := true }
def EccCorrectsUptoSaid : Prop := eccCorrectsUptoRow.holds Tryd.pinned (OpenSpec.upto eccCorrectsSpec)

/-- 'smartcardlaw10.EccPacks', WHERE WHAT IT READS IS OF BULK AT MOST 1048576: true; the input reads as it did. -/
def eccPacksUptoRow : OpenClaim := { program := "ytcojoohbhkhlnaadoor", sum := "f23357ddcb10376858d9ecdc09bc1ed61d7230e3ccbcfc186fd062ada07208ed", func := "smartcard/smartcardlaw10.EccPacks", spec := "eccPacks", unfollowed := true, recurses := true, named := ["smartcard/ecc.places", "smartcard/ecc.groups"], apart := false, laid := [("smartcard/ecc.places", laid_smartcard_ecc_places), ("smartcard/ecc.groups", laid_smartcard_ecc_groups)], narrowed := true }
def EccPacksUptoSaid : Prop := eccPacksUptoRow.holds Tryd.pinned (OpenSpec.upto eccPacksSpec)

/-- 'smartcardlaw10.EccUnpacks', WHERE WHAT IT READS IS OF BULK AT MOST 1048576: true; the input reads as it did. -/
def eccUnpacksUptoRow : OpenClaim := { program := "ytcojoohbhkhlnaadoor", sum := "f23357ddcb10376858d9ecdc09bc1ed61d7230e3ccbcfc186fd062ada07208ed", func := "smartcard/smartcardlaw10.EccUnpacks", spec := "eccUnpacks", unfollowed := true, recurses := true, named := ["smartcard/ecc.places", "smartcard/ecc.groups"], apart := false, laid := [("smartcard/ecc.places", laid_smartcard_ecc_places), ("smartcard/ecc.groups", laid_smartcard_ecc_groups)], narrowed := true }
def EccUnpacksUptoSaid : Prop := eccUnpacksUptoRow.holds Tryd.pinned (OpenSpec.upto eccUnpacksSpec)

/-- 'smartcardlaw10.EccRoundTrip', WHERE WHAT IT READS IS OF BULK AT MOST 1048576: true; the input reads as it did. -/
def eccRoundTripUptoRow : OpenClaim := { program := "ytcojoohbhkhlnaadoor", sum := "f23357ddcb10376858d9ecdc09bc1ed61d7230e3ccbcfc186fd062ada07208ed", func := "smartcard/smartcardlaw10.EccRoundTrip", spec := "eccRoundTrip", unfollowed := true, recurses := true, named := ["smartcard/ecc.places", "smartcard/ecc.groups"], apart := false, laid := [("smartcard/ecc.places", laid_smartcard_ecc_places), ("smartcard/ecc.groups", laid_smartcard_ecc_groups)], narrowed := true }
def EccRoundTripUptoSaid : Prop := eccRoundTripUptoRow.holds Tryd.pinned (OpenSpec.upto eccRoundTripSpec)

end Rows
end Go.Proofs.YtcojoohbhkhlnaaDoor
