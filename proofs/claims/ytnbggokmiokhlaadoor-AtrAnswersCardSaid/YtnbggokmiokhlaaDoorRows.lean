/-
  NARROWER THAN 'FOR EVERY INPUT', by the rows' own cells (each row's printed sentence says how): AtrEncodes: laid · AtrDecodes: laid · AtrReads: laid · AtrRequests: laid · AtrAnswers: laid · AtrAccepts: laid · AtrCompares: laid · AtrBack: laid · AtrAgrees: laid · BlockChecks: laid · BlockEncodes: laid · BlockDecodes: laid · BlockSame: laid · BlockTexts: laid · BlockRoundTrip: laid · BlockDamage: laid.
  DERIVED. THE GIVEN ROWS OF THIS SEAT. 16 by the template 'for every input the law returns true; each argument reads behind the call as it read before'; 0 by the template 'total and deterministic' (their statements: YtnbggokmiokhlaaDoorTotals.lean).
  GIVEN WITH THE SEED: the statements are not yours to turn. If you find one false, say at which input.
  Laid BY PROGRAM, IN A SANDBOX (cutbox-rows.mjs): the forced cells as the released guide's own fill.sh prints them over the translation cebcb34b008a13e5… (all of the seat's roots in one cut). By AI agents, Wed Nov 11 2026. No macro, syntax, notation, axiom, sorry.
-/
import Derived.Test.YtnbggokmiokhlaaDoorChecked
import GoSem.Claim
import GoSem.ClaimJoined
import GoSem.ClaimMapViews
import Derived.JoinedTies
import Derived.KernelRfl
namespace Go.Proofs.YtnbggokmiokhlaaDoor
/- THE CELL 'sum', in the pinned program and in every row, IS THE sha256 OF THE DUMP (.gsa) THAT YtnbggokmiokhlaaDoorProg.lean LOADS. Nothing in Lean hashes anything: it is a label: what it is worth is what the hold of that sum in a sandbox is worth. -/
noncomputable def Tryd.pinned : Pinned := { name := "ytnbggokmiokhlaadoor", sum := "cebcb34b008a13e5e5285ff55eeec0f0225681b40cacae87e8e9c16cfae218ad", checked := Tryd.checked }
namespace Rows
def none {H : Type} : Left H := { results := [], args := [] }

/- WHAT THE LISTED PACKAGE-LEVEL VARIABLES READ AS WHEN THE CALL BEGINS. Each datum BY PROGRAM (the guide's laid-datum.mjs) off the statement by which the dump's own 'gosem.cut.vars' lays the variable. In a bare row this is a premise. The card (YtnbggokmiokhlaaDoorCards.lean) ties it to the program's text. -/
def laid_smartcard_check_shifted {H : Type} : DataW H := .agg [.lit (.int .u16 0), .lit (.int .u16 4225), .lit (.int .u16 8450), .lit (.int .u16 12675), .lit (.int .u16 16900), .lit (.int .u16 21125), .lit (.int .u16 25350), .lit (.int .u16 29575), .lit (.int .u16 33800), .lit (.int .u16 38025), .lit (.int .u16 42250), .lit (.int .u16 46475), .lit (.int .u16 50700), .lit (.int .u16 54925), .lit (.int .u16 59150), .lit (.int .u16 63375)]

/-- 'smartcardlaw05.AtrEncodes': WHATEVER THE INPUT: true; the input reads as it did. -/
def atrEncodesSpec : ChangeSpec := { name := "atrEncodes", fn := fun _ => fun
  | [d] => { results := [.lit (.bool true)], args := [d] }
  | _ => none }
def atrEncodesRow : OpenClaim := { program := "ytnbggokmiokhlaadoor", sum := "cebcb34b008a13e5e5285ff55eeec0f0225681b40cacae87e8e9c16cfae218ad", func := "smartcard/smartcardlaw05.AtrEncodes", spec := "atrEncodes", inPlace := ["internal/bytealg.MakeNoZero"], unfollowed := true, recurses := true, named := ["smartcard/check.shifted"], apart := false, laid := [("smartcard/check.shifted", laid_smartcard_check_shifted)] }
def AtrEncodesSaid : Prop := atrEncodesRow.holds Tryd.pinned (OpenSpec.ofChange atrEncodesSpec)

/-- ITS FALSE NEIGHBOUR: 'it returns false'. Refute it at one input. -/
def atrEncodesWrong : ChangeSpec := { name := "atrEncodes", fn := fun _ => fun
  | [d] => { results := [.lit (.bool false)], args := [d] }
  | _ => none }
def AtrEncodesWrongFalsely : Prop := atrEncodesRow.holds Tryd.pinned (OpenSpec.ofChange atrEncodesWrong)

/-- 'smartcardlaw05.AtrDecodes': WHATEVER THE INPUT: true; the input reads as it did. -/
def atrDecodesSpec : ChangeSpec := { name := "atrDecodes", fn := fun _ => fun
  | [d] => { results := [.lit (.bool true)], args := [d] }
  | _ => none }
def atrDecodesRow : OpenClaim := { program := "ytnbggokmiokhlaadoor", sum := "cebcb34b008a13e5e5285ff55eeec0f0225681b40cacae87e8e9c16cfae218ad", func := "smartcard/smartcardlaw05.AtrDecodes", spec := "atrDecodes", inPlace := ["internal/bytealg.MakeNoZero"], unfollowed := true, recurses := true, named := ["smartcard/check.shifted"], apart := false, laid := [("smartcard/check.shifted", laid_smartcard_check_shifted)] }
def AtrDecodesSaid : Prop := atrDecodesRow.holds Tryd.pinned (OpenSpec.ofChange atrDecodesSpec)

/-- ITS FALSE NEIGHBOUR: 'it returns false'. Refute it at one input. -/
def atrDecodesWrong : ChangeSpec := { name := "atrDecodes", fn := fun _ => fun
  | [d] => { results := [.lit (.bool false)], args := [d] }
  | _ => none }
def AtrDecodesWrongFalsely : Prop := atrDecodesRow.holds Tryd.pinned (OpenSpec.ofChange atrDecodesWrong)

/-- 'smartcardlaw05.AtrReads': WHATEVER THE INPUT: true; the input reads as it did. -/
def atrReadsSpec : ChangeSpec := { name := "atrReads", fn := fun _ => fun
  | [d] => { results := [.lit (.bool true)], args := [d] }
  | _ => none }
def atrReadsRow : OpenClaim := { program := "ytnbggokmiokhlaadoor", sum := "cebcb34b008a13e5e5285ff55eeec0f0225681b40cacae87e8e9c16cfae218ad", func := "smartcard/smartcardlaw05.AtrReads", spec := "atrReads", inPlace := ["internal/bytealg.MakeNoZero"], unfollowed := true, recurses := true, named := ["smartcard/check.shifted"], apart := false, laid := [("smartcard/check.shifted", laid_smartcard_check_shifted)] }
def AtrReadsSaid : Prop := atrReadsRow.holds Tryd.pinned (OpenSpec.ofChange atrReadsSpec)

/-- ITS FALSE NEIGHBOUR: 'it returns false'. Refute it at one input. -/
def atrReadsWrong : ChangeSpec := { name := "atrReads", fn := fun _ => fun
  | [d] => { results := [.lit (.bool false)], args := [d] }
  | _ => none }
def AtrReadsWrongFalsely : Prop := atrReadsRow.holds Tryd.pinned (OpenSpec.ofChange atrReadsWrong)

/-- 'smartcardlaw05.AtrRequests': WHATEVER THE INPUT: true; the input reads as it did. -/
def atrRequestsSpec : ChangeSpec := { name := "atrRequests", fn := fun _ => fun
  | [d] => { results := [.lit (.bool true)], args := [d] }
  | _ => none }
def atrRequestsRow : OpenClaim := { program := "ytnbggokmiokhlaadoor", sum := "cebcb34b008a13e5e5285ff55eeec0f0225681b40cacae87e8e9c16cfae218ad", func := "smartcard/smartcardlaw05.AtrRequests", spec := "atrRequests", inPlace := ["internal/bytealg.MakeNoZero"], unfollowed := true, recurses := true, named := ["smartcard/check.shifted"], apart := false, laid := [("smartcard/check.shifted", laid_smartcard_check_shifted)] }
def AtrRequestsSaid : Prop := atrRequestsRow.holds Tryd.pinned (OpenSpec.ofChange atrRequestsSpec)

/-- ITS FALSE NEIGHBOUR: 'it returns false'. Refute it at one input. -/
def atrRequestsWrong : ChangeSpec := { name := "atrRequests", fn := fun _ => fun
  | [d] => { results := [.lit (.bool false)], args := [d] }
  | _ => none }
def AtrRequestsWrongFalsely : Prop := atrRequestsRow.holds Tryd.pinned (OpenSpec.ofChange atrRequestsWrong)

/-- 'smartcardlaw05.AtrAnswers': WHATEVER THE INPUT: true; the input reads as it did. -/
def atrAnswersSpec : ChangeSpec := { name := "atrAnswers", fn := fun _ => fun
  | [d1, d2] => { results := [.lit (.bool true)], args := [d1, d2] }
  | _ => none }
def atrAnswersRow : OpenClaim := { program := "ytnbggokmiokhlaadoor", sum := "cebcb34b008a13e5e5285ff55eeec0f0225681b40cacae87e8e9c16cfae218ad", func := "smartcard/smartcardlaw05.AtrAnswers", spec := "atrAnswers", inPlace := ["internal/bytealg.MakeNoZero"], unfollowed := true, recurses := true, named := ["smartcard/check.shifted"], apart := false, laid := [("smartcard/check.shifted", laid_smartcard_check_shifted)] }
def AtrAnswersSaid : Prop := atrAnswersRow.holds Tryd.pinned (OpenSpec.ofChange atrAnswersSpec)

/-- ITS FALSE NEIGHBOUR: 'it returns false'. Refute it at one input. -/
def atrAnswersWrong : ChangeSpec := { name := "atrAnswers", fn := fun _ => fun
  | [d1, d2] => { results := [.lit (.bool false)], args := [d1, d2] }
  | _ => none }
def AtrAnswersWrongFalsely : Prop := atrAnswersRow.holds Tryd.pinned (OpenSpec.ofChange atrAnswersWrong)

/-- 'smartcardlaw05.AtrAccepts': WHATEVER THE INPUT: true; the input reads as it did. -/
def atrAcceptsSpec : ChangeSpec := { name := "atrAccepts", fn := fun _ => fun
  | [d1, d2] => { results := [.lit (.bool true)], args := [d1, d2] }
  | _ => none }
def atrAcceptsRow : OpenClaim := { program := "ytnbggokmiokhlaadoor", sum := "cebcb34b008a13e5e5285ff55eeec0f0225681b40cacae87e8e9c16cfae218ad", func := "smartcard/smartcardlaw05.AtrAccepts", spec := "atrAccepts", inPlace := ["internal/bytealg.MakeNoZero"], unfollowed := true, recurses := true, named := ["smartcard/check.shifted"], apart := false, laid := [("smartcard/check.shifted", laid_smartcard_check_shifted)] }
def AtrAcceptsSaid : Prop := atrAcceptsRow.holds Tryd.pinned (OpenSpec.ofChange atrAcceptsSpec)

/-- ITS FALSE NEIGHBOUR: 'it returns false'. Refute it at one input. -/
def atrAcceptsWrong : ChangeSpec := { name := "atrAccepts", fn := fun _ => fun
  | [d1, d2] => { results := [.lit (.bool false)], args := [d1, d2] }
  | _ => none }
def AtrAcceptsWrongFalsely : Prop := atrAcceptsRow.holds Tryd.pinned (OpenSpec.ofChange atrAcceptsWrong)

/-- 'smartcardlaw05.AtrCompares': WHATEVER THE INPUT: true; the input reads as it did. -/
def atrComparesSpec : ChangeSpec := { name := "atrCompares", fn := fun _ => fun
  | [d1, d2] => { results := [.lit (.bool true)], args := [d1, d2] }
  | _ => none }
def atrComparesRow : OpenClaim := { program := "ytnbggokmiokhlaadoor", sum := "cebcb34b008a13e5e5285ff55eeec0f0225681b40cacae87e8e9c16cfae218ad", func := "smartcard/smartcardlaw05.AtrCompares", spec := "atrCompares", inPlace := ["internal/bytealg.MakeNoZero"], unfollowed := true, recurses := true, named := ["smartcard/check.shifted"], apart := false, laid := [("smartcard/check.shifted", laid_smartcard_check_shifted)] }
def AtrComparesSaid : Prop := atrComparesRow.holds Tryd.pinned (OpenSpec.ofChange atrComparesSpec)

/-- ITS FALSE NEIGHBOUR: 'it returns false'. Refute it at one input. -/
def atrComparesWrong : ChangeSpec := { name := "atrCompares", fn := fun _ => fun
  | [d1, d2] => { results := [.lit (.bool false)], args := [d1, d2] }
  | _ => none }
def AtrComparesWrongFalsely : Prop := atrComparesRow.holds Tryd.pinned (OpenSpec.ofChange atrComparesWrong)

/-- 'smartcardlaw05.AtrBack': WHATEVER THE INPUT: true; the input reads as it did. -/
def atrBackSpec : ChangeSpec := { name := "atrBack", fn := fun _ => fun
  | [d1, d2] => { results := [.lit (.bool true)], args := [d1, d2] }
  | _ => none }
def atrBackRow : OpenClaim := { program := "ytnbggokmiokhlaadoor", sum := "cebcb34b008a13e5e5285ff55eeec0f0225681b40cacae87e8e9c16cfae218ad", func := "smartcard/smartcardlaw05.AtrBack", spec := "atrBack", inPlace := ["internal/bytealg.MakeNoZero"], unfollowed := true, recurses := true, named := ["smartcard/check.shifted"], apart := false, laid := [("smartcard/check.shifted", laid_smartcard_check_shifted)] }
def AtrBackSaid : Prop := atrBackRow.holds Tryd.pinned (OpenSpec.ofChange atrBackSpec)

/-- ITS FALSE NEIGHBOUR: 'it returns false'. Refute it at one input. -/
def atrBackWrong : ChangeSpec := { name := "atrBack", fn := fun _ => fun
  | [d1, d2] => { results := [.lit (.bool false)], args := [d1, d2] }
  | _ => none }
def AtrBackWrongFalsely : Prop := atrBackRow.holds Tryd.pinned (OpenSpec.ofChange atrBackWrong)

/-- 'smartcardlaw05.AtrAgrees': WHATEVER THE INPUT: true; the input reads as it did. -/
def atrAgreesSpec : ChangeSpec := { name := "atrAgrees", fn := fun _ => fun
  | [d1, d2] => { results := [.lit (.bool true)], args := [d1, d2] }
  | _ => none }
def atrAgreesRow : OpenClaim := { program := "ytnbggokmiokhlaadoor", sum := "cebcb34b008a13e5e5285ff55eeec0f0225681b40cacae87e8e9c16cfae218ad", func := "smartcard/smartcardlaw05.AtrAgrees", spec := "atrAgrees", inPlace := ["internal/bytealg.MakeNoZero"], unfollowed := true, recurses := true, named := ["smartcard/check.shifted"], apart := false, laid := [("smartcard/check.shifted", laid_smartcard_check_shifted)] }
def AtrAgreesSaid : Prop := atrAgreesRow.holds Tryd.pinned (OpenSpec.ofChange atrAgreesSpec)

/-- ITS FALSE NEIGHBOUR: 'it returns false'. Refute it at one input. -/
def atrAgreesWrong : ChangeSpec := { name := "atrAgrees", fn := fun _ => fun
  | [d1, d2] => { results := [.lit (.bool false)], args := [d1, d2] }
  | _ => none }
def AtrAgreesWrongFalsely : Prop := atrAgreesRow.holds Tryd.pinned (OpenSpec.ofChange atrAgreesWrong)

/-- 'smartcardlaw06.BlockChecks': WHATEVER THE INPUT: true; the input reads as it did. -/
def blockChecksSpec : ChangeSpec := { name := "blockChecks", fn := fun _ => fun
  | [d] => { results := [.lit (.bool true)], args := [d] }
  | _ => none }
def blockChecksRow : OpenClaim := { program := "ytnbggokmiokhlaadoor", sum := "cebcb34b008a13e5e5285ff55eeec0f0225681b40cacae87e8e9c16cfae218ad", func := "smartcard/smartcardlaw06.BlockChecks", spec := "blockChecks", inPlace := ["internal/bytealg.MakeNoZero"], unfollowed := true, recurses := true, named := ["smartcard/check.shifted"], apart := false, laid := [("smartcard/check.shifted", laid_smartcard_check_shifted)] }
def BlockChecksSaid : Prop := blockChecksRow.holds Tryd.pinned (OpenSpec.ofChange blockChecksSpec)

/-- ITS FALSE NEIGHBOUR: 'it returns false'. Refute it at one input. -/
def blockChecksWrong : ChangeSpec := { name := "blockChecks", fn := fun _ => fun
  | [d] => { results := [.lit (.bool false)], args := [d] }
  | _ => none }
def BlockChecksWrongFalsely : Prop := blockChecksRow.holds Tryd.pinned (OpenSpec.ofChange blockChecksWrong)

/-- 'smartcardlaw06.BlockEncodes': WHATEVER THE INPUT: true; the input reads as it did. -/
def blockEncodesSpec : ChangeSpec := { name := "blockEncodes", fn := fun _ => fun
  | [d1, d2] => { results := [.lit (.bool true)], args := [d1, d2] }
  | _ => none }
def blockEncodesRow : OpenClaim := { program := "ytnbggokmiokhlaadoor", sum := "cebcb34b008a13e5e5285ff55eeec0f0225681b40cacae87e8e9c16cfae218ad", func := "smartcard/smartcardlaw06.BlockEncodes", spec := "blockEncodes", inPlace := ["internal/bytealg.MakeNoZero"], unfollowed := true, recurses := true, named := ["smartcard/check.shifted"], apart := false, laid := [("smartcard/check.shifted", laid_smartcard_check_shifted)] }
def BlockEncodesSaid : Prop := blockEncodesRow.holds Tryd.pinned (OpenSpec.ofChange blockEncodesSpec)

/-- ITS FALSE NEIGHBOUR: 'it returns false'. Refute it at one input. -/
def blockEncodesWrong : ChangeSpec := { name := "blockEncodes", fn := fun _ => fun
  | [d1, d2] => { results := [.lit (.bool false)], args := [d1, d2] }
  | _ => none }
def BlockEncodesWrongFalsely : Prop := blockEncodesRow.holds Tryd.pinned (OpenSpec.ofChange blockEncodesWrong)

/-- 'smartcardlaw06.BlockDecodes': WHATEVER THE INPUT: true; the input reads as it did. -/
def blockDecodesSpec : ChangeSpec := { name := "blockDecodes", fn := fun _ => fun
  | [d1, d2] => { results := [.lit (.bool true)], args := [d1, d2] }
  | _ => none }
def blockDecodesRow : OpenClaim := { program := "ytnbggokmiokhlaadoor", sum := "cebcb34b008a13e5e5285ff55eeec0f0225681b40cacae87e8e9c16cfae218ad", func := "smartcard/smartcardlaw06.BlockDecodes", spec := "blockDecodes", inPlace := ["internal/bytealg.MakeNoZero"], unfollowed := true, recurses := true, named := ["smartcard/check.shifted"], apart := false, laid := [("smartcard/check.shifted", laid_smartcard_check_shifted)] }
def BlockDecodesSaid : Prop := blockDecodesRow.holds Tryd.pinned (OpenSpec.ofChange blockDecodesSpec)

/-- ITS FALSE NEIGHBOUR: 'it returns false'. Refute it at one input. -/
def blockDecodesWrong : ChangeSpec := { name := "blockDecodes", fn := fun _ => fun
  | [d1, d2] => { results := [.lit (.bool false)], args := [d1, d2] }
  | _ => none }
def BlockDecodesWrongFalsely : Prop := blockDecodesRow.holds Tryd.pinned (OpenSpec.ofChange blockDecodesWrong)

/-- 'smartcardlaw06.BlockSame': WHATEVER THE INPUT: true; the input reads as it did. -/
def blockSameSpec : ChangeSpec := { name := "blockSame", fn := fun _ => fun
  | [d1, d2] => { results := [.lit (.bool true)], args := [d1, d2] }
  | _ => none }
def blockSameRow : OpenClaim := { program := "ytnbggokmiokhlaadoor", sum := "cebcb34b008a13e5e5285ff55eeec0f0225681b40cacae87e8e9c16cfae218ad", func := "smartcard/smartcardlaw06.BlockSame", spec := "blockSame", inPlace := ["internal/bytealg.MakeNoZero"], unfollowed := true, recurses := true, named := ["smartcard/check.shifted"], apart := false, laid := [("smartcard/check.shifted", laid_smartcard_check_shifted)] }
def BlockSameSaid : Prop := blockSameRow.holds Tryd.pinned (OpenSpec.ofChange blockSameSpec)

/-- ITS FALSE NEIGHBOUR: 'it returns false'. Refute it at one input. -/
def blockSameWrong : ChangeSpec := { name := "blockSame", fn := fun _ => fun
  | [d1, d2] => { results := [.lit (.bool false)], args := [d1, d2] }
  | _ => none }
def BlockSameWrongFalsely : Prop := blockSameRow.holds Tryd.pinned (OpenSpec.ofChange blockSameWrong)

/-- 'smartcardlaw06.BlockTexts': WHATEVER THE INPUT: true; the input reads as it did. -/
def blockTextsSpec : ChangeSpec := { name := "blockTexts", fn := fun _ => fun
  | [d1, d2] => { results := [.lit (.bool true)], args := [d1, d2] }
  | _ => none }
def blockTextsRow : OpenClaim := { program := "ytnbggokmiokhlaadoor", sum := "cebcb34b008a13e5e5285ff55eeec0f0225681b40cacae87e8e9c16cfae218ad", func := "smartcard/smartcardlaw06.BlockTexts", spec := "blockTexts", inPlace := ["internal/bytealg.MakeNoZero"], unfollowed := true, recurses := true, named := ["smartcard/check.shifted"], apart := false, laid := [("smartcard/check.shifted", laid_smartcard_check_shifted)] }
def BlockTextsSaid : Prop := blockTextsRow.holds Tryd.pinned (OpenSpec.ofChange blockTextsSpec)

/-- ITS FALSE NEIGHBOUR: 'it returns false'. Refute it at one input. -/
def blockTextsWrong : ChangeSpec := { name := "blockTexts", fn := fun _ => fun
  | [d1, d2] => { results := [.lit (.bool false)], args := [d1, d2] }
  | _ => none }
def BlockTextsWrongFalsely : Prop := blockTextsRow.holds Tryd.pinned (OpenSpec.ofChange blockTextsWrong)

/-- 'smartcardlaw06.BlockRoundTrip': WHATEVER THE INPUT: true; the input reads as it did. -/
def blockRoundTripSpec : ChangeSpec := { name := "blockRoundTrip", fn := fun _ => fun
  | [d1, d2, d3] => { results := [.lit (.bool true)], args := [d1, d2, d3] }
  | _ => none }
def blockRoundTripRow : OpenClaim := { program := "ytnbggokmiokhlaadoor", sum := "cebcb34b008a13e5e5285ff55eeec0f0225681b40cacae87e8e9c16cfae218ad", func := "smartcard/smartcardlaw06.BlockRoundTrip", spec := "blockRoundTrip", inPlace := ["internal/bytealg.MakeNoZero"], unfollowed := true, recurses := true, named := ["smartcard/check.shifted"], apart := false, laid := [("smartcard/check.shifted", laid_smartcard_check_shifted)] }
def BlockRoundTripSaid : Prop := blockRoundTripRow.holds Tryd.pinned (OpenSpec.ofChange blockRoundTripSpec)

/-- ITS FALSE NEIGHBOUR: 'it returns false'. Refute it at one input. -/
def blockRoundTripWrong : ChangeSpec := { name := "blockRoundTrip", fn := fun _ => fun
  | [d1, d2, d3] => { results := [.lit (.bool false)], args := [d1, d2, d3] }
  | _ => none }
def BlockRoundTripWrongFalsely : Prop := blockRoundTripRow.holds Tryd.pinned (OpenSpec.ofChange blockRoundTripWrong)

/-- 'smartcardlaw06.BlockDamage': WHATEVER THE INPUT: true; the input reads as it did. -/
def blockDamageSpec : ChangeSpec := { name := "blockDamage", fn := fun _ => fun
  | [d1, d2, d3] => { results := [.lit (.bool true)], args := [d1, d2, d3] }
  | _ => none }
def blockDamageRow : OpenClaim := { program := "ytnbggokmiokhlaadoor", sum := "cebcb34b008a13e5e5285ff55eeec0f0225681b40cacae87e8e9c16cfae218ad", func := "smartcard/smartcardlaw06.BlockDamage", spec := "blockDamage", inPlace := ["internal/bytealg.MakeNoZero"], unfollowed := true, recurses := true, named := ["smartcard/check.shifted"], apart := false, laid := [("smartcard/check.shifted", laid_smartcard_check_shifted)] }
def BlockDamageSaid : Prop := blockDamageRow.holds Tryd.pinned (OpenSpec.ofChange blockDamageSpec)

/-- ITS FALSE NEIGHBOUR: 'it returns false'. Refute it at one input. -/
def blockDamageWrong : ChangeSpec := { name := "blockDamage", fn := fun _ => fun
  | [d1, d2, d3] => { results := [.lit (.bool false)], args := [d1, d2, d3] }
  | _ => none }
def BlockDamageWrongFalsely : Prop := blockDamageRow.holds Tryd.pinned (OpenSpec.ofChange blockDamageWrong)

/- THE SECOND FORM. 'bulk': how many values and letters a reading holds, each counted each time it is reached (what is shared counts as often as it is met; a slice's spare places count too). A statement '..UptoSaid' is the law's where the arguments, and the package variables that the reading takes, are together of bulk at most 1048576: NARROWER than '..Said'. Prove '..Said' where nothing that the law and all that it calls make is longer than what came in: it says more and counts as full. Else prove '..UptoSaid'. A law counts once. -/
mutual
def uptoBulk {H : Type} : DataW H → Nat
  | .lit (.string bytes) => bytes.length + 1
  | .lit _ => 1
  | .nil => 1
  | .ptr d => uptoBulk d + 1
  | .slice elems spare => uptoBulkAll elems + uptoBulkAll spare + 1
  | .agg parts => uptoBulkAll parts + 1
  | .iface _ d => uptoBulk d + 1
  | .map entries => uptoBulkEntries entries + 1
  | .held _ => 1
def uptoBulkAll {H : Type} : List (DataW H) → Nat
  | [] => 0
  | d :: r => uptoBulk d + uptoBulkAll r
def uptoBulkEntries {H : Type} : List (Lit × DataW H) → Nat
  | [] => 0
  | x :: r => uptoBulkEntry x + uptoBulkEntries r
def uptoBulkEntry {H : Type} : Lit × DataW H → Nat
  | (.string bytes, d) => bytes.length + uptoBulk d + 1
  | (_, d) => uptoBulk d + 1
 end
def uptoSmall : (H : Type) → List (DataW H) → Bool := fun _ ds => decide (uptoBulkAll ds ≤ 1048576)
def OpenSpec.upto (s : _root_.Go.ChangeSpec) : _root_.Go.OpenSpec := { _root_.Go.OpenSpec.ofChange s with cond := some uptoSmall }

/-- 'smartcardlaw05.AtrEncodes', WHERE WHAT IT READS IS OF BULK AT MOST 1048576: true; the input reads as it did. -/
def atrEncodesUptoRow : OpenClaim := { program := "ytnbggokmiokhlaadoor", sum := "cebcb34b008a13e5e5285ff55eeec0f0225681b40cacae87e8e9c16cfae218ad", func := "smartcard/smartcardlaw05.AtrEncodes", spec := "atrEncodes", inPlace := ["internal/bytealg.MakeNoZero"], unfollowed := true, recurses := true, named := ["smartcard/check.shifted"], apart := false, laid := [("smartcard/check.shifted", laid_smartcard_check_shifted)], narrowed := true }
def AtrEncodesUptoSaid : Prop := atrEncodesUptoRow.holds Tryd.pinned (OpenSpec.upto atrEncodesSpec)

/-- 'smartcardlaw05.AtrDecodes', WHERE WHAT IT READS IS OF BULK AT MOST 1048576: true; the input reads as it did. -/
def atrDecodesUptoRow : OpenClaim := { program := "ytnbggokmiokhlaadoor", sum := "cebcb34b008a13e5e5285ff55eeec0f0225681b40cacae87e8e9c16cfae218ad", func := "smartcard/smartcardlaw05.AtrDecodes", spec := "atrDecodes", inPlace := ["internal/bytealg.MakeNoZero"], unfollowed := true, recurses := true, named := ["smartcard/check.shifted"], apart := false, laid := [("smartcard/check.shifted", laid_smartcard_check_shifted)], narrowed := true }
def AtrDecodesUptoSaid : Prop := atrDecodesUptoRow.holds Tryd.pinned (OpenSpec.upto atrDecodesSpec)

/-- 'smartcardlaw05.AtrReads', WHERE WHAT IT READS IS OF BULK AT MOST 1048576: true; the input reads as it did. -/
def atrReadsUptoRow : OpenClaim := { program := "ytnbggokmiokhlaadoor", sum := "cebcb34b008a13e5e5285ff55eeec0f0225681b40cacae87e8e9c16cfae218ad", func := "smartcard/smartcardlaw05.AtrReads", spec := "atrReads", inPlace := ["internal/bytealg.MakeNoZero"], unfollowed := true, recurses := true, named := ["smartcard/check.shifted"], apart := false, laid := [("smartcard/check.shifted", laid_smartcard_check_shifted)], narrowed := true }
def AtrReadsUptoSaid : Prop := atrReadsUptoRow.holds Tryd.pinned (OpenSpec.upto atrReadsSpec)

/-- 'smartcardlaw05.AtrRequests', WHERE WHAT IT READS IS OF BULK AT MOST 1048576: true; the input reads as it did. -/
def atrRequestsUptoRow : OpenClaim := { program := "ytnbggokmiokhlaadoor", sum := "cebcb34b008a13e5e5285ff55eeec0f0225681b40cacae87e8e9c16cfae218ad", func := "smartcard/smartcardlaw05.AtrRequests", spec := "atrRequests", inPlace := ["internal/bytealg.MakeNoZero"], unfollowed := true, recurses := true, named := ["smartcard/check.shifted"], apart := false, laid := [("smartcard/check.shifted", laid_smartcard_check_shifted)], narrowed := true }
def AtrRequestsUptoSaid : Prop := atrRequestsUptoRow.holds Tryd.pinned (OpenSpec.upto atrRequestsSpec)

/-- 'smartcardlaw05.AtrAnswers', WHERE WHAT IT READS IS OF BULK AT MOST 1048576: true; the input reads as it did. -/
def atrAnswersUptoRow : OpenClaim := { program := "ytnbggokmiokhlaadoor", sum := "cebcb34b008a13e5e5285ff55eeec0f0225681b40cacae87e8e9c16cfae218ad", func := "smartcard/smartcardlaw05.AtrAnswers", spec := "atrAnswers", inPlace := ["internal/bytealg.MakeNoZero"], unfollowed := true, recurses := true, named := ["smartcard/check.shifted"], apart := false, laid := [("smartcard/check.shifted", laid_smartcard_check_shifted)], narrowed := true }
def AtrAnswersUptoSaid : Prop := atrAnswersUptoRow.holds Tryd.pinned (OpenSpec.upto atrAnswersSpec)

/-- 'smartcardlaw05.AtrAccepts', WHERE WHAT IT READS IS OF BULK AT MOST 1048576: true; the input reads as it did. -/
def atrAcceptsUptoRow : OpenClaim := { program := "ytnbggokmiokhlaadoor", sum := "cebcb34b008a13e5e5285ff55eeec0f0225681b40cacae87e8e9c16cfae218ad", func := "smartcard/smartcardlaw05.AtrAccepts", spec := "atrAccepts", inPlace := ["internal/bytealg.MakeNoZero"], unfollowed := true, recurses := true, named := ["smartcard/check.shifted"], apart := false, laid := [("smartcard/check.shifted", laid_smartcard_check_shifted)], narrowed := true }
def AtrAcceptsUptoSaid : Prop := atrAcceptsUptoRow.holds Tryd.pinned (OpenSpec.upto atrAcceptsSpec)

/-- 'smartcardlaw05.AtrCompares', WHERE WHAT IT READS IS OF BULK AT MOST 1048576: true; the input reads as it did. -/
def atrComparesUptoRow : OpenClaim := { program := "ytnbggokmiokhlaadoor", sum := "cebcb34b008a13e5e5285ff55eeec0f0225681b40cacae87e8e9c16cfae218ad", func := "smartcard/smartcardlaw05.AtrCompares", spec := "atrCompares", inPlace := ["internal/bytealg.MakeNoZero"], unfollowed := true, recurses := true, named := ["smartcard/check.shifted"], apart := false, laid := [("smartcard/check.shifted", laid_smartcard_check_shifted)], narrowed := true }
def AtrComparesUptoSaid : Prop := atrComparesUptoRow.holds Tryd.pinned (OpenSpec.upto atrComparesSpec)

/-- 'smartcardlaw05.AtrBack', WHERE WHAT IT READS IS OF BULK AT MOST 1048576: true; the input reads as it did. -/
def atrBackUptoRow : OpenClaim := { program := "ytnbggokmiokhlaadoor", sum := "cebcb34b008a13e5e5285ff55eeec0f0225681b40cacae87e8e9c16cfae218ad", func := "smartcard/smartcardlaw05.AtrBack", spec := "atrBack", inPlace := ["internal/bytealg.MakeNoZero"], unfollowed := true, recurses := true, named := ["smartcard/check.shifted"], apart := false, laid := [("smartcard/check.shifted", laid_smartcard_check_shifted)], narrowed := true }
def AtrBackUptoSaid : Prop := atrBackUptoRow.holds Tryd.pinned (OpenSpec.upto atrBackSpec)

/-- 'smartcardlaw05.AtrAgrees', WHERE WHAT IT READS IS OF BULK AT MOST 1048576: true; the input reads as it did. -/
def atrAgreesUptoRow : OpenClaim := { program := "ytnbggokmiokhlaadoor", sum := "cebcb34b008a13e5e5285ff55eeec0f0225681b40cacae87e8e9c16cfae218ad", func := "smartcard/smartcardlaw05.AtrAgrees", spec := "atrAgrees", inPlace := ["internal/bytealg.MakeNoZero"], unfollowed := true, recurses := true, named := ["smartcard/check.shifted"], apart := false, laid := [("smartcard/check.shifted", laid_smartcard_check_shifted)], narrowed := true }
def AtrAgreesUptoSaid : Prop := atrAgreesUptoRow.holds Tryd.pinned (OpenSpec.upto atrAgreesSpec)

/-- 'smartcardlaw06.BlockChecks', WHERE WHAT IT READS IS OF BULK AT MOST 1048576: true; the input reads as it did. -/
def blockChecksUptoRow : OpenClaim := { program := "ytnbggokmiokhlaadoor", sum := "cebcb34b008a13e5e5285ff55eeec0f0225681b40cacae87e8e9c16cfae218ad", func := "smartcard/smartcardlaw06.BlockChecks", spec := "blockChecks", inPlace := ["internal/bytealg.MakeNoZero"], unfollowed := true, recurses := true, named := ["smartcard/check.shifted"], apart := false, laid := [("smartcard/check.shifted", laid_smartcard_check_shifted)], narrowed := true }
def BlockChecksUptoSaid : Prop := blockChecksUptoRow.holds Tryd.pinned (OpenSpec.upto blockChecksSpec)

/-- 'smartcardlaw06.BlockEncodes', WHERE WHAT IT READS IS OF BULK AT MOST 1048576: true; the input reads as it did. -/
def blockEncodesUptoRow : OpenClaim := { program := "ytnbggokmiokhlaadoor", sum := "cebcb34b008a13e5e5285ff55eeec0f0225681b40cacae87e8e9c16cfae218ad", func := "smartcard/smartcardlaw06.BlockEncodes", spec := "blockEncodes", inPlace := ["internal/bytealg.MakeNoZero"], unfollowed := true, recurses := true, named := ["smartcard/check.shifted"], apart := false, laid := [("smartcard/check.shifted", laid_smartcard_check_shifted)], narrowed := true }
def BlockEncodesUptoSaid : Prop := blockEncodesUptoRow.holds Tryd.pinned (OpenSpec.upto blockEncodesSpec)

/-- 'smartcardlaw06.BlockDecodes', WHERE WHAT IT READS IS OF BULK AT MOST 1048576: true; the input reads as it did. -/
def blockDecodesUptoRow : OpenClaim := { program := "ytnbggokmiokhlaadoor", sum := "cebcb34b008a13e5e5285ff55eeec0f0225681b40cacae87e8e9c16cfae218ad", func := "smartcard/smartcardlaw06.BlockDecodes", spec := "blockDecodes", inPlace := ["internal/bytealg.MakeNoZero"], unfollowed := true, recurses := true, named := ["smartcard/check.shifted"], apart := false, laid := [("smartcard/check.shifted", laid_smartcard_check_shifted)], narrowed := true }
def BlockDecodesUptoSaid : Prop := blockDecodesUptoRow.holds Tryd.pinned (OpenSpec.upto blockDecodesSpec)

/-- 'smartcardlaw06.BlockSame', WHERE WHAT IT READS IS OF BULK AT MOST 1048576: true; the input reads as it did. -/
def blockSameUptoRow : OpenClaim := { program := "ytnbggokmiokhlaadoor", sum := "cebcb34b008a13e5e5285ff55eeec0f0225681b40cacae87e8e9c16cfae218ad", func := "smartcard/smartcardlaw06.BlockSame", spec := "blockSame", inPlace := ["internal/bytealg.MakeNoZero"], unfollowed := true, recurses := true, named := ["smartcard/check.shifted"], apart := false, laid := [("smartcard/check.shifted", laid_smartcard_check_shifted)], narrowed := true }
def BlockSameUptoSaid : Prop := blockSameUptoRow.holds Tryd.pinned (OpenSpec.upto blockSameSpec)

/-- 'smartcardlaw06.BlockTexts', WHERE WHAT IT READS IS OF BULK AT MOST 1048576: true; the input reads as it did. -/
def blockTextsUptoRow : OpenClaim := { program := "ytnbggokmiokhlaadoor", sum := "cebcb34b008a13e5e5285ff55eeec0f0225681b40cacae87e8e9c16cfae218ad", func := "smartcard/smartcardlaw06.BlockTexts", spec := "blockTexts", inPlace := ["internal/bytealg.MakeNoZero"], unfollowed := true, recurses := true, named := ["smartcard/check.shifted"], apart := false, laid := [("smartcard/check.shifted", laid_smartcard_check_shifted)], narrowed := true }
def BlockTextsUptoSaid : Prop := blockTextsUptoRow.holds Tryd.pinned (OpenSpec.upto blockTextsSpec)

/-- 'smartcardlaw06.BlockRoundTrip', WHERE WHAT IT READS IS OF BULK AT MOST 1048576: true; the input reads as it did. -/
def blockRoundTripUptoRow : OpenClaim := { program := "ytnbggokmiokhlaadoor", sum := "cebcb34b008a13e5e5285ff55eeec0f0225681b40cacae87e8e9c16cfae218ad", func := "smartcard/smartcardlaw06.BlockRoundTrip", spec := "blockRoundTrip", inPlace := ["internal/bytealg.MakeNoZero"], unfollowed := true, recurses := true, named := ["smartcard/check.shifted"], apart := false, laid := [("smartcard/check.shifted", laid_smartcard_check_shifted)], narrowed := true }
def BlockRoundTripUptoSaid : Prop := blockRoundTripUptoRow.holds Tryd.pinned (OpenSpec.upto blockRoundTripSpec)

/-- 'smartcardlaw06.BlockDamage', WHERE WHAT IT READS IS OF BULK AT MOST 1048576: true; the input reads as it did. -/
def blockDamageUptoRow : OpenClaim := { program := "ytnbggokmiokhlaadoor", sum := "cebcb34b008a13e5e5285ff55eeec0f0225681b40cacae87e8e9c16cfae218ad", func := "smartcard/smartcardlaw06.BlockDamage", spec := "blockDamage", inPlace := ["internal/bytealg.MakeNoZero"], unfollowed := true, recurses := true, named := ["smartcard/check.shifted"], apart := false, laid := [("smartcard/check.shifted", laid_smartcard_check_shifted)], narrowed := true }
def BlockDamageUptoSaid : Prop := blockDamageUptoRow.holds Tryd.pinned (OpenSpec.upto blockDamageSpec)

end Rows
end Go.Proofs.YtnbggokmiokhlaaDoor
