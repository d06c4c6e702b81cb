/-
  NARROWER THAN 'FOR EVERY INPUT', by the rows' own cells (each row's printed sentence says how): CheckSums: laid · CheckAppends: laid · CheckRemoves: laid · CheckRestores: laid · CheckDetects: laid · CheckBursts: laid · CheckLinear: laid.
  DERIVED. THE GIVEN ROWS OF THIS SEAT. 7 by the template 'for every input the law returns true; each argument reads behind the call as it read before'; 0 by the template 'total and deterministic' (their statements: YtjoibonbmalbdaaDoorTotals.lean).
  GIVEN WITH THE SEED: the statements are not yours to turn. If you find one false, say at which input.
  Laid BY PROGRAM, IN A SANDBOX (cutbox-rows.mjs): the forced cells as the released guide's own fill.sh prints them over the translation 86eee302868846e0… (all of the seat's roots in one cut). By AI agents, Wed Nov 11 2026. No macro, syntax, notation, axiom, sorry.
-/
import Derived.Test.YtjoibonbmalbdaaDoorChecked
import GoSem.Claim
import GoSem.ClaimJoined
import GoSem.ClaimMapViews
import Derived.JoinedTies
import Derived.KernelRfl
namespace Go.Proofs.YtjoibonbmalbdaaDoor
/- THE CELL 'sum', in the pinned program and in every row, IS THE sha256 OF THE DUMP (.gsa) THAT YtjoibonbmalbdaaDoorProg.lean LOADS. Nothing in Lean hashes anything: it is a label: what it is worth is what the hold of that sum in a sandbox is worth. -/
noncomputable def Tryd.pinned : Pinned := { name := "ytjoibonbmalbdaadoor", sum := "86eee302868846e0c231a0fc4be14ba5c92908523c4b764e4602ff505acea437", checked := Tryd.checked }
namespace Rows
def none {H : Type} : Left H := { results := [], args := [] }

/- WHAT THE LISTED PACKAGE-LEVEL VARIABLES READ AS WHEN THE CALL BEGINS. Each datum BY PROGRAM (the guide's laid-datum.mjs) off the statement by which the dump's own 'gosem.cut.vars' lays the variable. In a bare row this is a premise. The card (YtjoibonbmalbdaaDoorCards.lean) ties it to the program's text. -/
def laid_smartcard_check_shifted {H : Type} : DataW H := .agg [.lit (.int .u16 0), .lit (.int .u16 4225), .lit (.int .u16 8450), .lit (.int .u16 12675), .lit (.int .u16 16900), .lit (.int .u16 21125), .lit (.int .u16 25350), .lit (.int .u16 29575), .lit (.int .u16 33800), .lit (.int .u16 38025), .lit (.int .u16 42250), .lit (.int .u16 46475), .lit (.int .u16 50700), .lit (.int .u16 54925), .lit (.int .u16 59150), .lit (.int .u16 63375)]

/-- 'smartcardlaw03.CheckSums': WHATEVER THE INPUT: true; the input reads as it did. -/
def checkSumsSpec : ChangeSpec := { name := "checkSums", fn := fun _ => fun
  | [d1, d2] => { results := [.lit (.bool true)], args := [d1, d2] }
  | _ => none }
def checkSumsRow : OpenClaim := { program := "ytjoibonbmalbdaadoor", sum := "86eee302868846e0c231a0fc4be14ba5c92908523c4b764e4602ff505acea437", func := "smartcard/smartcardlaw03.CheckSums", spec := "checkSums", named := ["smartcard/check.shifted"], apart := false, laid := [("smartcard/check.shifted", laid_smartcard_check_shifted)] }
def CheckSumsSaid : Prop := checkSumsRow.holds Tryd.pinned (OpenSpec.ofChange checkSumsSpec)

/-- ITS FALSE NEIGHBOUR: 'it returns false'. Refute it at one input. -/
def checkSumsWrong : ChangeSpec := { name := "checkSums", fn := fun _ => fun
  | [d1, d2] => { results := [.lit (.bool false)], args := [d1, d2] }
  | _ => none }
def CheckSumsWrongFalsely : Prop := checkSumsRow.holds Tryd.pinned (OpenSpec.ofChange checkSumsWrong)

/-- 'smartcardlaw03.CheckAppends': WHATEVER THE INPUT: true; the input reads as it did. -/
def checkAppendsSpec : ChangeSpec := { name := "checkAppends", fn := fun _ => fun
  | [d1, d2] => { results := [.lit (.bool true)], args := [d1, d2] }
  | _ => none }
def checkAppendsRow : OpenClaim := { program := "ytjoibonbmalbdaadoor", sum := "86eee302868846e0c231a0fc4be14ba5c92908523c4b764e4602ff505acea437", func := "smartcard/smartcardlaw03.CheckAppends", spec := "checkAppends", inPlace := ["internal/bytealg.MakeNoZero"], named := ["smartcard/check.shifted"], apart := false, laid := [("smartcard/check.shifted", laid_smartcard_check_shifted)] }
def CheckAppendsSaid : Prop := checkAppendsRow.holds Tryd.pinned (OpenSpec.ofChange checkAppendsSpec)

/-- ITS FALSE NEIGHBOUR: 'it returns false'. Refute it at one input. -/
def checkAppendsWrong : ChangeSpec := { name := "checkAppends", fn := fun _ => fun
  | [d1, d2] => { results := [.lit (.bool false)], args := [d1, d2] }
  | _ => none }
def CheckAppendsWrongFalsely : Prop := checkAppendsRow.holds Tryd.pinned (OpenSpec.ofChange checkAppendsWrong)

/-- 'smartcardlaw03.CheckRemoves': WHATEVER THE INPUT: true; the input reads as it did. -/
def checkRemovesSpec : ChangeSpec := { name := "checkRemoves", fn := fun _ => fun
  | [d1, d2] => { results := [.lit (.bool true)], args := [d1, d2] }
  | _ => none }
def checkRemovesRow : OpenClaim := { program := "ytjoibonbmalbdaadoor", sum := "86eee302868846e0c231a0fc4be14ba5c92908523c4b764e4602ff505acea437", func := "smartcard/smartcardlaw03.CheckRemoves", spec := "checkRemoves", named := ["smartcard/check.shifted"], apart := false, laid := [("smartcard/check.shifted", laid_smartcard_check_shifted)] }
def CheckRemovesSaid : Prop := checkRemovesRow.holds Tryd.pinned (OpenSpec.ofChange checkRemovesSpec)

/-- ITS FALSE NEIGHBOUR: 'it returns false'. Refute it at one input. -/
def checkRemovesWrong : ChangeSpec := { name := "checkRemoves", fn := fun _ => fun
  | [d1, d2] => { results := [.lit (.bool false)], args := [d1, d2] }
  | _ => none }
def CheckRemovesWrongFalsely : Prop := checkRemovesRow.holds Tryd.pinned (OpenSpec.ofChange checkRemovesWrong)

/-- 'smartcardlaw03.CheckRestores': WHATEVER THE INPUT: true; the input reads as it did. -/
def checkRestoresSpec : ChangeSpec := { name := "checkRestores", fn := fun _ => fun
  | [d1, d2] => { results := [.lit (.bool true)], args := [d1, d2] }
  | _ => none }
def checkRestoresRow : OpenClaim := { program := "ytjoibonbmalbdaadoor", sum := "86eee302868846e0c231a0fc4be14ba5c92908523c4b764e4602ff505acea437", func := "smartcard/smartcardlaw03.CheckRestores", spec := "checkRestores", inPlace := ["internal/bytealg.MakeNoZero"], named := ["smartcard/check.shifted"], apart := false, laid := [("smartcard/check.shifted", laid_smartcard_check_shifted)] }
def CheckRestoresSaid : Prop := checkRestoresRow.holds Tryd.pinned (OpenSpec.ofChange checkRestoresSpec)

/-- ITS FALSE NEIGHBOUR: 'it returns false'. Refute it at one input. -/
def checkRestoresWrong : ChangeSpec := { name := "checkRestores", fn := fun _ => fun
  | [d1, d2] => { results := [.lit (.bool false)], args := [d1, d2] }
  | _ => none }
def CheckRestoresWrongFalsely : Prop := checkRestoresRow.holds Tryd.pinned (OpenSpec.ofChange checkRestoresWrong)

/-- 'smartcardlaw03.CheckDetects': WHATEVER THE INPUT: true; the input reads as it did. -/
def checkDetectsSpec : ChangeSpec := { name := "checkDetects", fn := fun _ => fun
  | [d1, d2, d3] => { results := [.lit (.bool true)], args := [d1, d2, d3] }
  | _ => none }
def checkDetectsRow : OpenClaim := { program := "ytjoibonbmalbdaadoor", sum := "86eee302868846e0c231a0fc4be14ba5c92908523c4b764e4602ff505acea437", func := "smartcard/smartcardlaw03.CheckDetects", spec := "checkDetects", inPlace := ["internal/bytealg.MakeNoZero"], named := ["smartcard/check.shifted"], apart := false, laid := [("smartcard/check.shifted", laid_smartcard_check_shifted)] }
def CheckDetectsSaid : Prop := checkDetectsRow.holds Tryd.pinned (OpenSpec.ofChange checkDetectsSpec)

/-- ITS FALSE NEIGHBOUR: 'it returns false'. Refute it at one input. -/
def checkDetectsWrong : ChangeSpec := { name := "checkDetects", fn := fun _ => fun
  | [d1, d2, d3] => { results := [.lit (.bool false)], args := [d1, d2, d3] }
  | _ => none }
def CheckDetectsWrongFalsely : Prop := checkDetectsRow.holds Tryd.pinned (OpenSpec.ofChange checkDetectsWrong)

/-- 'smartcardlaw03.CheckBursts': WHATEVER THE INPUT: true; the input reads as it did. -/
def checkBurstsSpec : ChangeSpec := { name := "checkBursts", fn := fun _ => fun
  | [d1, d2, d3] => { results := [.lit (.bool true)], args := [d1, d2, d3] }
  | _ => none }
def checkBurstsRow : OpenClaim := { program := "ytjoibonbmalbdaadoor", sum := "86eee302868846e0c231a0fc4be14ba5c92908523c4b764e4602ff505acea437", func := "smartcard/smartcardlaw03.CheckBursts", spec := "checkBursts", inPlace := ["internal/bytealg.MakeNoZero"], named := ["smartcard/check.shifted"], apart := false, laid := [("smartcard/check.shifted", laid_smartcard_check_shifted)] }
def CheckBurstsSaid : Prop := checkBurstsRow.holds Tryd.pinned (OpenSpec.ofChange checkBurstsSpec)

/-- ITS FALSE NEIGHBOUR: 'it returns false'. Refute it at one input. -/
def checkBurstsWrong : ChangeSpec := { name := "checkBursts", fn := fun _ => fun
  | [d1, d2, d3] => { results := [.lit (.bool false)], args := [d1, d2, d3] }
  | _ => none }
def CheckBurstsWrongFalsely : Prop := checkBurstsRow.holds Tryd.pinned (OpenSpec.ofChange checkBurstsWrong)

/-- 'smartcardlaw03.CheckLinear': WHATEVER THE INPUT: true; the input reads as it did. -/
def checkLinearSpec : ChangeSpec := { name := "checkLinear", fn := fun _ => fun
  | [d1, d2, d3] => { results := [.lit (.bool true)], args := [d1, d2, d3] }
  | _ => none }
def checkLinearRow : OpenClaim := { program := "ytjoibonbmalbdaadoor", sum := "86eee302868846e0c231a0fc4be14ba5c92908523c4b764e4602ff505acea437", func := "smartcard/smartcardlaw03.CheckLinear", spec := "checkLinear", named := ["smartcard/check.shifted"], apart := false, laid := [("smartcard/check.shifted", laid_smartcard_check_shifted)] }
def CheckLinearSaid : Prop := checkLinearRow.holds Tryd.pinned (OpenSpec.ofChange checkLinearSpec)

/-- ITS FALSE NEIGHBOUR: 'it returns false'. Refute it at one input. -/
def checkLinearWrong : ChangeSpec := { name := "checkLinear", fn := fun _ => fun
  | [d1, d2, d3] => { results := [.lit (.bool false)], args := [d1, d2, d3] }
  | _ => none }
def CheckLinearWrongFalsely : Prop := checkLinearRow.holds Tryd.pinned (OpenSpec.ofChange checkLinearWrong)

/- THE SECOND FORM. 'bulk': how many values and letters a reading holds, each counted each time it is reached (what is shared counts as often as it is met; a slice's spare places count too). A statement '..UptoSaid' is the law's where the arguments, and the package variables that the reading takes, are together of bulk at most 1048576: NARROWER than '..Said'. Prove '..Said' where nothing that the law and all that it calls make is longer than what came in: it says more and counts as full. Else prove '..UptoSaid'. A law counts once. -/
mutual
def uptoBulk {H : Type} : DataW H → Nat
  | .lit (.string bytes) => bytes.length + 1
  | .lit _ => 1
  | .nil => 1
  | .ptr d => uptoBulk d + 1
  | .slice elems spare => uptoBulkAll elems + uptoBulkAll spare + 1
  | .agg parts => uptoBulkAll parts + 1
  | .iface _ d => uptoBulk d + 1
  | .map entries => uptoBulkEntries entries + 1
  | .held _ => 1
def uptoBulkAll {H : Type} : List (DataW H) → Nat
  | [] => 0
  | d :: r => uptoBulk d + uptoBulkAll r
def uptoBulkEntries {H : Type} : List (Lit × DataW H) → Nat
  | [] => 0
  | x :: r => uptoBulkEntry x + uptoBulkEntries r
def uptoBulkEntry {H : Type} : Lit × DataW H → Nat
  | (.string bytes, d) => bytes.length + uptoBulk d + 1
  | (_, d) => uptoBulk d + 1
 end
def uptoSmall : (H : Type) → List (DataW H) → Bool := fun _ ds => decide (uptoBulkAll ds ≤ 1048576)
def OpenSpec.upto (s : _root_.Go.ChangeSpec) : _root_.Go.OpenSpec := { _root_.Go.OpenSpec.ofChange s with cond := some uptoSmall }

/-- 'smartcardlaw03.CheckSums', WHERE WHAT IT READS IS OF BULK AT MOST 1048576: true; the input reads as it did. -/
def checkSumsUptoRow : OpenClaim := { program := "ytjoibonbmalbdaadoor", sum := "86eee302868846e0c231a0fc4be14ba5c92908523c4b764e4602ff505acea437", func := "smartcard/smartcardlaw03.CheckSums", spec := "checkSums", named := ["smartcard/check.shifted"], apart := false, laid := [("smartcard/check.shifted", laid_smartcard_check_shifted)], narrowed := true }
def CheckSumsUptoSaid : Prop := checkSumsUptoRow.holds Tryd.pinned (OpenSpec.upto checkSumsSpec)

/-- 'smartcardlaw03.CheckAppends', WHERE WHAT IT READS IS OF BULK AT MOST 1048576: true; the input reads as it did. -/
def checkAppendsUptoRow : OpenClaim := { program := "ytjoibonbmalbdaadoor", sum := "86eee302868846e0c231a0fc4be14ba5c92908523c4b764e4602ff505acea437", func := "smartcard/smartcardlaw03.CheckAppends", spec := "checkAppends", inPlace := ["internal/bytealg.MakeNoZero"], named := ["smartcard/check.shifted"], apart := false, laid := [("smartcard/check.shifted", laid_smartcard_check_shifted)], narrowed := true }
def CheckAppendsUptoSaid : Prop := checkAppendsUptoRow.holds Tryd.pinned (OpenSpec.upto checkAppendsSpec)

/-- 'smartcardlaw03.CheckRemoves', WHERE WHAT IT READS IS OF BULK AT MOST 1048576: true; the input reads as it did. -/
def checkRemovesUptoRow : OpenClaim := { program := "ytjoibonbmalbdaadoor", sum := "86eee302868846e0c231a0fc4be14ba5c92908523c4b764e4602ff505acea437", func := "smartcard/smartcardlaw03.CheckRemoves", spec := "checkRemoves", named := ["smartcard/check.shifted"], apart := false, laid := [("smartcard/check.shifted", laid_smartcard_check_shifted)], narrowed := true }
def CheckRemovesUptoSaid : Prop := checkRemovesUptoRow.holds Tryd.pinned (OpenSpec.upto checkRemovesSpec)

/-- 'smartcardlaw03.CheckRestores', WHERE WHAT IT READS IS OF BULK AT MOST 1048576: true; the input reads as it did. -/
def checkRestoresUptoRow : OpenClaim := { program := "ytjoibonbmalbdaadoor", sum := "86eee302868846e0c231a0fc4be14ba5c92908523c4b764e4602ff505acea437", func := "smartcard/smartcardlaw03.CheckRestores", spec := "checkRestores", inPlace := ["internal/bytealg.MakeNoZero"], named := ["smartcard/check.shifted"], apart := false, laid := [("smartcard/check.shifted", laid_smartcard_check_shifted)], narrowed := true }
def CheckRestoresUptoSaid : Prop := checkRestoresUptoRow.holds Tryd.pinned (OpenSpec.upto checkRestoresSpec)

/-- 'smartcardlaw03.CheckDetects', WHERE WHAT IT READS IS OF BULK AT MOST 1048576: true; the input reads as it did. -/
def checkDetectsUptoRow : OpenClaim := { program := "ytjoibonbmalbdaadoor", sum := "86eee302868846e0c231a0fc4be14ba5c92908523c4b764e4602ff505acea437", func := "smartcard/smartcardlaw03.CheckDetects", spec := "checkDetects", inPlace := ["internal/bytealg.MakeNoZero"], named := ["smartcard/check.shifted"], apart := false, laid := [("smartcard/check.shifted", laid_smartcard_check_shifted)], narrowed := true }
def CheckDetectsUptoSaid : Prop := checkDetectsUptoRow.holds Tryd.pinned (OpenSpec.upto checkDetectsSpec)

/-- 'smartcardlaw03.CheckBursts', WHERE WHAT IT READS IS OF BULK AT MOST 1048576: true; the input reads as it did. -/
def checkBurstsUptoRow : OpenClaim := { program := "ytjoibonbmalbdaadoor", sum := "86eee302868846e0c231a0fc4be14ba5c92908523c4b764e4602ff505acea437", func := "smartcard/smartcardlaw03.CheckBursts", spec := "checkBursts", inPlace := ["internal/bytealg.MakeNoZero"], named := ["smartcard/check.shifted"], apart := false, laid := [("smartcard/check.shifted", laid_smartcard_check_shifted)], narrowed := true }
def CheckBurstsUptoSaid : Prop := checkBurstsUptoRow.holds Tryd.pinned (OpenSpec.upto checkBurstsSpec)

/-- 'smartcardlaw03.CheckLinear', WHERE WHAT IT READS IS OF BULK AT MOST 1048576: true; the input reads as it did. -/
def checkLinearUptoRow : OpenClaim := { program := "ytjoibonbmalbdaadoor", sum := "86eee302868846e0c231a0fc4be14ba5c92908523c4b764e4602ff505acea437", func := "smartcard/smartcardlaw03.CheckLinear", spec := "checkLinear", named := ["smartcard/check.shifted"], apart := false, laid := [("smartcard/check.shifted", laid_smartcard_check_shifted)], narrowed := true }
def CheckLinearUptoSaid : Prop := checkLinearUptoRow.holds Tryd.pinned (OpenSpec.upto checkLinearSpec)

end Rows
end Go.Proofs.YtjoibonbmalbdaaDoor
