/-
  NARROWER THAN 'FOR EVERY INPUT', by the rows' own cells (each row's printed sentence says how): FileheadChecks: loops, laid · FileheadEncodes: loops, laid · FileheadDecodes: laid · FileheadFollows: laid · FileheadSame: loops, laid · FileheadRoundTrip: loops, laid · FileheadKeeps: loops, laid.
  DERIVED. THE GIVEN ROWS OF THIS SEAT. 7 by the template 'for every input the law returns true; each argument reads behind the call as it read before'; 0 by the template 'total and deterministic' (their statements: YtkjcafhaenkpbaaDoorTotals.lean).
  GIVEN WITH THE SEED: the statements are not yours to turn. If you find one false, say at which input.
  Laid BY PROGRAM, IN A SANDBOX (cutbox-rows.mjs): the forced cells as the released guide's own fill.sh prints them over the translation 245d1178f0e4f636… (all of the seat's roots in one cut). By AI agents, Wed Nov 11 2026. No macro, syntax, notation, axiom, sorry.
-/
import Derived.Test.YtkjcafhaenkpbaaDoorChecked
import GoSem.Claim
import GoSem.ClaimJoined
import GoSem.ClaimMapViews
import Derived.JoinedTies
import Derived.KernelRfl
namespace Go.Proofs.YtkjcafhaenkpbaaDoor
/- THE CELL 'sum', in the pinned program and in every row, IS THE sha256 OF THE DUMP (.gsa) THAT YtkjcafhaenkpbaaDoorProg.lean LOADS. Nothing in Lean hashes anything: it is a label: what it is worth is what the hold of that sum in a sandbox is worth. -/
noncomputable def Tryd.pinned : Pinned := { name := "ytkjcafhaenkpbaadoor", sum := "245d1178f0e4f6360b53b96dd64746ce5a811243a790286be47f4316e6fbeab4", checked := Tryd.checked }
namespace Rows
def none {H : Type} : Left H := { results := [], args := [] }

/- WHAT THE LISTED PACKAGE-LEVEL VARIABLES READ AS WHEN THE CALL BEGINS. Each datum BY PROGRAM (the guide's laid-datum.mjs) off the statement by which the dump's own 'gosem.cut.vars' lays the variable. In a bare row this is a premise. The card (YtkjcafhaenkpbaaDoorCards.lean) ties it to the program's text. -/
def laid_smartcard_access_kinds {H : Type} : DataW H := .agg [.agg [.lit (.string [110, 101, 118, 101, 114]), .lit (.bool false), .lit (.int .i64 0), .lit (.int .i64 0), .lit (.int .i64 0)], .agg [.lit (.string [97, 108, 119, 97, 121, 115]), .lit (.bool false), .lit (.int .i64 0), .lit (.int .i64 0), .lit (.int .i64 0)], .agg [.lit (.string [112, 105, 110]), .lit (.bool false), .lit (.int .i64 1), .lit (.int .i64 8), .lit (.int .i64 (-1))], .agg [.lit (.string [107, 101, 121]), .lit (.bool false), .lit (.int .i64 1), .lit (.int .i64 8), .lit (.int .i64 (-1))], .agg [.lit (.string [115, 116, 97, 116, 101]), .lit (.bool false), .lit (.int .i64 1), .lit (.int .i64 5), .lit (.int .i64 (-1))], .agg [.lit (.string [108, 101, 118, 101, 108]), .lit (.bool false), .lit (.int .i64 1), .lit (.int .i64 51), .lit (.int .i64 51)], .agg [.lit (.string [97, 110, 100]), .lit (.bool true), .lit (.int .i64 0), .lit (.int .i64 0), .lit (.int .i64 0)], .agg [.lit (.string [111, 114]), .lit (.bool true), .lit (.int .i64 0), .lit (.int .i64 0), .lit (.int .i64 0)]]

/-- 'smartcardlaw15.FileheadChecks': WHATEVER THE INPUT: true; the input reads as it did. -/
def fileheadChecksSpec : ChangeSpec := { name := "fileheadChecks", fn := fun _ => fun
  | [d] => { results := [.lit (.bool true)], args := [d] }
  | _ => none }
def fileheadChecksRow : OpenClaim := { program := "ytkjcafhaenkpbaadoor", sum := "245d1178f0e4f6360b53b96dd64746ce5a811243a790286be47f4316e6fbeab4", func := "smartcard/smartcardlaw15.FileheadChecks", spec := "fileheadChecks", inPlace := ["internal/bytealg.MakeNoZero"], unfollowed := true, recurses := true, named := ["smartcard/access.kinds"], loops := true, apart := false, laid := [("smartcard/access.kinds", laid_smartcard_access_kinds)] }
def FileheadChecksSaid : Prop := fileheadChecksRow.holds Tryd.pinned (OpenSpec.ofChange fileheadChecksSpec)

/-- ITS FALSE NEIGHBOUR: 'it returns false'. Refute it at one input. -/
def fileheadChecksWrong : ChangeSpec := { name := "fileheadChecks", fn := fun _ => fun
  | [d] => { results := [.lit (.bool false)], args := [d] }
  | _ => none }
def FileheadChecksWrongFalsely : Prop := fileheadChecksRow.holds Tryd.pinned (OpenSpec.ofChange fileheadChecksWrong)

/-- 'smartcardlaw15.FileheadEncodes': WHATEVER THE INPUT: true; the input reads as it did. -/
def fileheadEncodesSpec : ChangeSpec := { name := "fileheadEncodes", fn := fun _ => fun
  | [d] => { results := [.lit (.bool true)], args := [d] }
  | _ => none }
def fileheadEncodesRow : OpenClaim := { program := "ytkjcafhaenkpbaadoor", sum := "245d1178f0e4f6360b53b96dd64746ce5a811243a790286be47f4316e6fbeab4", func := "smartcard/smartcardlaw15.FileheadEncodes", spec := "fileheadEncodes", inPlace := ["internal/bytealg.MakeNoZero"], unfollowed := true, recurses := true, named := ["smartcard/access.kinds"], loops := true, apart := false, laid := [("smartcard/access.kinds", laid_smartcard_access_kinds)] }
def FileheadEncodesSaid : Prop := fileheadEncodesRow.holds Tryd.pinned (OpenSpec.ofChange fileheadEncodesSpec)

/-- ITS FALSE NEIGHBOUR: 'it returns false'. Refute it at one input. -/
def fileheadEncodesWrong : ChangeSpec := { name := "fileheadEncodes", fn := fun _ => fun
  | [d] => { results := [.lit (.bool false)], args := [d] }
  | _ => none }
def FileheadEncodesWrongFalsely : Prop := fileheadEncodesRow.holds Tryd.pinned (OpenSpec.ofChange fileheadEncodesWrong)

/-- 'smartcardlaw15.FileheadDecodes': WHATEVER THE INPUT: true; the input reads as it did. -/
def fileheadDecodesSpec : ChangeSpec := { name := "fileheadDecodes", fn := fun _ => fun
  | [d] => { results := [.lit (.bool true)], args := [d] }
  | _ => none }
def fileheadDecodesRow : OpenClaim := { program := "ytkjcafhaenkpbaadoor", sum := "245d1178f0e4f6360b53b96dd64746ce5a811243a790286be47f4316e6fbeab4", func := "smartcard/smartcardlaw15.FileheadDecodes", spec := "fileheadDecodes", inPlace := ["internal/bytealg.MakeNoZero"], unfollowed := true, recurses := true, named := ["smartcard/access.kinds"], apart := false, laid := [("smartcard/access.kinds", laid_smartcard_access_kinds)] }
def FileheadDecodesSaid : Prop := fileheadDecodesRow.holds Tryd.pinned (OpenSpec.ofChange fileheadDecodesSpec)

/-- ITS FALSE NEIGHBOUR: 'it returns false'. Refute it at one input. -/
def fileheadDecodesWrong : ChangeSpec := { name := "fileheadDecodes", fn := fun _ => fun
  | [d] => { results := [.lit (.bool false)], args := [d] }
  | _ => none }
def FileheadDecodesWrongFalsely : Prop := fileheadDecodesRow.holds Tryd.pinned (OpenSpec.ofChange fileheadDecodesWrong)

/-- 'smartcardlaw15.FileheadFollows': WHATEVER THE INPUT: true; the input reads as it did. -/
def fileheadFollowsSpec : ChangeSpec := { name := "fileheadFollows", fn := fun _ => fun
  | [d1, d2] => { results := [.lit (.bool true)], args := [d1, d2] }
  | _ => none }
def fileheadFollowsRow : OpenClaim := { program := "ytkjcafhaenkpbaadoor", sum := "245d1178f0e4f6360b53b96dd64746ce5a811243a790286be47f4316e6fbeab4", func := "smartcard/smartcardlaw15.FileheadFollows", spec := "fileheadFollows", inPlace := ["internal/bytealg.MakeNoZero"], unfollowed := true, recurses := true, named := ["smartcard/access.kinds"], apart := false, laid := [("smartcard/access.kinds", laid_smartcard_access_kinds)] }
def FileheadFollowsSaid : Prop := fileheadFollowsRow.holds Tryd.pinned (OpenSpec.ofChange fileheadFollowsSpec)

/-- ITS FALSE NEIGHBOUR: 'it returns false'. Refute it at one input. -/
def fileheadFollowsWrong : ChangeSpec := { name := "fileheadFollows", fn := fun _ => fun
  | [d1, d2] => { results := [.lit (.bool false)], args := [d1, d2] }
  | _ => none }
def FileheadFollowsWrongFalsely : Prop := fileheadFollowsRow.holds Tryd.pinned (OpenSpec.ofChange fileheadFollowsWrong)

/-- 'smartcardlaw15.FileheadSame': WHATEVER THE INPUT: true; the input reads as it did. -/
def fileheadSameSpec : ChangeSpec := { name := "fileheadSame", fn := fun _ => fun
  | [d1, d2] => { results := [.lit (.bool true)], args := [d1, d2] }
  | _ => none }
def fileheadSameRow : OpenClaim := { program := "ytkjcafhaenkpbaadoor", sum := "245d1178f0e4f6360b53b96dd64746ce5a811243a790286be47f4316e6fbeab4", func := "smartcard/smartcardlaw15.FileheadSame", spec := "fileheadSame", inPlace := ["internal/bytealg.MakeNoZero"], unfollowed := true, recurses := true, named := ["smartcard/access.kinds"], loops := true, apart := false, laid := [("smartcard/access.kinds", laid_smartcard_access_kinds)] }
def FileheadSameSaid : Prop := fileheadSameRow.holds Tryd.pinned (OpenSpec.ofChange fileheadSameSpec)

/-- ITS FALSE NEIGHBOUR: 'it returns false'. Refute it at one input. -/
def fileheadSameWrong : ChangeSpec := { name := "fileheadSame", fn := fun _ => fun
  | [d1, d2] => { results := [.lit (.bool false)], args := [d1, d2] }
  | _ => none }
def FileheadSameWrongFalsely : Prop := fileheadSameRow.holds Tryd.pinned (OpenSpec.ofChange fileheadSameWrong)

/-- 'smartcardlaw15.FileheadRoundTrip': WHATEVER THE INPUT: true; the input reads as it did. -/
def fileheadRoundTripSpec : ChangeSpec := { name := "fileheadRoundTrip", fn := fun _ => fun
  | [d1, d2] => { results := [.lit (.bool true)], args := [d1, d2] }
  | _ => none }
def fileheadRoundTripRow : OpenClaim := { program := "ytkjcafhaenkpbaadoor", sum := "245d1178f0e4f6360b53b96dd64746ce5a811243a790286be47f4316e6fbeab4", func := "smartcard/smartcardlaw15.FileheadRoundTrip", spec := "fileheadRoundTrip", inPlace := ["internal/bytealg.MakeNoZero"], unfollowed := true, recurses := true, named := ["smartcard/access.kinds"], loops := true, apart := false, laid := [("smartcard/access.kinds", laid_smartcard_access_kinds)] }
def FileheadRoundTripSaid : Prop := fileheadRoundTripRow.holds Tryd.pinned (OpenSpec.ofChange fileheadRoundTripSpec)

/-- ITS FALSE NEIGHBOUR: 'it returns false'. Refute it at one input. -/
def fileheadRoundTripWrong : ChangeSpec := { name := "fileheadRoundTrip", fn := fun _ => fun
  | [d1, d2] => { results := [.lit (.bool false)], args := [d1, d2] }
  | _ => none }
def FileheadRoundTripWrongFalsely : Prop := fileheadRoundTripRow.holds Tryd.pinned (OpenSpec.ofChange fileheadRoundTripWrong)

/-- 'smartcardlaw15.FileheadKeeps': WHATEVER THE INPUT: true; the input reads as it did. -/
def fileheadKeepsSpec : ChangeSpec := { name := "fileheadKeeps", fn := fun _ => fun
  | [d1, d2] => { results := [.lit (.bool true)], args := [d1, d2] }
  | _ => none }
def fileheadKeepsRow : OpenClaim := { program := "ytkjcafhaenkpbaadoor", sum := "245d1178f0e4f6360b53b96dd64746ce5a811243a790286be47f4316e6fbeab4", func := "smartcard/smartcardlaw15.FileheadKeeps", spec := "fileheadKeeps", inPlace := ["internal/bytealg.MakeNoZero"], unfollowed := true, recurses := true, named := ["smartcard/access.kinds"], loops := true, apart := false, laid := [("smartcard/access.kinds", laid_smartcard_access_kinds)] }
def FileheadKeepsSaid : Prop := fileheadKeepsRow.holds Tryd.pinned (OpenSpec.ofChange fileheadKeepsSpec)

/-- ITS FALSE NEIGHBOUR: 'it returns false'. Refute it at one input. -/
def fileheadKeepsWrong : ChangeSpec := { name := "fileheadKeeps", fn := fun _ => fun
  | [d1, d2] => { results := [.lit (.bool false)], args := [d1, d2] }
  | _ => none }
def FileheadKeepsWrongFalsely : Prop := fileheadKeepsRow.holds Tryd.pinned (OpenSpec.ofChange fileheadKeepsWrong)

/- THE SECOND FORM. 'bulk': how many values and letters a reading holds, each counted each time it is reached (what is shared counts as often as it is met; a slice's spare places count too). A statement '..UptoSaid' is the law's where the arguments, and the package variables that the reading takes, are together of bulk at most 1048576: NARROWER than '..Said'. Prove '..Said' where nothing that the law and all that it calls make is longer than what came in: it says more and counts as full. Else prove '..UptoSaid'. A law counts once. -/
mutual
def uptoBulk {H : Type} : DataW H → Nat
  | .lit (.string bytes) => bytes.length + 1
  | .lit _ => 1
  | .nil => 1
  | .ptr d => uptoBulk d + 1
  | .slice elems spare => uptoBulkAll elems + uptoBulkAll spare + 1
  | .agg parts => uptoBulkAll parts + 1
  | .iface _ d => uptoBulk d + 1
  | .map entries => uptoBulkEntries entries + 1
  | .held _ => 1
def uptoBulkAll {H : Type} : List (DataW H) → Nat
  | [] => 0
  | d :: r => uptoBulk d + uptoBulkAll r
def uptoBulkEntries {H : Type} : List (Lit × DataW H) → Nat
  | [] => 0
  | x :: r => uptoBulkEntry x + uptoBulkEntries r
def uptoBulkEntry {H : Type} : Lit × DataW H → Nat
  | (.string bytes, d) => bytes.length + uptoBulk d + 1
  | (_, d) => uptoBulk d + 1
 end
def uptoSmall : (H : Type) → List (DataW H) → Bool := fun _ ds => decide (uptoBulkAll ds ≤ 1048576)
def OpenSpec.upto (s : _root_.Go.ChangeSpec) : _root_.Go.OpenSpec := { _root_.Go.OpenSpec.ofChange s with cond := some uptoSmall }

/-- 'smartcardlaw15.FileheadChecks', WHERE WHAT IT READS IS OF BULK AT MOST 1048576: true; the input reads as it did. -/
def fileheadChecksUptoRow : OpenClaim := { program := "ytkjcafhaenkpbaadoor", sum := "245d1178f0e4f6360b53b96dd64746ce5a811243a790286be47f4316e6fbeab4", func := "smartcard/smartcardlaw15.FileheadChecks", spec := "fileheadChecks", inPlace := ["internal/bytealg.MakeNoZero"], unfollowed := true, recurses := true, named := ["smartcard/access.kinds"], loops := true, apart := false, laid := [("smartcard/access.kinds", laid_smartcard_access_kinds)], narrowed := true }
def FileheadChecksUptoSaid : Prop := fileheadChecksUptoRow.holds Tryd.pinned (OpenSpec.upto fileheadChecksSpec)

/-- 'smartcardlaw15.FileheadEncodes', WHERE WHAT IT READS IS OF BULK AT MOST 1048576: true; the input reads as it did. -/
def fileheadEncodesUptoRow : OpenClaim := { program := "ytkjcafhaenkpbaadoor", sum := "245d1178f0e4f6360b53b96dd64746ce5a811243a790286be47f4316e6fbeab4", func := "smartcard/smartcardlaw15.FileheadEncodes", spec := "fileheadEncodes", inPlace := ["internal/bytealg.MakeNoZero"], unfollowed := true, recurses := true, named := ["smartcard/access.kinds"], loops := true, apart := false, laid := [("smartcard/access.kinds", laid_smartcard_access_kinds)], narrowed := true }
def FileheadEncodesUptoSaid : Prop := fileheadEncodesUptoRow.holds Tryd.pinned (OpenSpec.upto fileheadEncodesSpec)

/-- 'smartcardlaw15.FileheadDecodes', WHERE WHAT IT READS IS OF BULK AT MOST 1048576: true; the input reads as it did. -/
def fileheadDecodesUptoRow : OpenClaim := { program := "ytkjcafhaenkpbaadoor", sum := "245d1178f0e4f6360b53b96dd64746ce5a811243a790286be47f4316e6fbeab4", func := "smartcard/smartcardlaw15.FileheadDecodes", spec := "fileheadDecodes", inPlace := ["internal/bytealg.MakeNoZero"], unfollowed := true, recurses := true, named := ["smartcard/access.kinds"], apart := false, laid := [("smartcard/access.kinds", laid_smartcard_access_kinds)], narrowed := true }
def FileheadDecodesUptoSaid : Prop := fileheadDecodesUptoRow.holds Tryd.pinned (OpenSpec.upto fileheadDecodesSpec)

/-- 'smartcardlaw15.FileheadFollows', WHERE WHAT IT READS IS OF BULK AT MOST 1048576: true; the input reads as it did. -/
def fileheadFollowsUptoRow : OpenClaim := { program := "ytkjcafhaenkpbaadoor", sum := "245d1178f0e4f6360b53b96dd64746ce5a811243a790286be47f4316e6fbeab4", func := "smartcard/smartcardlaw15.FileheadFollows", spec := "fileheadFollows", inPlace := ["internal/bytealg.MakeNoZero"], unfollowed := true, recurses := true, named := ["smartcard/access.kinds"], apart := false, laid := [("smartcard/access.kinds", laid_smartcard_access_kinds)], narrowed := true }
def FileheadFollowsUptoSaid : Prop := fileheadFollowsUptoRow.holds Tryd.pinned (OpenSpec.upto fileheadFollowsSpec)

/-- 'smartcardlaw15.FileheadSame', WHERE WHAT IT READS IS OF BULK AT MOST 1048576: true; the input reads as it did. -/
def fileheadSameUptoRow : OpenClaim := { program := "ytkjcafhaenkpbaadoor", sum := "245d1178f0e4f6360b53b96dd64746ce5a811243a790286be47f4316e6fbeab4", func := "smartcard/smartcardlaw15.FileheadSame", spec := "fileheadSame", inPlace := ["internal/bytealg.MakeNoZero"], unfollowed := true, recurses := true, named := ["smartcard/access.kinds"], loops := true, apart := false, laid := [("smartcard/access.kinds", laid_smartcard_access_kinds)], narrowed := true }
def FileheadSameUptoSaid : Prop := fileheadSameUptoRow.holds Tryd.pinned (OpenSpec.upto fileheadSameSpec)

/-- 'smartcardlaw15.FileheadRoundTrip', WHERE WHAT IT READS IS OF BULK AT MOST 1048576: true; the input reads as it did. -/
def fileheadRoundTripUptoRow : OpenClaim := { program := "ytkjcafhaenkpbaadoor", sum := "245d1178f0e4f6360b53b96dd64746ce5a811243a790286be47f4316e6fbeab4", func := "smartcard/smartcardlaw15.FileheadRoundTrip", spec := "fileheadRoundTrip", inPlace := ["internal/bytealg.MakeNoZero"], unfollowed := true, recurses := true, named := ["smartcard/access.kinds"], loops := true, apart := false, laid := [("smartcard/access.kinds", laid_smartcard_access_kinds)], narrowed := true }
def FileheadRoundTripUptoSaid : Prop := fileheadRoundTripUptoRow.holds Tryd.pinned (OpenSpec.upto fileheadRoundTripSpec)

/-- 'smartcardlaw15.FileheadKeeps', WHERE WHAT IT READS IS OF BULK AT MOST 1048576: true; the input reads as it did. -/
def fileheadKeepsUptoRow : OpenClaim := { program := "ytkjcafhaenkpbaadoor", sum := "245d1178f0e4f6360b53b96dd64746ce5a811243a790286be47f4316e6fbeab4", func := "smartcard/smartcardlaw15.FileheadKeeps", spec := "fileheadKeeps", inPlace := ["internal/bytealg.MakeNoZero"], unfollowed := true, recurses := true, named := ["smartcard/access.kinds"], loops := true, apart := false, laid := [("smartcard/access.kinds", laid_smartcard_access_kinds)], narrowed := true }
def FileheadKeepsUptoSaid : Prop := fileheadKeepsUptoRow.holds Tryd.pinned (OpenSpec.upto fileheadKeepsSpec)

end Rows
end Go.Proofs.YtkjcafhaenkpbaaDoor
