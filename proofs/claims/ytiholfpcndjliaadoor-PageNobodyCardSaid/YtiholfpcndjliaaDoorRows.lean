/-
  NARROWER THAN 'FOR EVERY INPUT', by the rows' own cells (each row's printed sentence says how): PagePlays: laid · PageCuts: laid · PageFixes: laid · PageDetects: laid · PageWears: laid · PageNobody: laid · JournalModel: laid · JournalAtomic: laid · JournalAgain: laid · JournalSmall: laid · JournalNil: laid.
  DERIVED. THE GIVEN ROWS OF THIS SEAT. 11 by the template 'for every input the law returns true; each argument reads behind the call as it read before'; 0 by the template 'total and deterministic' (their statements: YtiholfpcndjliaaDoorTotals.lean).
  GIVEN WITH THE SEED: the statements are not yours to turn. If you find one false, say at which input.
  Laid BY PROGRAM, IN A SANDBOX (cutbox-rows.mjs): the forced cells as the released guide's own fill.sh prints them over the translation e18e7c2d788e10a5… (all of the seat's roots in one cut). By AI agents, Wed Nov 11 2026. No macro, syntax, notation, axiom, sorry.
-/
import Derived.Test.YtiholfpcndjliaaDoorChecked
import GoSem.Claim
import GoSem.ClaimJoined
import GoSem.ClaimMapViews
import Derived.JoinedTies
import Derived.KernelRfl
namespace Go.Proofs.YtiholfpcndjliaaDoor
/- THE CELL 'sum', in the pinned program and in every row, IS THE sha256 OF THE DUMP (.gsa) THAT YtiholfpcndjliaaDoorProg.lean LOADS. Nothing in Lean hashes anything: it is a label: what it is worth is what the hold of that sum in a sandbox is worth. -/
noncomputable def Tryd.pinned : Pinned := { name := "ytiholfpcndjliaadoor", sum := "e18e7c2d788e10a5b4b464e907d057233c94d42f25262b2a54970f2143fa714e", checked := Tryd.checked }
namespace Rows
def none {H : Type} : Left H := { results := [], args := [] }

/- WHAT THE LISTED PACKAGE-LEVEL VARIABLES READ AS WHEN THE CALL BEGINS. Each datum BY PROGRAM (the guide's laid-datum.mjs) off the statement by which the dump's own 'gosem.cut.vars' lays the variable. In a bare row this is a premise. The card (YtiholfpcndjliaaDoorCards.lean) ties it to the program's text. -/
def laid_smartcard_ecc_places {H : Type} : DataW H := .agg [.lit (.int .i64 3), .lit (.int .i64 5), .lit (.int .i64 6), .lit (.int .i64 7), .lit (.int .i64 9), .lit (.int .i64 10), .lit (.int .i64 11), .lit (.int .i64 12), .lit (.int .i64 13), .lit (.int .i64 14), .lit (.int .i64 15), .lit (.int .i64 17), .lit (.int .i64 18), .lit (.int .i64 19), .lit (.int .i64 20), .lit (.int .i64 21), .lit (.int .i64 22), .lit (.int .i64 23), .lit (.int .i64 24), .lit (.int .i64 25), .lit (.int .i64 26), .lit (.int .i64 27), .lit (.int .i64 28), .lit (.int .i64 29)]
def laid_smartcard_ecc_groups {H : Type} : DataW H := .agg [.lit (.int .u32 2863311530), .lit (.int .u32 3435973836), .lit (.int .u32 4042322160), .lit (.int .u32 4278255360), .lit (.int .u32 4294901760), .lit (.int .u32 4294967295), .lit (.int .u32 1073741824), .lit (.int .u32 2147483648)]

/-- 'smartcardlaw11.PagePlays': WHATEVER THE INPUT: true; the input reads as it did. -/
def pagePlaysSpec : ChangeSpec := { name := "pagePlays", fn := fun _ => fun
  | [d1, d2] => { results := [.lit (.bool true)], args := [d1, d2] }
  | _ => none }
def pagePlaysRow : OpenClaim := { program := "ytiholfpcndjliaadoor", sum := "e18e7c2d788e10a5b4b464e907d057233c94d42f25262b2a54970f2143fa714e", func := "smartcard/smartcardlaw11.PagePlays", spec := "pagePlays", unfollowed := true, recurses := true, named := ["smartcard/ecc.groups", "smartcard/ecc.places"], apart := false, laid := [("smartcard/ecc.places", laid_smartcard_ecc_places), ("smartcard/ecc.groups", laid_smartcard_ecc_groups)] }
def PagePlaysSaid : Prop := pagePlaysRow.holds Tryd.pinned (OpenSpec.ofChange pagePlaysSpec)

/-- ITS FALSE NEIGHBOUR: 'it returns false'. Refute it at one input. -/
def pagePlaysWrong : ChangeSpec := { name := "pagePlays", fn := fun _ => fun
  | [d1, d2] => { results := [.lit (.bool false)], args := [d1, d2] }
  | _ => none }
def PagePlaysWrongFalsely : Prop := pagePlaysRow.holds Tryd.pinned (OpenSpec.ofChange pagePlaysWrong)

/-- 'smartcardlaw11.PageCuts': WHATEVER THE INPUT: true; the input reads as it did. -/
def pageCutsSpec : ChangeSpec := { name := "pageCuts", fn := fun _ => fun
  | [d1, d2, d3] => { results := [.lit (.bool true)], args := [d1, d2, d3] }
  | _ => none }
def pageCutsRow : OpenClaim := { program := "ytiholfpcndjliaadoor", sum := "e18e7c2d788e10a5b4b464e907d057233c94d42f25262b2a54970f2143fa714e", func := "smartcard/smartcardlaw11.PageCuts", spec := "pageCuts", unfollowed := true, recurses := true, named := ["smartcard/ecc.groups", "smartcard/ecc.places"], apart := false, laid := [("smartcard/ecc.places", laid_smartcard_ecc_places), ("smartcard/ecc.groups", laid_smartcard_ecc_groups)] }
def PageCutsSaid : Prop := pageCutsRow.holds Tryd.pinned (OpenSpec.ofChange pageCutsSpec)

/-- ITS FALSE NEIGHBOUR: 'it returns false'. Refute it at one input. -/
def pageCutsWrong : ChangeSpec := { name := "pageCuts", fn := fun _ => fun
  | [d1, d2, d3] => { results := [.lit (.bool false)], args := [d1, d2, d3] }
  | _ => none }
def PageCutsWrongFalsely : Prop := pageCutsRow.holds Tryd.pinned (OpenSpec.ofChange pageCutsWrong)

/-- 'smartcardlaw11.PageFixes': WHATEVER THE INPUT: true; the input reads as it did. -/
def pageFixesSpec : ChangeSpec := { name := "pageFixes", fn := fun _ => fun
  | [d1, d2, d3] => { results := [.lit (.bool true)], args := [d1, d2, d3] }
  | _ => none }
def pageFixesRow : OpenClaim := { program := "ytiholfpcndjliaadoor", sum := "e18e7c2d788e10a5b4b464e907d057233c94d42f25262b2a54970f2143fa714e", func := "smartcard/smartcardlaw11.PageFixes", spec := "pageFixes", unfollowed := true, recurses := true, named := ["smartcard/ecc.groups", "smartcard/ecc.places"], apart := false, laid := [("smartcard/ecc.places", laid_smartcard_ecc_places), ("smartcard/ecc.groups", laid_smartcard_ecc_groups)] }
def PageFixesSaid : Prop := pageFixesRow.holds Tryd.pinned (OpenSpec.ofChange pageFixesSpec)

/-- ITS FALSE NEIGHBOUR: 'it returns false'. Refute it at one input. -/
def pageFixesWrong : ChangeSpec := { name := "pageFixes", fn := fun _ => fun
  | [d1, d2, d3] => { results := [.lit (.bool false)], args := [d1, d2, d3] }
  | _ => none }
def PageFixesWrongFalsely : Prop := pageFixesRow.holds Tryd.pinned (OpenSpec.ofChange pageFixesWrong)

/-- 'smartcardlaw11.PageDetects': WHATEVER THE INPUT: true; the input reads as it did. -/
def pageDetectsSpec : ChangeSpec := { name := "pageDetects", fn := fun _ => fun
  | [d1, d2, d3, d4, d5] => { results := [.lit (.bool true)], args := [d1, d2, d3, d4, d5] }
  | _ => none }
def pageDetectsRow : OpenClaim := { program := "ytiholfpcndjliaadoor", sum := "e18e7c2d788e10a5b4b464e907d057233c94d42f25262b2a54970f2143fa714e", func := "smartcard/smartcardlaw11.PageDetects", spec := "pageDetects", unfollowed := true, recurses := true, named := ["smartcard/ecc.groups", "smartcard/ecc.places"], apart := false, laid := [("smartcard/ecc.places", laid_smartcard_ecc_places), ("smartcard/ecc.groups", laid_smartcard_ecc_groups)] }
def PageDetectsSaid : Prop := pageDetectsRow.holds Tryd.pinned (OpenSpec.ofChange pageDetectsSpec)

/-- ITS FALSE NEIGHBOUR: 'it returns false'. Refute it at one input. -/
def pageDetectsWrong : ChangeSpec := { name := "pageDetects", fn := fun _ => fun
  | [d1, d2, d3, d4, d5] => { results := [.lit (.bool false)], args := [d1, d2, d3, d4, d5] }
  | _ => none }
def PageDetectsWrongFalsely : Prop := pageDetectsRow.holds Tryd.pinned (OpenSpec.ofChange pageDetectsWrong)

/-- 'smartcardlaw11.PageWears': WHATEVER THE INPUT: true; the input reads as it did. -/
def pageWearsSpec : ChangeSpec := { name := "pageWears", fn := fun _ => fun
  | [d1, d2, d3] => { results := [.lit (.bool true)], args := [d1, d2, d3] }
  | _ => none }
def pageWearsRow : OpenClaim := { program := "ytiholfpcndjliaadoor", sum := "e18e7c2d788e10a5b4b464e907d057233c94d42f25262b2a54970f2143fa714e", func := "smartcard/smartcardlaw11.PageWears", spec := "pageWears", unfollowed := true, recurses := true, named := ["smartcard/ecc.groups", "smartcard/ecc.places"], apart := false, laid := [("smartcard/ecc.places", laid_smartcard_ecc_places), ("smartcard/ecc.groups", laid_smartcard_ecc_groups)] }
def PageWearsSaid : Prop := pageWearsRow.holds Tryd.pinned (OpenSpec.ofChange pageWearsSpec)

/-- ITS FALSE NEIGHBOUR: 'it returns false'. Refute it at one input. -/
def pageWearsWrong : ChangeSpec := { name := "pageWears", fn := fun _ => fun
  | [d1, d2, d3] => { results := [.lit (.bool false)], args := [d1, d2, d3] }
  | _ => none }
def PageWearsWrongFalsely : Prop := pageWearsRow.holds Tryd.pinned (OpenSpec.ofChange pageWearsWrong)

/-- 'smartcardlaw11.PageNobody': WHATEVER THE INPUT: true; the input reads as it did. -/
def pageNobodySpec : ChangeSpec := { name := "pageNobody", fn := fun _ => fun
  | [d1, d2] => { results := [.lit (.bool true)], args := [d1, d2] }
  | _ => none }
def pageNobodyRow : OpenClaim := { program := "ytiholfpcndjliaadoor", sum := "e18e7c2d788e10a5b4b464e907d057233c94d42f25262b2a54970f2143fa714e", func := "smartcard/smartcardlaw11.PageNobody", spec := "pageNobody", unfollowed := true, recurses := true, named := ["smartcard/ecc.groups", "smartcard/ecc.places"], apart := false, laid := [("smartcard/ecc.places", laid_smartcard_ecc_places), ("smartcard/ecc.groups", laid_smartcard_ecc_groups)] }
def PageNobodySaid : Prop := pageNobodyRow.holds Tryd.pinned (OpenSpec.ofChange pageNobodySpec)

/-- ITS FALSE NEIGHBOUR: 'it returns false'. Refute it at one input. -/
def pageNobodyWrong : ChangeSpec := { name := "pageNobody", fn := fun _ => fun
  | [d1, d2] => { results := [.lit (.bool false)], args := [d1, d2] }
  | _ => none }
def PageNobodyWrongFalsely : Prop := pageNobodyRow.holds Tryd.pinned (OpenSpec.ofChange pageNobodyWrong)

/-- 'smartcardlaw12.JournalModel': WHATEVER THE INPUT: true; the input reads as it did. -/
def journalModelSpec : ChangeSpec := { name := "journalModel", fn := fun _ => fun
  | [d1, d2, d3] => { results := [.lit (.bool true)], args := [d1, d2, d3] }
  | _ => none }
def journalModelRow : OpenClaim := { program := "ytiholfpcndjliaadoor", sum := "e18e7c2d788e10a5b4b464e907d057233c94d42f25262b2a54970f2143fa714e", func := "smartcard/smartcardlaw12.JournalModel", spec := "journalModel", unfollowed := true, recurses := true, named := ["smartcard/ecc.groups", "smartcard/ecc.places"], apart := false, laid := [("smartcard/ecc.places", laid_smartcard_ecc_places), ("smartcard/ecc.groups", laid_smartcard_ecc_groups)] }
def JournalModelSaid : Prop := journalModelRow.holds Tryd.pinned (OpenSpec.ofChange journalModelSpec)

/-- ITS FALSE NEIGHBOUR: 'it returns false'. Refute it at one input. -/
def journalModelWrong : ChangeSpec := { name := "journalModel", fn := fun _ => fun
  | [d1, d2, d3] => { results := [.lit (.bool false)], args := [d1, d2, d3] }
  | _ => none }
def JournalModelWrongFalsely : Prop := journalModelRow.holds Tryd.pinned (OpenSpec.ofChange journalModelWrong)

/-- 'smartcardlaw12.JournalAtomic': WHATEVER THE INPUT: true; the input reads as it did. -/
def journalAtomicSpec : ChangeSpec := { name := "journalAtomic", fn := fun _ => fun
  | [d1, d2, d3] => { results := [.lit (.bool true)], args := [d1, d2, d3] }
  | _ => none }
def journalAtomicRow : OpenClaim := { program := "ytiholfpcndjliaadoor", sum := "e18e7c2d788e10a5b4b464e907d057233c94d42f25262b2a54970f2143fa714e", func := "smartcard/smartcardlaw12.JournalAtomic", spec := "journalAtomic", unfollowed := true, recurses := true, named := ["smartcard/ecc.groups", "smartcard/ecc.places"], apart := false, laid := [("smartcard/ecc.places", laid_smartcard_ecc_places), ("smartcard/ecc.groups", laid_smartcard_ecc_groups)] }
def JournalAtomicSaid : Prop := journalAtomicRow.holds Tryd.pinned (OpenSpec.ofChange journalAtomicSpec)

/-- ITS FALSE NEIGHBOUR: 'it returns false'. Refute it at one input. -/
def journalAtomicWrong : ChangeSpec := { name := "journalAtomic", fn := fun _ => fun
  | [d1, d2, d3] => { results := [.lit (.bool false)], args := [d1, d2, d3] }
  | _ => none }
def JournalAtomicWrongFalsely : Prop := journalAtomicRow.holds Tryd.pinned (OpenSpec.ofChange journalAtomicWrong)

/-- 'smartcardlaw12.JournalAgain': WHATEVER THE INPUT: true; the input reads as it did. -/
def journalAgainSpec : ChangeSpec := { name := "journalAgain", fn := fun _ => fun
  | [d1, d2, d3] => { results := [.lit (.bool true)], args := [d1, d2, d3] }
  | _ => none }
def journalAgainRow : OpenClaim := { program := "ytiholfpcndjliaadoor", sum := "e18e7c2d788e10a5b4b464e907d057233c94d42f25262b2a54970f2143fa714e", func := "smartcard/smartcardlaw12.JournalAgain", spec := "journalAgain", unfollowed := true, recurses := true, named := ["smartcard/ecc.groups", "smartcard/ecc.places"], apart := false, laid := [("smartcard/ecc.places", laid_smartcard_ecc_places), ("smartcard/ecc.groups", laid_smartcard_ecc_groups)] }
def JournalAgainSaid : Prop := journalAgainRow.holds Tryd.pinned (OpenSpec.ofChange journalAgainSpec)

/-- ITS FALSE NEIGHBOUR: 'it returns false'. Refute it at one input. -/
def journalAgainWrong : ChangeSpec := { name := "journalAgain", fn := fun _ => fun
  | [d1, d2, d3] => { results := [.lit (.bool false)], args := [d1, d2, d3] }
  | _ => none }
def JournalAgainWrongFalsely : Prop := journalAgainRow.holds Tryd.pinned (OpenSpec.ofChange journalAgainWrong)

/-- 'smartcardlaw12.JournalSmall': WHATEVER THE INPUT: true; the input reads as it did. -/
def journalSmallSpec : ChangeSpec := { name := "journalSmall", fn := fun _ => fun
  | [d1, d2] => { results := [.lit (.bool true)], args := [d1, d2] }
  | _ => none }
def journalSmallRow : OpenClaim := { program := "ytiholfpcndjliaadoor", sum := "e18e7c2d788e10a5b4b464e907d057233c94d42f25262b2a54970f2143fa714e", func := "smartcard/smartcardlaw12.JournalSmall", spec := "journalSmall", unfollowed := true, recurses := true, named := ["smartcard/ecc.groups", "smartcard/ecc.places"], apart := false, laid := [("smartcard/ecc.places", laid_smartcard_ecc_places), ("smartcard/ecc.groups", laid_smartcard_ecc_groups)] }
def JournalSmallSaid : Prop := journalSmallRow.holds Tryd.pinned (OpenSpec.ofChange journalSmallSpec)

/-- ITS FALSE NEIGHBOUR: 'it returns false'. Refute it at one input. -/
def journalSmallWrong : ChangeSpec := { name := "journalSmall", fn := fun _ => fun
  | [d1, d2] => { results := [.lit (.bool false)], args := [d1, d2] }
  | _ => none }
def JournalSmallWrongFalsely : Prop := journalSmallRow.holds Tryd.pinned (OpenSpec.ofChange journalSmallWrong)

/-- 'smartcardlaw12.JournalNil': WHATEVER THE INPUT: true; the input reads as it did. -/
def journalNilSpec : ChangeSpec := { name := "journalNil", fn := fun _ => fun
  | [d1, d2, d3] => { results := [.lit (.bool true)], args := [d1, d2, d3] }
  | _ => none }
def journalNilRow : OpenClaim := { program := "ytiholfpcndjliaadoor", sum := "e18e7c2d788e10a5b4b464e907d057233c94d42f25262b2a54970f2143fa714e", func := "smartcard/smartcardlaw12.JournalNil", spec := "journalNil", unfollowed := true, recurses := true, named := ["smartcard/ecc.groups", "smartcard/ecc.places"], apart := false, laid := [("smartcard/ecc.places", laid_smartcard_ecc_places), ("smartcard/ecc.groups", laid_smartcard_ecc_groups)] }
def JournalNilSaid : Prop := journalNilRow.holds Tryd.pinned (OpenSpec.ofChange journalNilSpec)

/-- ITS FALSE NEIGHBOUR: 'it returns false'. Refute it at one input. -/
def journalNilWrong : ChangeSpec := { name := "journalNil", fn := fun _ => fun
  | [d1, d2, d3] => { results := [.lit (.bool false)], args := [d1, d2, d3] }
  | _ => none }
def JournalNilWrongFalsely : Prop := journalNilRow.holds Tryd.pinned (OpenSpec.ofChange journalNilWrong)

/- THE SECOND FORM. 'bulk': how many values and letters a reading holds, each counted each time it is reached (what is shared counts as often as it is met; a slice's spare places count too). A statement '..UptoSaid' is the law's where the arguments, and the package variables that the reading takes, are together of bulk at most 1048576: NARROWER than '..Said'. Prove '..Said' where nothing that the law and all that it calls make is longer than what came in: it says more and counts as full. Else prove '..UptoSaid'. A law counts once. -/
mutual
def uptoBulk {H : Type} : DataW H → Nat
  | .lit (.string bytes) => bytes.length + 1
  | .lit _ => 1
  | .nil => 1
  | .ptr d => uptoBulk d + 1
  | .slice elems spare => uptoBulkAll elems + uptoBulkAll spare + 1
  | .agg parts => uptoBulkAll parts + 1
  | .iface _ d => uptoBulk d + 1
  | .map entries => uptoBulkEntries entries + 1
  | .held _ => 1
def uptoBulkAll {H : Type} : List (DataW H) → Nat
  | [] => 0
  | d :: r => uptoBulk d + uptoBulkAll r
def uptoBulkEntries {H : Type} : List (Lit × DataW H) → Nat
  | [] => 0
  | x :: r => uptoBulkEntry x + uptoBulkEntries r
def uptoBulkEntry {H : Type} : Lit × DataW H → Nat
  | (.string bytes, d) => bytes.length + uptoBulk d + 1
  | (_, d) => uptoBulk d + 1
 end
def uptoSmall : (H : Type) → List (DataW H) → Bool := fun _ ds => decide (uptoBulkAll ds ≤ 1048576)
def OpenSpec.upto (s : _root_.Go.ChangeSpec) : _root_.Go.OpenSpec := { _root_.Go.OpenSpec.ofChange s with cond := some uptoSmall }

/-- 'smartcardlaw11.PagePlays', WHERE WHAT IT READS IS OF BULK AT MOST 1048576: true; the input reads as it did. -/
def pagePlaysUptoRow : OpenClaim := { program := "ytiholfpcndjliaadoor", sum := "e18e7c2d788e10a5b4b464e907d057233c94d42f25262b2a54970f2143fa714e", func := "smartcard/smartcardlaw11.PagePlays", spec := "pagePlays", unfollowed := true, recurses := true, named := ["smartcard/ecc.groups", "smartcard/ecc.places"], apart := false, laid := [("smartcard/ecc.places", laid_smartcard_ecc_places), ("smartcard/ecc.groups", laid_smartcard_ecc_groups)], narrowed := true }
def PagePlaysUptoSaid : Prop := pagePlaysUptoRow.holds Tryd.pinned (OpenSpec.upto pagePlaysSpec)

/-- 'smartcardlaw11.PageCuts', WHERE WHAT IT READS IS OF BULK AT MOST 1048576: true; the input reads as it did. -/
def pageCutsUptoRow : OpenClaim := { program := "ytiholfpcndjliaadoor", sum := "e18e7c2d788e10a5b4b464e907d057233c94d42f25262b2a54970f2143fa714e", func := "smartcard/smartcardlaw11.PageCuts", spec := "pageCuts", unfollowed := true, recurses := true, named := ["smartcard/ecc.groups", "smartcard/ecc.places"], apart := false, laid := [("smartcard/ecc.places", laid_smartcard_ecc_places), ("smartcard/ecc.groups", laid_smartcard_ecc_groups)], narrowed := true }
def PageCutsUptoSaid : Prop := pageCutsUptoRow.holds Tryd.pinned (OpenSpec.upto pageCutsSpec)

/-- 'smartcardlaw11.PageFixes', WHERE WHAT IT READS IS OF BULK AT MOST 1048576: true; the input reads as it did. -/
def pageFixesUptoRow : OpenClaim := { program := "ytiholfpcndjliaadoor", sum := "e18e7c2d788e10a5b4b464e907d057233c94d42f25262b2a54970f2143fa714e", func := "smartcard/smartcardlaw11.PageFixes", spec := "pageFixes", unfollowed := true, recurses := true, named := ["smartcard/ecc.groups", "smartcard/ecc.places"], apart := false, laid := [("smartcard/ecc.places", laid_smartcard_ecc_places), ("smartcard/ecc.groups", laid_smartcard_ecc_groups)], narrowed := true }
def PageFixesUptoSaid : Prop := pageFixesUptoRow.holds Tryd.pinned (OpenSpec.upto pageFixesSpec)

/-- 'smartcardlaw11.PageDetects', WHERE WHAT IT READS IS OF BULK AT MOST 1048576: true; the input reads as it did. -/
def pageDetectsUptoRow : OpenClaim := { program := "ytiholfpcndjliaadoor", sum := "e18e7c2d788e10a5b4b464e907d057233c94d42f25262b2a54970f2143fa714e", func := "smartcard/smartcardlaw11.PageDetects", spec := "pageDetects", unfollowed := true, recurses := true, named := ["smartcard/ecc.groups", "smartcard/ecc.places"], apart := false, laid := [("smartcard/ecc.places", laid_smartcard_ecc_places), ("smartcard/ecc.groups", laid_smartcard_ecc_groups)], narrowed := true }
def PageDetectsUptoSaid : Prop := pageDetectsUptoRow.holds Tryd.pinned (OpenSpec.upto pageDetectsSpec)

/-- 'smartcardlaw11.PageWears', WHERE WHAT IT READS IS OF BULK AT MOST 1048576: true; the input reads as it did. -/
def pageWearsUptoRow : OpenClaim := { program := "ytiholfpcndjliaadoor", sum := "e18e7c2d788e10a5b4b464e907d057233c94d42f25262b2a54970f2143fa714e", func := "smartcard/smartcardlaw11.PageWears", spec := "pageWears", unfollowed := true, recurses := true, named := ["smartcard/ecc.groups", "smartcard/ecc.places"], apart := false, laid := [("smartcard/ecc.places", laid_smartcard_ecc_places), ("smartcard/ecc.groups", laid_smartcard_ecc_groups)], narrowed := true }
def PageWearsUptoSaid : Prop := pageWearsUptoRow.holds Tryd.pinned (OpenSpec.upto pageWearsSpec)

/-- 'smartcardlaw11.PageNobody', WHERE WHAT IT READS IS OF BULK AT MOST 1048576: true; the input reads as it did. -/
def pageNobodyUptoRow : OpenClaim := { program := "ytiholfpcndjliaadoor", sum := "e18e7c2d788e10a5b4b464e907d057233c94d42f25262b2a54970f2143fa714e", func := "smartcard/smartcardlaw11.PageNobody", spec := "pageNobody", unfollowed := true, recurses := true, named := ["smartcard/ecc.groups", "smartcard/ecc.places"], apart := false, laid := [("smartcard/ecc.places", laid_smartcard_ecc_places), ("smartcard/ecc.groups", laid_smartcard_ecc_groups)], narrowed := true }
def PageNobodyUptoSaid : Prop := pageNobodyUptoRow.holds Tryd.pinned (OpenSpec.upto pageNobodySpec)

/-- 'smartcardlaw12.JournalModel', WHERE WHAT IT READS IS OF BULK AT MOST 1048576: true; the input reads as it did. -/
def journalModelUptoRow : OpenClaim := { program := "ytiholfpcndjliaadoor", sum := "e18e7c2d788e10a5b4b464e907d057233c94d42f25262b2a54970f2143fa714e", func := "smartcard/smartcardlaw12.JournalModel", spec := "journalModel", unfollowed := true, recurses := true, named := ["smartcard/ecc.groups", "smartcard/ecc.places"], apart := false, laid := [("smartcard/ecc.places", laid_smartcard_ecc_places), ("smartcard/ecc.groups", laid_smartcard_ecc_groups)], narrowed := true }
def JournalModelUptoSaid : Prop := journalModelUptoRow.holds Tryd.pinned (OpenSpec.upto journalModelSpec)

/-- 'smartcardlaw12.JournalAtomic', WHERE WHAT IT READS IS OF BULK AT MOST 1048576: true; the input reads as it did. -/
def journalAtomicUptoRow : OpenClaim := { program := "ytiholfpcndjliaadoor", sum := "e18e7c2d788e10a5b4b464e907d057233c94d42f25262b2a54970f2143fa714e", func := "smartcard/smartcardlaw12.JournalAtomic", spec := "journalAtomic", unfollowed := true, recurses := true, named := ["smartcard/ecc.groups", "smartcard/ecc.places"], apart := false, laid := [("smartcard/ecc.places", laid_smartcard_ecc_places), ("smartcard/ecc.groups", laid_smartcard_ecc_groups)], narrowed := true }
def JournalAtomicUptoSaid : Prop := journalAtomicUptoRow.holds Tryd.pinned (OpenSpec.upto journalAtomicSpec)

/-- 'smartcardlaw12.JournalAgain', WHERE WHAT IT READS IS OF BULK AT MOST 1048576: true; the input reads as it did. -/
def journalAgainUptoRow : OpenClaim := { program := "ytiholfpcndjliaadoor", sum := "e18e7c2d788e10a5b4b464e907d057233c94d42f25262b2a54970f2143fa714e", func := "smartcard/smartcardlaw12.JournalAgain", spec := "journalAgain", unfollowed := true, recurses := true, named := ["smartcard/ecc.groups", "smartcard/ecc.places"], apart := false, laid := [("smartcard/ecc.places", laid_smartcard_ecc_places), ("smartcard/ecc.groups", laid_smartcard_ecc_groups)], narrowed := true }
def JournalAgainUptoSaid : Prop := journalAgainUptoRow.holds Tryd.pinned (OpenSpec.upto journalAgainSpec)

/-- 'smartcardlaw12.JournalSmall', WHERE WHAT IT READS IS OF BULK AT MOST 1048576: true; the input reads as it did. -/
def journalSmallUptoRow : OpenClaim := { program := "ytiholfpcndjliaadoor", sum := "e18e7c2d788e10a5b4b464e907d057233c94d42f25262b2a54970f2143fa714e", func := "smartcard/smartcardlaw12.JournalSmall", spec := "journalSmall", unfollowed := true, recurses := true, named := ["smartcard/ecc.groups", "smartcard/ecc.places"], apart := false, laid := [("smartcard/ecc.places", laid_smartcard_ecc_places), ("smartcard/ecc.groups", laid_smartcard_ecc_groups)], narrowed := true }
def JournalSmallUptoSaid : Prop := journalSmallUptoRow.holds Tryd.pinned (OpenSpec.upto journalSmallSpec)

/-- 'smartcardlaw12.JournalNil', WHERE WHAT IT READS IS OF BULK AT MOST 1048576: true; the input reads as it did. -/
def journalNilUptoRow : OpenClaim := { program := "ytiholfpcndjliaadoor", sum := "e18e7c2d788e10a5b4b464e907d057233c94d42f25262b2a54970f2143fa714e", func := "smartcard/smartcardlaw12.JournalNil", spec := "journalNil", unfollowed := true, recurses := true, named := ["smartcard/ecc.groups", "smartcard/ecc.places"], apart := false, laid := [("smartcard/ecc.places", laid_smartcard_ecc_places), ("smartcard/ecc.groups", laid_smartcard_ecc_groups)], narrowed := true }
def JournalNilUptoSaid : Prop := journalNilUptoRow.holds Tryd.pinned (OpenSpec.upto journalNilSpec)

end Rows
end Go.Proofs.YtiholfpcndjliaaDoor
