/-
  NARROWER THAN 'FOR EVERY INPUT', by the rows' own cells (each row's printed sentence says how): TlvEncodes: loops · TlvFinds: loops · TlvCompares: loops · TlvShows: loops · TlvBack: loops · TlvJoins: loops · TlvTexts: loops.
  DERIVED. THE GIVEN ROWS OF THIS SEAT. 16 by the template 'for every input the law returns true; each argument reads behind the call as it read before'; 0 by the template 'total and deterministic' (their statements: YtahnmnbjgbfeaaaTotals.lean).
  GIVEN WITH THE SEED: the statements are not yours to turn. If you find one false, say at which input.
  Laid BY PROGRAM, IN A SANDBOX (cutbox-rows.mjs): the forced cells as the released guide's own fill.sh prints them over the translation c837336007315576… (all of the seat's roots in one cut). By AI agents, Wed Nov 11 2026. No macro, syntax, notation, axiom, sorry.
-/
import Derived.Test.YtahnmnbjgbfeaaaChecked
import GoSem.Claim
import GoSem.ClaimJoined
import GoSem.ClaimMapViews
import Derived.JoinedTies
import Derived.KernelRfl
namespace Go.Proofs.Ytahnmnbjgbfeaaa
/- THE CELL 'sum', in the pinned program and in every row, IS THE sha256 OF THE DUMP (.gsa) THAT YtahnmnbjgbfeaaaProg.lean LOADS. Nothing in Lean hashes anything: it is a label: what it is worth is what the hold of that sum in a sandbox is worth. -/
noncomputable def Try.pinned : Pinned := { name := "ytahnmnbjgbfeaaa", sum := "c837336007315576190f80d7667791e36c9ddcd6dbea67ad109ff25bd67a32bc", checked := Try.checked }
namespace Rows
def none {H : Type} : Left H := { results := [], args := [] }

/-- 'smartcardlaw01.OctetsHex': WHATEVER THE INPUT: true; the input reads as it did. -/
def octetsHexSpec : ChangeSpec := { name := "octetsHex", fn := fun _ => fun
  | [d1, d2] => { results := [.lit (.bool true)], args := [d1, d2] }
  | _ => none }
def octetsHexRow : OpenClaim := { program := "ytahnmnbjgbfeaaa", sum := "c837336007315576190f80d7667791e36c9ddcd6dbea67ad109ff25bd67a32bc", func := "smartcard/smartcardlaw01.OctetsHex", spec := "octetsHex", apart := false }
def OctetsHexSaid : Prop := octetsHexRow.holds Try.pinned (OpenSpec.ofChange octetsHexSpec)

/-- ITS FALSE NEIGHBOUR: 'it returns false'. Refute it at one input. -/
def octetsHexWrong : ChangeSpec := { name := "octetsHex", fn := fun _ => fun
  | [d1, d2] => { results := [.lit (.bool false)], args := [d1, d2] }
  | _ => none }
def OctetsHexWrongFalsely : Prop := octetsHexRow.holds Try.pinned (OpenSpec.ofChange octetsHexWrong)

/-- 'smartcardlaw01.OctetsOrders': WHATEVER THE INPUT: true; the input reads as it did. -/
def octetsOrdersSpec : ChangeSpec := { name := "octetsOrders", fn := fun _ => fun
  | [d1, d2, d3] => { results := [.lit (.bool true)], args := [d1, d2, d3] }
  | _ => none }
def octetsOrdersRow : OpenClaim := { program := "ytahnmnbjgbfeaaa", sum := "c837336007315576190f80d7667791e36c9ddcd6dbea67ad109ff25bd67a32bc", func := "smartcard/smartcardlaw01.OctetsOrders", spec := "octetsOrders", inPlace := ["internal/bytealg.Compare"], apart := false }
def OctetsOrdersSaid : Prop := octetsOrdersRow.holds Try.pinned (OpenSpec.ofChange octetsOrdersSpec)

/-- ITS FALSE NEIGHBOUR: 'it returns false'. Refute it at one input. -/
def octetsOrdersWrong : ChangeSpec := { name := "octetsOrders", fn := fun _ => fun
  | [d1, d2, d3] => { results := [.lit (.bool false)], args := [d1, d2, d3] }
  | _ => none }
def OctetsOrdersWrongFalsely : Prop := octetsOrdersRow.holds Try.pinned (OpenSpec.ofChange octetsOrdersWrong)

/-- 'smartcardlaw01.OctetsXor': WHATEVER THE INPUT: true; the input reads as it did. -/
def octetsXorSpec : ChangeSpec := { name := "octetsXor", fn := fun _ => fun
  | [d1, d2] => { results := [.lit (.bool true)], args := [d1, d2] }
  | _ => none }
def octetsXorRow : OpenClaim := { program := "ytahnmnbjgbfeaaa", sum := "c837336007315576190f80d7667791e36c9ddcd6dbea67ad109ff25bd67a32bc", func := "smartcard/smartcardlaw01.OctetsXor", spec := "octetsXor", apart := false }
def OctetsXorSaid : Prop := octetsXorRow.holds Try.pinned (OpenSpec.ofChange octetsXorSpec)

/-- ITS FALSE NEIGHBOUR: 'it returns false'. Refute it at one input. -/
def octetsXorWrong : ChangeSpec := { name := "octetsXor", fn := fun _ => fun
  | [d1, d2] => { results := [.lit (.bool false)], args := [d1, d2] }
  | _ => none }
def OctetsXorWrongFalsely : Prop := octetsXorRow.holds Try.pinned (OpenSpec.ofChange octetsXorWrong)

/-- 'smartcardlaw01.OctetsPads': WHATEVER THE INPUT: true; the input reads as it did. -/
def octetsPadsSpec : ChangeSpec := { name := "octetsPads", fn := fun _ => fun
  | [d1, d2] => { results := [.lit (.bool true)], args := [d1, d2] }
  | _ => none }
def octetsPadsRow : OpenClaim := { program := "ytahnmnbjgbfeaaa", sum := "c837336007315576190f80d7667791e36c9ddcd6dbea67ad109ff25bd67a32bc", func := "smartcard/smartcardlaw01.OctetsPads", spec := "octetsPads", apart := false }
def OctetsPadsSaid : Prop := octetsPadsRow.holds Try.pinned (OpenSpec.ofChange octetsPadsSpec)

/-- ITS FALSE NEIGHBOUR: 'it returns false'. Refute it at one input. -/
def octetsPadsWrong : ChangeSpec := { name := "octetsPads", fn := fun _ => fun
  | [d1, d2] => { results := [.lit (.bool false)], args := [d1, d2] }
  | _ => none }
def OctetsPadsWrongFalsely : Prop := octetsPadsRow.holds Try.pinned (OpenSpec.ofChange octetsPadsWrong)

/-- 'smartcardlaw01.OctetsNumbers': WHATEVER THE INPUT: true; the input reads as it did. -/
def octetsNumbersSpec : ChangeSpec := { name := "octetsNumbers", fn := fun _ => fun
  | [d1, d2, d3] => { results := [.lit (.bool true)], args := [d1, d2, d3] }
  | _ => none }
def octetsNumbersRow : OpenClaim := { program := "ytahnmnbjgbfeaaa", sum := "c837336007315576190f80d7667791e36c9ddcd6dbea67ad109ff25bd67a32bc", func := "smartcard/smartcardlaw01.OctetsNumbers", spec := "octetsNumbers", apart := false }
def OctetsNumbersSaid : Prop := octetsNumbersRow.holds Try.pinned (OpenSpec.ofChange octetsNumbersSpec)

/-- ITS FALSE NEIGHBOUR: 'it returns false'. Refute it at one input. -/
def octetsNumbersWrong : ChangeSpec := { name := "octetsNumbers", fn := fun _ => fun
  | [d1, d2, d3] => { results := [.lit (.bool false)], args := [d1, d2, d3] }
  | _ => none }
def OctetsNumbersWrongFalsely : Prop := octetsNumbersRow.holds Try.pinned (OpenSpec.ofChange octetsNumbersWrong)

/-- 'smartcardlaw01.OctetsPieces': WHATEVER THE INPUT: true; the input reads as it did. -/
def octetsPiecesSpec : ChangeSpec := { name := "octetsPieces", fn := fun _ => fun
  | [d1, d2] => { results := [.lit (.bool true)], args := [d1, d2] }
  | _ => none }
def octetsPiecesRow : OpenClaim := { program := "ytahnmnbjgbfeaaa", sum := "c837336007315576190f80d7667791e36c9ddcd6dbea67ad109ff25bd67a32bc", func := "smartcard/smartcardlaw01.OctetsPieces", spec := "octetsPieces", inPlace := ["internal/bytealg.MakeNoZero"], apart := false }
def OctetsPiecesSaid : Prop := octetsPiecesRow.holds Try.pinned (OpenSpec.ofChange octetsPiecesSpec)

/-- ITS FALSE NEIGHBOUR: 'it returns false'. Refute it at one input. -/
def octetsPiecesWrong : ChangeSpec := { name := "octetsPieces", fn := fun _ => fun
  | [d1, d2] => { results := [.lit (.bool false)], args := [d1, d2] }
  | _ => none }
def OctetsPiecesWrongFalsely : Prop := octetsPiecesRow.holds Try.pinned (OpenSpec.ofChange octetsPiecesWrong)

/-- 'smartcardlaw01.OctetsRoundTrip': WHATEVER THE INPUT: true; the input reads as it did. -/
def octetsRoundTripSpec : ChangeSpec := { name := "octetsRoundTrip", fn := fun _ => fun
  | [d1, d2, d3] => { results := [.lit (.bool true)], args := [d1, d2, d3] }
  | _ => none }
def octetsRoundTripRow : OpenClaim := { program := "ytahnmnbjgbfeaaa", sum := "c837336007315576190f80d7667791e36c9ddcd6dbea67ad109ff25bd67a32bc", func := "smartcard/smartcardlaw01.OctetsRoundTrip", spec := "octetsRoundTrip", inPlace := ["internal/bytealg.MakeNoZero"], apart := false }
def OctetsRoundTripSaid : Prop := octetsRoundTripRow.holds Try.pinned (OpenSpec.ofChange octetsRoundTripSpec)

/-- ITS FALSE NEIGHBOUR: 'it returns false'. Refute it at one input. -/
def octetsRoundTripWrong : ChangeSpec := { name := "octetsRoundTrip", fn := fun _ => fun
  | [d1, d2, d3] => { results := [.lit (.bool false)], args := [d1, d2, d3] }
  | _ => none }
def OctetsRoundTripWrongFalsely : Prop := octetsRoundTripRow.holds Try.pinned (OpenSpec.ofChange octetsRoundTripWrong)

/-- 'smartcardlaw02.TlvTags': WHATEVER THE INPUT: true; the input reads as it did. -/
def tlvTagsSpec : ChangeSpec := { name := "tlvTags", fn := fun _ => fun
  | [d] => { results := [.lit (.bool true)], args := [d] }
  | _ => none }
def tlvTagsRow : OpenClaim := { program := "ytahnmnbjgbfeaaa", sum := "c837336007315576190f80d7667791e36c9ddcd6dbea67ad109ff25bd67a32bc", func := "smartcard/smartcardlaw02.TlvTags", spec := "tlvTags", inPlace := ["internal/bytealg.MakeNoZero", "internal/abi.NoEscape"], recurses := true, apart := false }
def TlvTagsSaid : Prop := tlvTagsRow.holds Try.pinned (OpenSpec.ofChange tlvTagsSpec)

/-- ITS FALSE NEIGHBOUR: 'it returns false'. Refute it at one input. -/
def tlvTagsWrong : ChangeSpec := { name := "tlvTags", fn := fun _ => fun
  | [d] => { results := [.lit (.bool false)], args := [d] }
  | _ => none }
def TlvTagsWrongFalsely : Prop := tlvTagsRow.holds Try.pinned (OpenSpec.ofChange tlvTagsWrong)

/-- 'smartcardlaw02.TlvEncodes': WHATEVER THE INPUT: true; the input reads as it did. -/
def tlvEncodesSpec : ChangeSpec := { name := "tlvEncodes", fn := fun _ => fun
  | [d] => { results := [.lit (.bool true)], args := [d] }
  | _ => none }
def tlvEncodesRow : OpenClaim := { program := "ytahnmnbjgbfeaaa", sum := "c837336007315576190f80d7667791e36c9ddcd6dbea67ad109ff25bd67a32bc", func := "smartcard/smartcardlaw02.TlvEncodes", spec := "tlvEncodes", inPlace := ["internal/bytealg.MakeNoZero", "internal/abi.NoEscape"], recurses := true, loops := true, apart := false }
def TlvEncodesSaid : Prop := tlvEncodesRow.holds Try.pinned (OpenSpec.ofChange tlvEncodesSpec)

/-- ITS FALSE NEIGHBOUR: 'it returns false'. Refute it at one input. -/
def tlvEncodesWrong : ChangeSpec := { name := "tlvEncodes", fn := fun _ => fun
  | [d] => { results := [.lit (.bool false)], args := [d] }
  | _ => none }
def TlvEncodesWrongFalsely : Prop := tlvEncodesRow.holds Try.pinned (OpenSpec.ofChange tlvEncodesWrong)

/-- 'smartcardlaw02.TlvDecodes': WHATEVER THE INPUT: true; the input reads as it did. -/
def tlvDecodesSpec : ChangeSpec := { name := "tlvDecodes", fn := fun _ => fun
  | [d] => { results := [.lit (.bool true)], args := [d] }
  | _ => none }
def tlvDecodesRow : OpenClaim := { program := "ytahnmnbjgbfeaaa", sum := "c837336007315576190f80d7667791e36c9ddcd6dbea67ad109ff25bd67a32bc", func := "smartcard/smartcardlaw02.TlvDecodes", spec := "tlvDecodes", inPlace := ["internal/bytealg.MakeNoZero", "internal/abi.NoEscape"], recurses := true, apart := false }
def TlvDecodesSaid : Prop := tlvDecodesRow.holds Try.pinned (OpenSpec.ofChange tlvDecodesSpec)

/-- ITS FALSE NEIGHBOUR: 'it returns false'. Refute it at one input. -/
def tlvDecodesWrong : ChangeSpec := { name := "tlvDecodes", fn := fun _ => fun
  | [d] => { results := [.lit (.bool false)], args := [d] }
  | _ => none }
def TlvDecodesWrongFalsely : Prop := tlvDecodesRow.holds Try.pinned (OpenSpec.ofChange tlvDecodesWrong)

/-- 'smartcardlaw02.TlvFinds': WHATEVER THE INPUT: true; the input reads as it did. -/
def tlvFindsSpec : ChangeSpec := { name := "tlvFinds", fn := fun _ => fun
  | [d1, d2] => { results := [.lit (.bool true)], args := [d1, d2] }
  | _ => none }
def tlvFindsRow : OpenClaim := { program := "ytahnmnbjgbfeaaa", sum := "c837336007315576190f80d7667791e36c9ddcd6dbea67ad109ff25bd67a32bc", func := "smartcard/smartcardlaw02.TlvFinds", spec := "tlvFinds", inPlace := ["internal/bytealg.MakeNoZero", "internal/abi.NoEscape"], unfollowed := true, recurses := true, loops := true, apart := false }
def TlvFindsSaid : Prop := tlvFindsRow.holds Try.pinned (OpenSpec.ofChange tlvFindsSpec)

/-- ITS FALSE NEIGHBOUR: 'it returns false'. Refute it at one input. -/
def tlvFindsWrong : ChangeSpec := { name := "tlvFinds", fn := fun _ => fun
  | [d1, d2] => { results := [.lit (.bool false)], args := [d1, d2] }
  | _ => none }
def TlvFindsWrongFalsely : Prop := tlvFindsRow.holds Try.pinned (OpenSpec.ofChange tlvFindsWrong)

/-- 'smartcardlaw02.TlvCompares': WHATEVER THE INPUT: true; the input reads as it did. -/
def tlvComparesSpec : ChangeSpec := { name := "tlvCompares", fn := fun _ => fun
  | [d1, d2] => { results := [.lit (.bool true)], args := [d1, d2] }
  | _ => none }
def tlvComparesRow : OpenClaim := { program := "ytahnmnbjgbfeaaa", sum := "c837336007315576190f80d7667791e36c9ddcd6dbea67ad109ff25bd67a32bc", func := "smartcard/smartcardlaw02.TlvCompares", spec := "tlvCompares", inPlace := ["internal/bytealg.MakeNoZero", "internal/abi.NoEscape"], unfollowed := true, recurses := true, loops := true, apart := false }
def TlvComparesSaid : Prop := tlvComparesRow.holds Try.pinned (OpenSpec.ofChange tlvComparesSpec)

/-- ITS FALSE NEIGHBOUR: 'it returns false'. Refute it at one input. -/
def tlvComparesWrong : ChangeSpec := { name := "tlvCompares", fn := fun _ => fun
  | [d1, d2] => { results := [.lit (.bool false)], args := [d1, d2] }
  | _ => none }
def TlvComparesWrongFalsely : Prop := tlvComparesRow.holds Try.pinned (OpenSpec.ofChange tlvComparesWrong)

/-- 'smartcardlaw02.TlvShows': WHATEVER THE INPUT: true; the input reads as it did. -/
def tlvShowsSpec : ChangeSpec := { name := "tlvShows", fn := fun _ => fun
  | [d] => { results := [.lit (.bool true)], args := [d] }
  | _ => none }
def tlvShowsRow : OpenClaim := { program := "ytahnmnbjgbfeaaa", sum := "c837336007315576190f80d7667791e36c9ddcd6dbea67ad109ff25bd67a32bc", func := "smartcard/smartcardlaw02.TlvShows", spec := "tlvShows", inPlace := ["internal/bytealg.MakeNoZero", "internal/abi.NoEscape"], recurses := true, loops := true, apart := false }
def TlvShowsSaid : Prop := tlvShowsRow.holds Try.pinned (OpenSpec.ofChange tlvShowsSpec)

/-- ITS FALSE NEIGHBOUR: 'it returns false'. Refute it at one input. -/
def tlvShowsWrong : ChangeSpec := { name := "tlvShows", fn := fun _ => fun
  | [d] => { results := [.lit (.bool false)], args := [d] }
  | _ => none }
def TlvShowsWrongFalsely : Prop := tlvShowsRow.holds Try.pinned (OpenSpec.ofChange tlvShowsWrong)

/-- 'smartcardlaw02.TlvBack': WHATEVER THE INPUT: true; the input reads as it did. -/
def tlvBackSpec : ChangeSpec := { name := "tlvBack", fn := fun _ => fun
  | [d1, d2] => { results := [.lit (.bool true)], args := [d1, d2] }
  | _ => none }
def tlvBackRow : OpenClaim := { program := "ytahnmnbjgbfeaaa", sum := "c837336007315576190f80d7667791e36c9ddcd6dbea67ad109ff25bd67a32bc", func := "smartcard/smartcardlaw02.TlvBack", spec := "tlvBack", inPlace := ["internal/bytealg.MakeNoZero", "internal/abi.NoEscape"], recurses := true, loops := true, apart := false }
def TlvBackSaid : Prop := tlvBackRow.holds Try.pinned (OpenSpec.ofChange tlvBackSpec)

/-- ITS FALSE NEIGHBOUR: 'it returns false'. Refute it at one input. -/
def tlvBackWrong : ChangeSpec := { name := "tlvBack", fn := fun _ => fun
  | [d1, d2] => { results := [.lit (.bool false)], args := [d1, d2] }
  | _ => none }
def TlvBackWrongFalsely : Prop := tlvBackRow.holds Try.pinned (OpenSpec.ofChange tlvBackWrong)

/-- 'smartcardlaw02.TlvJoins': WHATEVER THE INPUT: true; the input reads as it did. -/
def tlvJoinsSpec : ChangeSpec := { name := "tlvJoins", fn := fun _ => fun
  | [d1, d2] => { results := [.lit (.bool true)], args := [d1, d2] }
  | _ => none }
def tlvJoinsRow : OpenClaim := { program := "ytahnmnbjgbfeaaa", sum := "c837336007315576190f80d7667791e36c9ddcd6dbea67ad109ff25bd67a32bc", func := "smartcard/smartcardlaw02.TlvJoins", spec := "tlvJoins", inPlace := ["internal/bytealg.MakeNoZero", "internal/abi.NoEscape"], recurses := true, loops := true, apart := false }
def TlvJoinsSaid : Prop := tlvJoinsRow.holds Try.pinned (OpenSpec.ofChange tlvJoinsSpec)

/-- ITS FALSE NEIGHBOUR: 'it returns false'. Refute it at one input. -/
def tlvJoinsWrong : ChangeSpec := { name := "tlvJoins", fn := fun _ => fun
  | [d1, d2] => { results := [.lit (.bool false)], args := [d1, d2] }
  | _ => none }
def TlvJoinsWrongFalsely : Prop := tlvJoinsRow.holds Try.pinned (OpenSpec.ofChange tlvJoinsWrong)

/-- 'smartcardlaw02.TlvTexts': WHATEVER THE INPUT: true; the input reads as it did. -/
def tlvTextsSpec : ChangeSpec := { name := "tlvTexts", fn := fun _ => fun
  | [d1, d2] => { results := [.lit (.bool true)], args := [d1, d2] }
  | _ => none }
def tlvTextsRow : OpenClaim := { program := "ytahnmnbjgbfeaaa", sum := "c837336007315576190f80d7667791e36c9ddcd6dbea67ad109ff25bd67a32bc", func := "smartcard/smartcardlaw02.TlvTexts", spec := "tlvTexts", inPlace := ["internal/bytealg.MakeNoZero", "internal/abi.NoEscape"], recurses := true, loops := true, apart := false }
def TlvTextsSaid : Prop := tlvTextsRow.holds Try.pinned (OpenSpec.ofChange tlvTextsSpec)

/-- ITS FALSE NEIGHBOUR: 'it returns false'. Refute it at one input. -/
def tlvTextsWrong : ChangeSpec := { name := "tlvTexts", fn := fun _ => fun
  | [d1, d2] => { results := [.lit (.bool false)], args := [d1, d2] }
  | _ => none }
def TlvTextsWrongFalsely : Prop := tlvTextsRow.holds Try.pinned (OpenSpec.ofChange tlvTextsWrong)

/- THE SECOND FORM. 'bulk': how many values and letters a reading holds, each counted each time it is reached (what is shared counts as often as it is met; a slice's spare places count too). A statement '..UptoSaid' is the law's where the arguments, and the package variables that the reading takes, are together of bulk at most 1048576: NARROWER than '..Said'. Prove '..Said' where nothing that the law and all that it calls make is longer than what came in: it says more and counts as full. Else prove '..UptoSaid'. A law counts once. -/
mutual
def uptoBulk {H : Type} : DataW H → Nat
  | .lit (.string bytes) => bytes.length + 1
  | .lit _ => 1
  | .nil => 1
  | .ptr d => uptoBulk d + 1
  | .slice elems spare => uptoBulkAll elems + uptoBulkAll spare + 1
  | .agg parts => uptoBulkAll parts + 1
  | .iface _ d => uptoBulk d + 1
  | .map entries => uptoBulkEntries entries + 1
  | .held _ => 1
def uptoBulkAll {H : Type} : List (DataW H) → Nat
  | [] => 0
  | d :: r => uptoBulk d + uptoBulkAll r
def uptoBulkEntries {H : Type} : List (Lit × DataW H) → Nat
  | [] => 0
  | x :: r => uptoBulkEntry x + uptoBulkEntries r
def uptoBulkEntry {H : Type} : Lit × DataW H → Nat
  | (.string bytes, d) => bytes.length + uptoBulk d + 1
  | (_, d) => uptoBulk d + 1
 end
def uptoSmall : (H : Type) → List (DataW H) → Bool := fun _ ds => decide (uptoBulkAll ds ≤ 1048576)
def OpenSpec.upto (s : _root_.Go.ChangeSpec) : _root_.Go.OpenSpec := { _root_.Go.OpenSpec.ofChange s with cond := some uptoSmall }

/-- 'smartcardlaw01.OctetsHex', WHERE WHAT IT READS IS OF BULK AT MOST 1048576: true; the input reads as it did. -/
def octetsHexUptoRow : OpenClaim := { program := "ytahnmnbjgbfeaaa", sum := "c837336007315576190f80d7667791e36c9ddcd6dbea67ad109ff25bd67a32bc", func := "smartcard/smartcardlaw01.OctetsHex", spec := "octetsHex", apart := false, narrowed := true }
def OctetsHexUptoSaid : Prop := octetsHexUptoRow.holds Try.pinned (OpenSpec.upto octetsHexSpec)

/-- 'smartcardlaw01.OctetsOrders', WHERE WHAT IT READS IS OF BULK AT MOST 1048576: true; the input reads as it did. -/
def octetsOrdersUptoRow : OpenClaim := { program := "ytahnmnbjgbfeaaa", sum := "c837336007315576190f80d7667791e36c9ddcd6dbea67ad109ff25bd67a32bc", func := "smartcard/smartcardlaw01.OctetsOrders", spec := "octetsOrders", inPlace := ["internal/bytealg.Compare"], apart := false, narrowed := true }
def OctetsOrdersUptoSaid : Prop := octetsOrdersUptoRow.holds Try.pinned (OpenSpec.upto octetsOrdersSpec)

/-- 'smartcardlaw01.OctetsXor', WHERE WHAT IT READS IS OF BULK AT MOST 1048576: true; the input reads as it did. -/
def octetsXorUptoRow : OpenClaim := { program := "ytahnmnbjgbfeaaa", sum := "c837336007315576190f80d7667791e36c9ddcd6dbea67ad109ff25bd67a32bc", func := "smartcard/smartcardlaw01.OctetsXor", spec := "octetsXor", apart := false, narrowed := true }
def OctetsXorUptoSaid : Prop := octetsXorUptoRow.holds Try.pinned (OpenSpec.upto octetsXorSpec)

/-- 'smartcardlaw01.OctetsPads', WHERE WHAT IT READS IS OF BULK AT MOST 1048576: true; the input reads as it did. -/
def octetsPadsUptoRow : OpenClaim := { program := "ytahnmnbjgbfeaaa", sum := "c837336007315576190f80d7667791e36c9ddcd6dbea67ad109ff25bd67a32bc", func := "smartcard/smartcardlaw01.OctetsPads", spec := "octetsPads", apart := false, narrowed := true }
def OctetsPadsUptoSaid : Prop := octetsPadsUptoRow.holds Try.pinned (OpenSpec.upto octetsPadsSpec)

/-- 'smartcardlaw01.OctetsNumbers', WHERE WHAT IT READS IS OF BULK AT MOST 1048576: true; the input reads as it did. -/
def octetsNumbersUptoRow : OpenClaim := { program := "ytahnmnbjgbfeaaa", sum := "c837336007315576190f80d7667791e36c9ddcd6dbea67ad109ff25bd67a32bc", func := "smartcard/smartcardlaw01.OctetsNumbers", spec := "octetsNumbers", apart := false, narrowed := true }
def OctetsNumbersUptoSaid : Prop := octetsNumbersUptoRow.holds Try.pinned (OpenSpec.upto octetsNumbersSpec)

/-- 'smartcardlaw01.OctetsPieces', WHERE WHAT IT READS IS OF BULK AT MOST 1048576: true; the input reads as it did. -/
def octetsPiecesUptoRow : OpenClaim := { program := "ytahnmnbjgbfeaaa", sum := "c837336007315576190f80d7667791e36c9ddcd6dbea67ad109ff25bd67a32bc", func := "smartcard/smartcardlaw01.OctetsPieces", spec := "octetsPieces", inPlace := ["internal/bytealg.MakeNoZero"], apart := false, narrowed := true }
def OctetsPiecesUptoSaid : Prop := octetsPiecesUptoRow.holds Try.pinned (OpenSpec.upto octetsPiecesSpec)

/-- 'smartcardlaw01.OctetsRoundTrip', WHERE WHAT IT READS IS OF BULK AT MOST 1048576: true; the input reads as it did. -/
def octetsRoundTripUptoRow : OpenClaim := { program := "ytahnmnbjgbfeaaa", sum := "c837336007315576190f80d7667791e36c9ddcd6dbea67ad109ff25bd67a32bc", func := "smartcard/smartcardlaw01.OctetsRoundTrip", spec := "octetsRoundTrip", inPlace := ["internal/bytealg.MakeNoZero"], apart := false, narrowed := true }
def OctetsRoundTripUptoSaid : Prop := octetsRoundTripUptoRow.holds Try.pinned (OpenSpec.upto octetsRoundTripSpec)

/-- 'smartcardlaw02.TlvTags', WHERE WHAT IT READS IS OF BULK AT MOST 1048576: true; the input reads as it did. -/
def tlvTagsUptoRow : OpenClaim := { program := "ytahnmnbjgbfeaaa", sum := "c837336007315576190f80d7667791e36c9ddcd6dbea67ad109ff25bd67a32bc", func := "smartcard/smartcardlaw02.TlvTags", spec := "tlvTags", inPlace := ["internal/bytealg.MakeNoZero", "internal/abi.NoEscape"], recurses := true, apart := false, narrowed := true }
def TlvTagsUptoSaid : Prop := tlvTagsUptoRow.holds Try.pinned (OpenSpec.upto tlvTagsSpec)

/-- 'smartcardlaw02.TlvEncodes', WHERE WHAT IT READS IS OF BULK AT MOST 1048576: true; the input reads as it did. -/
def tlvEncodesUptoRow : OpenClaim := { program := "ytahnmnbjgbfeaaa", sum := "c837336007315576190f80d7667791e36c9ddcd6dbea67ad109ff25bd67a32bc", func := "smartcard/smartcardlaw02.TlvEncodes", spec := "tlvEncodes", inPlace := ["internal/bytealg.MakeNoZero", "internal/abi.NoEscape"], recurses := true, loops := true, apart := false, narrowed := true }
def TlvEncodesUptoSaid : Prop := tlvEncodesUptoRow.holds Try.pinned (OpenSpec.upto tlvEncodesSpec)

/-- 'smartcardlaw02.TlvDecodes', WHERE WHAT IT READS IS OF BULK AT MOST 1048576: true; the input reads as it did. -/
def tlvDecodesUptoRow : OpenClaim := { program := "ytahnmnbjgbfeaaa", sum := "c837336007315576190f80d7667791e36c9ddcd6dbea67ad109ff25bd67a32bc", func := "smartcard/smartcardlaw02.TlvDecodes", spec := "tlvDecodes", inPlace := ["internal/bytealg.MakeNoZero", "internal/abi.NoEscape"], recurses := true, apart := false, narrowed := true }
def TlvDecodesUptoSaid : Prop := tlvDecodesUptoRow.holds Try.pinned (OpenSpec.upto tlvDecodesSpec)

/-- 'smartcardlaw02.TlvFinds', WHERE WHAT IT READS IS OF BULK AT MOST 1048576: true; the input reads as it did. -/
def tlvFindsUptoRow : OpenClaim := { program := "ytahnmnbjgbfeaaa", sum := "c837336007315576190f80d7667791e36c9ddcd6dbea67ad109ff25bd67a32bc", func := "smartcard/smartcardlaw02.TlvFinds", spec := "tlvFinds", inPlace := ["internal/bytealg.MakeNoZero", "internal/abi.NoEscape"], unfollowed := true, recurses := true, loops := true, apart := false, narrowed := true }
def TlvFindsUptoSaid : Prop := tlvFindsUptoRow.holds Try.pinned (OpenSpec.upto tlvFindsSpec)

/-- 'smartcardlaw02.TlvCompares', WHERE WHAT IT READS IS OF BULK AT MOST 1048576: true; the input reads as it did. -/
def tlvComparesUptoRow : OpenClaim := { program := "ytahnmnbjgbfeaaa", sum := "c837336007315576190f80d7667791e36c9ddcd6dbea67ad109ff25bd67a32bc", func := "smartcard/smartcardlaw02.TlvCompares", spec := "tlvCompares", inPlace := ["internal/bytealg.MakeNoZero", "internal/abi.NoEscape"], unfollowed := true, recurses := true, loops := true, apart := false, narrowed := true }
def TlvComparesUptoSaid : Prop := tlvComparesUptoRow.holds Try.pinned (OpenSpec.upto tlvComparesSpec)

/-- 'smartcardlaw02.TlvShows', WHERE WHAT IT READS IS OF BULK AT MOST 1048576: true; the input reads as it did. -/
def tlvShowsUptoRow : OpenClaim := { program := "ytahnmnbjgbfeaaa", sum := "c837336007315576190f80d7667791e36c9ddcd6dbea67ad109ff25bd67a32bc", func := "smartcard/smartcardlaw02.TlvShows", spec := "tlvShows", inPlace := ["internal/bytealg.MakeNoZero", "internal/abi.NoEscape"], recurses := true, loops := true, apart := false, narrowed := true }
def TlvShowsUptoSaid : Prop := tlvShowsUptoRow.holds Try.pinned (OpenSpec.upto tlvShowsSpec)

/-- 'smartcardlaw02.TlvBack', WHERE WHAT IT READS IS OF BULK AT MOST 1048576: true; the input reads as it did. -/
def tlvBackUptoRow : OpenClaim := { program := "ytahnmnbjgbfeaaa", sum := "c837336007315576190f80d7667791e36c9ddcd6dbea67ad109ff25bd67a32bc", func := "smartcard/smartcardlaw02.TlvBack", spec := "tlvBack", inPlace := ["internal/bytealg.MakeNoZero", "internal/abi.NoEscape"], recurses := true, loops := true, apart := false, narrowed := true }
def TlvBackUptoSaid : Prop := tlvBackUptoRow.holds Try.pinned (OpenSpec.upto tlvBackSpec)

/-- 'smartcardlaw02.TlvJoins', WHERE WHAT IT READS IS OF BULK AT MOST 1048576: true; the input reads as it did. -/
def tlvJoinsUptoRow : OpenClaim := { program := "ytahnmnbjgbfeaaa", sum := "c837336007315576190f80d7667791e36c9ddcd6dbea67ad109ff25bd67a32bc", func := "smartcard/smartcardlaw02.TlvJoins", spec := "tlvJoins", inPlace := ["internal/bytealg.MakeNoZero", "internal/abi.NoEscape"], recurses := true, loops := true, apart := false, narrowed := true }
def TlvJoinsUptoSaid : Prop := tlvJoinsUptoRow.holds Try.pinned (OpenSpec.upto tlvJoinsSpec)

/-- 'smartcardlaw02.TlvTexts', WHERE WHAT IT READS IS OF BULK AT MOST 1048576: true; the input reads as it did. -/
def tlvTextsUptoRow : OpenClaim := { program := "ytahnmnbjgbfeaaa", sum := "c837336007315576190f80d7667791e36c9ddcd6dbea67ad109ff25bd67a32bc", func := "smartcard/smartcardlaw02.TlvTexts", spec := "tlvTexts", inPlace := ["internal/bytealg.MakeNoZero", "internal/abi.NoEscape"], recurses := true, loops := true, apart := false, narrowed := true }
def TlvTextsUptoSaid : Prop := tlvTextsUptoRow.holds Try.pinned (OpenSpec.upto tlvTextsSpec)

end Rows
end Go.Proofs.Ytahnmnbjgbfeaaa
