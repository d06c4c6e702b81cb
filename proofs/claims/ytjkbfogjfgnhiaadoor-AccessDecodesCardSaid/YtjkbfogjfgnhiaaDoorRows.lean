/-
  NARROWER THAN 'FOR EVERY INPUT', by the rows' own cells (each row's printed sentence says how): AccessChecks: loops, laid · AccessHolds: loops, laid · AccessAllows: loops, laid · AccessImplies: loops, laid · AccessSound: loops, laid · AccessOrder: loops, laid · AccessMore: loops, laid · AccessEncodes: loops, laid · AccessDecodes: laid · AccessCompares: loops, laid · AccessShows: loops, laid · AccessBack: loops, laid.
  DERIVED. THE GIVEN ROWS OF THIS SEAT. 12 by the template 'for every input the law returns true; each argument reads behind the call as it read before'; 0 by the template 'total and deterministic' (their statements: YtjkbfogjfgnhiaaDoorTotals.lean).
  GIVEN WITH THE SEED: the statements are not yours to turn. If you find one false, say at which input.
  Laid BY PROGRAM, IN A SANDBOX (cutbox-rows.mjs): the forced cells as the released guide's own fill.sh prints them over the translation 445c83c8e5bfe514… (all of the seat's roots in one cut). By AI agents, Wed Nov 11 2026. No macro, syntax, notation, axiom, sorry.
-/
import Derived.Test.YtjkbfogjfgnhiaaDoorChecked
import GoSem.Claim
import GoSem.ClaimJoined
import GoSem.ClaimMapViews
import Derived.JoinedTies
import Derived.KernelRfl
namespace Go.Proofs.YtjkbfogjfgnhiaaDoor
/- THE CELL 'sum', in the pinned program and in every row, IS THE sha256 OF THE DUMP (.gsa) THAT YtjkbfogjfgnhiaaDoorProg.lean LOADS. Nothing in Lean hashes anything: it is a label: what it is worth is what the hold of that sum in a sandbox is worth. -/
noncomputable def Tryd.pinned : Pinned := { name := "ytjkbfogjfgnhiaadoor", sum := "445c83c8e5bfe5143884526b586a16cf68e1fb0460e1de22dc457bbeec9b385e", checked := Tryd.checked }
namespace Rows
def none {H : Type} : Left H := { results := [], args := [] }

/- WHAT THE LISTED PACKAGE-LEVEL VARIABLES READ AS WHEN THE CALL BEGINS. Each datum BY PROGRAM (the guide's laid-datum.mjs) off the statement by which the dump's own 'gosem.cut.vars' lays the variable. In a bare row this is a premise. The card (YtjkbfogjfgnhiaaDoorCards.lean) ties it to the program's text. -/
def laid_math_bits_deBruijn32tab {H : Type} : DataW H := .agg [.lit (.int .u8 0), .lit (.int .u8 1), .lit (.int .u8 28), .lit (.int .u8 2), .lit (.int .u8 29), .lit (.int .u8 14), .lit (.int .u8 24), .lit (.int .u8 3), .lit (.int .u8 30), .lit (.int .u8 22), .lit (.int .u8 20), .lit (.int .u8 15), .lit (.int .u8 25), .lit (.int .u8 17), .lit (.int .u8 4), .lit (.int .u8 8), .lit (.int .u8 31), .lit (.int .u8 27), .lit (.int .u8 13), .lit (.int .u8 23), .lit (.int .u8 21), .lit (.int .u8 19), .lit (.int .u8 16), .lit (.int .u8 7), .lit (.int .u8 26), .lit (.int .u8 12), .lit (.int .u8 18), .lit (.int .u8 6), .lit (.int .u8 11), .lit (.int .u8 5), .lit (.int .u8 10), .lit (.int .u8 9)]
def laid_math_bits_deBruijn64tab {H : Type} : DataW H := .agg [.lit (.int .u8 0), .lit (.int .u8 1), .lit (.int .u8 56), .lit (.int .u8 2), .lit (.int .u8 57), .lit (.int .u8 49), .lit (.int .u8 28), .lit (.int .u8 3), .lit (.int .u8 61), .lit (.int .u8 58), .lit (.int .u8 42), .lit (.int .u8 50), .lit (.int .u8 38), .lit (.int .u8 29), .lit (.int .u8 17), .lit (.int .u8 4), .lit (.int .u8 62), .lit (.int .u8 47), .lit (.int .u8 59), .lit (.int .u8 36), .lit (.int .u8 45), .lit (.int .u8 43), .lit (.int .u8 51), .lit (.int .u8 22), .lit (.int .u8 53), .lit (.int .u8 39), .lit (.int .u8 33), .lit (.int .u8 30), .lit (.int .u8 24), .lit (.int .u8 18), .lit (.int .u8 12), .lit (.int .u8 5), .lit (.int .u8 63), .lit (.int .u8 55), .lit (.int .u8 48), .lit (.int .u8 27), .lit (.int .u8 60), .lit (.int .u8 41), .lit (.int .u8 37), .lit (.int .u8 16), .lit (.int .u8 46), .lit (.int .u8 35), .lit (.int .u8 44), .lit (.int .u8 21), .lit (.int .u8 52), .lit (.int .u8 32), .lit (.int .u8 23), .lit (.int .u8 11), .lit (.int .u8 54), .lit (.int .u8 26), .lit (.int .u8 40), .lit (.int .u8 15), .lit (.int .u8 34), .lit (.int .u8 20), .lit (.int .u8 31), .lit (.int .u8 10), .lit (.int .u8 25), .lit (.int .u8 14), .lit (.int .u8 19), .lit (.int .u8 9), .lit (.int .u8 13), .lit (.int .u8 8), .lit (.int .u8 7), .lit (.int .u8 6)]
def laid_internal_strconv_uint64pow10 {H : Type} : DataW H := .agg [.lit (.int .u64 1), .lit (.int .u64 10), .lit (.int .u64 100), .lit (.int .u64 1000), .lit (.int .u64 10000), .lit (.int .u64 100000), .lit (.int .u64 1000000), .lit (.int .u64 10000000), .lit (.int .u64 100000000), .lit (.int .u64 1000000000), .lit (.int .u64 10000000000), .lit (.int .u64 100000000000), .lit (.int .u64 1000000000000), .lit (.int .u64 10000000000000), .lit (.int .u64 100000000000000), .lit (.int .u64 1000000000000000), .lit (.int .u64 10000000000000000), .lit (.int .u64 100000000000000000), .lit (.int .u64 1000000000000000000), .lit (.int .u64 10000000000000000000)]
def laid_smartcard_access_kinds {H : Type} : DataW H := .agg [.agg [.lit (.string [110, 101, 118, 101, 114]), .lit (.bool false), .lit (.int .i64 0), .lit (.int .i64 0), .lit (.int .i64 0)], .agg [.lit (.string [97, 108, 119, 97, 121, 115]), .lit (.bool false), .lit (.int .i64 0), .lit (.int .i64 0), .lit (.int .i64 0)], .agg [.lit (.string [112, 105, 110]), .lit (.bool false), .lit (.int .i64 1), .lit (.int .i64 8), .lit (.int .i64 (-1))], .agg [.lit (.string [107, 101, 121]), .lit (.bool false), .lit (.int .i64 1), .lit (.int .i64 8), .lit (.int .i64 (-1))], .agg [.lit (.string [115, 116, 97, 116, 101]), .lit (.bool false), .lit (.int .i64 1), .lit (.int .i64 5), .lit (.int .i64 (-1))], .agg [.lit (.string [108, 101, 118, 101, 108]), .lit (.bool false), .lit (.int .i64 1), .lit (.int .i64 51), .lit (.int .i64 51)], .agg [.lit (.string [97, 110, 100]), .lit (.bool true), .lit (.int .i64 0), .lit (.int .i64 0), .lit (.int .i64 0)], .agg [.lit (.string [111, 114]), .lit (.bool true), .lit (.int .i64 0), .lit (.int .i64 0), .lit (.int .i64 0)]]

/-- 'smartcardlaw14.AccessChecks': WHATEVER THE INPUT: true; the input reads as it did. -/
def accessChecksSpec : ChangeSpec := { name := "accessChecks", fn := fun _ => fun
  | [d] => { results := [.lit (.bool true)], args := [d] }
  | _ => none }
def accessChecksRow : OpenClaim := { program := "ytjkbfogjfgnhiaadoor", sum := "445c83c8e5bfe5143884526b586a16cf68e1fb0460e1de22dc457bbeec9b385e", func := "smartcard/smartcardlaw14.AccessChecks", spec := "accessChecks", inPlace := ["internal/bytealg.MakeNoZero", "internal/abi.NoEscape"], unfollowed := true, recurses := true, named := ["smartcard/access.kinds", "internal/strconv.uint64pow10", "math/bits.deBruijn32tab", "math/bits.deBruijn64tab"], loops := true, apart := false, laid := [("math/bits.deBruijn32tab", laid_math_bits_deBruijn32tab), ("math/bits.deBruijn64tab", laid_math_bits_deBruijn64tab), ("internal/strconv.uint64pow10", laid_internal_strconv_uint64pow10), ("smartcard/access.kinds", laid_smartcard_access_kinds)] }
def AccessChecksSaid : Prop := accessChecksRow.holds Tryd.pinned (OpenSpec.ofChange accessChecksSpec)

/-- ITS FALSE NEIGHBOUR: 'it returns false'. Refute it at one input. -/
def accessChecksWrong : ChangeSpec := { name := "accessChecks", fn := fun _ => fun
  | [d] => { results := [.lit (.bool false)], args := [d] }
  | _ => none }
def AccessChecksWrongFalsely : Prop := accessChecksRow.holds Tryd.pinned (OpenSpec.ofChange accessChecksWrong)

/-- 'smartcardlaw14.AccessHolds': WHATEVER THE INPUT: true; the input reads as it did. -/
def accessHoldsSpec : ChangeSpec := { name := "accessHolds", fn := fun _ => fun
  | [d1, d2] => { results := [.lit (.bool true)], args := [d1, d2] }
  | _ => none }
def accessHoldsRow : OpenClaim := { program := "ytjkbfogjfgnhiaadoor", sum := "445c83c8e5bfe5143884526b586a16cf68e1fb0460e1de22dc457bbeec9b385e", func := "smartcard/smartcardlaw14.AccessHolds", spec := "accessHolds", inPlace := ["internal/bytealg.MakeNoZero", "internal/abi.NoEscape"], unfollowed := true, recurses := true, named := ["smartcard/access.kinds", "internal/strconv.uint64pow10", "math/bits.deBruijn32tab", "math/bits.deBruijn64tab"], loops := true, apart := false, laid := [("math/bits.deBruijn32tab", laid_math_bits_deBruijn32tab), ("math/bits.deBruijn64tab", laid_math_bits_deBruijn64tab), ("internal/strconv.uint64pow10", laid_internal_strconv_uint64pow10), ("smartcard/access.kinds", laid_smartcard_access_kinds)] }
def AccessHoldsSaid : Prop := accessHoldsRow.holds Tryd.pinned (OpenSpec.ofChange accessHoldsSpec)

/-- ITS FALSE NEIGHBOUR: 'it returns false'. Refute it at one input. -/
def accessHoldsWrong : ChangeSpec := { name := "accessHolds", fn := fun _ => fun
  | [d1, d2] => { results := [.lit (.bool false)], args := [d1, d2] }
  | _ => none }
def AccessHoldsWrongFalsely : Prop := accessHoldsRow.holds Tryd.pinned (OpenSpec.ofChange accessHoldsWrong)

/-- 'smartcardlaw14.AccessAllows': WHATEVER THE INPUT: true; the input reads as it did. -/
def accessAllowsSpec : ChangeSpec := { name := "accessAllows", fn := fun _ => fun
  | [d1, d2, d3] => { results := [.lit (.bool true)], args := [d1, d2, d3] }
  | _ => none }
def accessAllowsRow : OpenClaim := { program := "ytjkbfogjfgnhiaadoor", sum := "445c83c8e5bfe5143884526b586a16cf68e1fb0460e1de22dc457bbeec9b385e", func := "smartcard/smartcardlaw14.AccessAllows", spec := "accessAllows", inPlace := ["internal/bytealg.MakeNoZero", "internal/abi.NoEscape"], unfollowed := true, recurses := true, named := ["smartcard/access.kinds", "internal/strconv.uint64pow10", "math/bits.deBruijn32tab", "math/bits.deBruijn64tab"], loops := true, apart := false, laid := [("math/bits.deBruijn32tab", laid_math_bits_deBruijn32tab), ("math/bits.deBruijn64tab", laid_math_bits_deBruijn64tab), ("internal/strconv.uint64pow10", laid_internal_strconv_uint64pow10), ("smartcard/access.kinds", laid_smartcard_access_kinds)] }
def AccessAllowsSaid : Prop := accessAllowsRow.holds Tryd.pinned (OpenSpec.ofChange accessAllowsSpec)

/-- ITS FALSE NEIGHBOUR: 'it returns false'. Refute it at one input. -/
def accessAllowsWrong : ChangeSpec := { name := "accessAllows", fn := fun _ => fun
  | [d1, d2, d3] => { results := [.lit (.bool false)], args := [d1, d2, d3] }
  | _ => none }
def AccessAllowsWrongFalsely : Prop := accessAllowsRow.holds Tryd.pinned (OpenSpec.ofChange accessAllowsWrong)

/-- 'smartcardlaw14.AccessImplies': WHATEVER THE INPUT: true; the input reads as it did. -/
def accessImpliesSpec : ChangeSpec := { name := "accessImplies", fn := fun _ => fun
  | [d1, d2] => { results := [.lit (.bool true)], args := [d1, d2] }
  | _ => none }
def accessImpliesRow : OpenClaim := { program := "ytjkbfogjfgnhiaadoor", sum := "445c83c8e5bfe5143884526b586a16cf68e1fb0460e1de22dc457bbeec9b385e", func := "smartcard/smartcardlaw14.AccessImplies", spec := "accessImplies", inPlace := ["internal/bytealg.MakeNoZero", "internal/abi.NoEscape"], unfollowed := true, recurses := true, named := ["smartcard/access.kinds", "internal/strconv.uint64pow10", "math/bits.deBruijn32tab", "math/bits.deBruijn64tab"], loops := true, apart := false, laid := [("math/bits.deBruijn32tab", laid_math_bits_deBruijn32tab), ("math/bits.deBruijn64tab", laid_math_bits_deBruijn64tab), ("internal/strconv.uint64pow10", laid_internal_strconv_uint64pow10), ("smartcard/access.kinds", laid_smartcard_access_kinds)] }
def AccessImpliesSaid : Prop := accessImpliesRow.holds Tryd.pinned (OpenSpec.ofChange accessImpliesSpec)

/-- ITS FALSE NEIGHBOUR: 'it returns false'. Refute it at one input. -/
def accessImpliesWrong : ChangeSpec := { name := "accessImplies", fn := fun _ => fun
  | [d1, d2] => { results := [.lit (.bool false)], args := [d1, d2] }
  | _ => none }
def AccessImpliesWrongFalsely : Prop := accessImpliesRow.holds Tryd.pinned (OpenSpec.ofChange accessImpliesWrong)

/-- 'smartcardlaw14.AccessSound': WHATEVER THE INPUT: true; the input reads as it did. -/
def accessSoundSpec : ChangeSpec := { name := "accessSound", fn := fun _ => fun
  | [d1, d2, d3] => { results := [.lit (.bool true)], args := [d1, d2, d3] }
  | _ => none }
def accessSoundRow : OpenClaim := { program := "ytjkbfogjfgnhiaadoor", sum := "445c83c8e5bfe5143884526b586a16cf68e1fb0460e1de22dc457bbeec9b385e", func := "smartcard/smartcardlaw14.AccessSound", spec := "accessSound", inPlace := ["internal/bytealg.MakeNoZero", "internal/abi.NoEscape"], unfollowed := true, recurses := true, named := ["smartcard/access.kinds", "internal/strconv.uint64pow10", "math/bits.deBruijn32tab", "math/bits.deBruijn64tab"], loops := true, apart := false, laid := [("math/bits.deBruijn32tab", laid_math_bits_deBruijn32tab), ("math/bits.deBruijn64tab", laid_math_bits_deBruijn64tab), ("internal/strconv.uint64pow10", laid_internal_strconv_uint64pow10), ("smartcard/access.kinds", laid_smartcard_access_kinds)] }
def AccessSoundSaid : Prop := accessSoundRow.holds Tryd.pinned (OpenSpec.ofChange accessSoundSpec)

/-- ITS FALSE NEIGHBOUR: 'it returns false'. Refute it at one input. -/
def accessSoundWrong : ChangeSpec := { name := "accessSound", fn := fun _ => fun
  | [d1, d2, d3] => { results := [.lit (.bool false)], args := [d1, d2, d3] }
  | _ => none }
def AccessSoundWrongFalsely : Prop := accessSoundRow.holds Tryd.pinned (OpenSpec.ofChange accessSoundWrong)

/-- 'smartcardlaw14.AccessOrder': WHATEVER THE INPUT: true; the input reads as it did. -/
def accessOrderSpec : ChangeSpec := { name := "accessOrder", fn := fun _ => fun
  | [d1, d2, d3] => { results := [.lit (.bool true)], args := [d1, d2, d3] }
  | _ => none }
def accessOrderRow : OpenClaim := { program := "ytjkbfogjfgnhiaadoor", sum := "445c83c8e5bfe5143884526b586a16cf68e1fb0460e1de22dc457bbeec9b385e", func := "smartcard/smartcardlaw14.AccessOrder", spec := "accessOrder", inPlace := ["internal/bytealg.MakeNoZero", "internal/abi.NoEscape"], unfollowed := true, recurses := true, named := ["smartcard/access.kinds", "internal/strconv.uint64pow10", "math/bits.deBruijn32tab", "math/bits.deBruijn64tab"], loops := true, apart := false, laid := [("math/bits.deBruijn32tab", laid_math_bits_deBruijn32tab), ("math/bits.deBruijn64tab", laid_math_bits_deBruijn64tab), ("internal/strconv.uint64pow10", laid_internal_strconv_uint64pow10), ("smartcard/access.kinds", laid_smartcard_access_kinds)] }
def AccessOrderSaid : Prop := accessOrderRow.holds Tryd.pinned (OpenSpec.ofChange accessOrderSpec)

/-- ITS FALSE NEIGHBOUR: 'it returns false'. Refute it at one input. -/
def accessOrderWrong : ChangeSpec := { name := "accessOrder", fn := fun _ => fun
  | [d1, d2, d3] => { results := [.lit (.bool false)], args := [d1, d2, d3] }
  | _ => none }
def AccessOrderWrongFalsely : Prop := accessOrderRow.holds Tryd.pinned (OpenSpec.ofChange accessOrderWrong)

/-- 'smartcardlaw14.AccessMore': WHATEVER THE INPUT: true; the input reads as it did. -/
def accessMoreSpec : ChangeSpec := { name := "accessMore", fn := fun _ => fun
  | [d1, d2, d3, d4] => { results := [.lit (.bool true)], args := [d1, d2, d3, d4] }
  | _ => none }
def accessMoreRow : OpenClaim := { program := "ytjkbfogjfgnhiaadoor", sum := "445c83c8e5bfe5143884526b586a16cf68e1fb0460e1de22dc457bbeec9b385e", func := "smartcard/smartcardlaw14.AccessMore", spec := "accessMore", inPlace := ["internal/bytealg.MakeNoZero", "internal/abi.NoEscape"], unfollowed := true, recurses := true, named := ["smartcard/access.kinds", "internal/strconv.uint64pow10", "math/bits.deBruijn32tab", "math/bits.deBruijn64tab"], loops := true, apart := false, laid := [("math/bits.deBruijn32tab", laid_math_bits_deBruijn32tab), ("math/bits.deBruijn64tab", laid_math_bits_deBruijn64tab), ("internal/strconv.uint64pow10", laid_internal_strconv_uint64pow10), ("smartcard/access.kinds", laid_smartcard_access_kinds)] }
def AccessMoreSaid : Prop := accessMoreRow.holds Tryd.pinned (OpenSpec.ofChange accessMoreSpec)

/-- ITS FALSE NEIGHBOUR: 'it returns false'. Refute it at one input. -/
def accessMoreWrong : ChangeSpec := { name := "accessMore", fn := fun _ => fun
  | [d1, d2, d3, d4] => { results := [.lit (.bool false)], args := [d1, d2, d3, d4] }
  | _ => none }
def AccessMoreWrongFalsely : Prop := accessMoreRow.holds Tryd.pinned (OpenSpec.ofChange accessMoreWrong)

/-- 'smartcardlaw14.AccessEncodes': WHATEVER THE INPUT: true; the input reads as it did. -/
def accessEncodesSpec : ChangeSpec := { name := "accessEncodes", fn := fun _ => fun
  | [d] => { results := [.lit (.bool true)], args := [d] }
  | _ => none }
def accessEncodesRow : OpenClaim := { program := "ytjkbfogjfgnhiaadoor", sum := "445c83c8e5bfe5143884526b586a16cf68e1fb0460e1de22dc457bbeec9b385e", func := "smartcard/smartcardlaw14.AccessEncodes", spec := "accessEncodes", inPlace := ["internal/bytealg.MakeNoZero", "internal/abi.NoEscape"], unfollowed := true, recurses := true, named := ["smartcard/access.kinds", "internal/strconv.uint64pow10", "math/bits.deBruijn32tab", "math/bits.deBruijn64tab"], loops := true, apart := false, laid := [("math/bits.deBruijn32tab", laid_math_bits_deBruijn32tab), ("math/bits.deBruijn64tab", laid_math_bits_deBruijn64tab), ("internal/strconv.uint64pow10", laid_internal_strconv_uint64pow10), ("smartcard/access.kinds", laid_smartcard_access_kinds)] }
def AccessEncodesSaid : Prop := accessEncodesRow.holds Tryd.pinned (OpenSpec.ofChange accessEncodesSpec)

/-- ITS FALSE NEIGHBOUR: 'it returns false'. Refute it at one input. -/
def accessEncodesWrong : ChangeSpec := { name := "accessEncodes", fn := fun _ => fun
  | [d] => { results := [.lit (.bool false)], args := [d] }
  | _ => none }
def AccessEncodesWrongFalsely : Prop := accessEncodesRow.holds Tryd.pinned (OpenSpec.ofChange accessEncodesWrong)

/-- 'smartcardlaw14.AccessDecodes': WHATEVER THE INPUT: true; the input reads as it did. -/
def accessDecodesSpec : ChangeSpec := { name := "accessDecodes", fn := fun _ => fun
  | [d] => { results := [.lit (.bool true)], args := [d] }
  | _ => none }
def accessDecodesRow : OpenClaim := { program := "ytjkbfogjfgnhiaadoor", sum := "445c83c8e5bfe5143884526b586a16cf68e1fb0460e1de22dc457bbeec9b385e", func := "smartcard/smartcardlaw14.AccessDecodes", spec := "accessDecodes", inPlace := ["internal/bytealg.MakeNoZero", "internal/abi.NoEscape"], unfollowed := true, recurses := true, named := ["smartcard/access.kinds", "internal/strconv.uint64pow10", "math/bits.deBruijn32tab", "math/bits.deBruijn64tab"], apart := false, laid := [("math/bits.deBruijn32tab", laid_math_bits_deBruijn32tab), ("math/bits.deBruijn64tab", laid_math_bits_deBruijn64tab), ("internal/strconv.uint64pow10", laid_internal_strconv_uint64pow10), ("smartcard/access.kinds", laid_smartcard_access_kinds)] }
def AccessDecodesSaid : Prop := accessDecodesRow.holds Tryd.pinned (OpenSpec.ofChange accessDecodesSpec)

/-- ITS FALSE NEIGHBOUR: 'it returns false'. Refute it at one input. -/
def accessDecodesWrong : ChangeSpec := { name := "accessDecodes", fn := fun _ => fun
  | [d] => { results := [.lit (.bool false)], args := [d] }
  | _ => none }
def AccessDecodesWrongFalsely : Prop := accessDecodesRow.holds Tryd.pinned (OpenSpec.ofChange accessDecodesWrong)

/-- 'smartcardlaw14.AccessCompares': WHATEVER THE INPUT: true; the input reads as it did. -/
def accessComparesSpec : ChangeSpec := { name := "accessCompares", fn := fun _ => fun
  | [d1, d2] => { results := [.lit (.bool true)], args := [d1, d2] }
  | _ => none }
def accessComparesRow : OpenClaim := { program := "ytjkbfogjfgnhiaadoor", sum := "445c83c8e5bfe5143884526b586a16cf68e1fb0460e1de22dc457bbeec9b385e", func := "smartcard/smartcardlaw14.AccessCompares", spec := "accessCompares", inPlace := ["internal/bytealg.MakeNoZero", "internal/abi.NoEscape"], unfollowed := true, recurses := true, named := ["smartcard/access.kinds", "internal/strconv.uint64pow10", "math/bits.deBruijn32tab", "math/bits.deBruijn64tab"], loops := true, apart := false, laid := [("math/bits.deBruijn32tab", laid_math_bits_deBruijn32tab), ("math/bits.deBruijn64tab", laid_math_bits_deBruijn64tab), ("internal/strconv.uint64pow10", laid_internal_strconv_uint64pow10), ("smartcard/access.kinds", laid_smartcard_access_kinds)] }
def AccessComparesSaid : Prop := accessComparesRow.holds Tryd.pinned (OpenSpec.ofChange accessComparesSpec)

/-- ITS FALSE NEIGHBOUR: 'it returns false'. Refute it at one input. -/
def accessComparesWrong : ChangeSpec := { name := "accessCompares", fn := fun _ => fun
  | [d1, d2] => { results := [.lit (.bool false)], args := [d1, d2] }
  | _ => none }
def AccessComparesWrongFalsely : Prop := accessComparesRow.holds Tryd.pinned (OpenSpec.ofChange accessComparesWrong)

/-- 'smartcardlaw14.AccessShows': WHATEVER THE INPUT: true; the input reads as it did. -/
def accessShowsSpec : ChangeSpec := { name := "accessShows", fn := fun _ => fun
  | [d1, d2] => { results := [.lit (.bool true)], args := [d1, d2] }
  | _ => none }
def accessShowsRow : OpenClaim := { program := "ytjkbfogjfgnhiaadoor", sum := "445c83c8e5bfe5143884526b586a16cf68e1fb0460e1de22dc457bbeec9b385e", func := "smartcard/smartcardlaw14.AccessShows", spec := "accessShows", inPlace := ["internal/bytealg.MakeNoZero", "internal/abi.NoEscape"], unfollowed := true, recurses := true, named := ["smartcard/access.kinds", "internal/strconv.uint64pow10", "math/bits.deBruijn32tab", "math/bits.deBruijn64tab"], loops := true, apart := false, laid := [("math/bits.deBruijn32tab", laid_math_bits_deBruijn32tab), ("math/bits.deBruijn64tab", laid_math_bits_deBruijn64tab), ("internal/strconv.uint64pow10", laid_internal_strconv_uint64pow10), ("smartcard/access.kinds", laid_smartcard_access_kinds)] }
def AccessShowsSaid : Prop := accessShowsRow.holds Tryd.pinned (OpenSpec.ofChange accessShowsSpec)

/-- ITS FALSE NEIGHBOUR: 'it returns false'. Refute it at one input. -/
def accessShowsWrong : ChangeSpec := { name := "accessShows", fn := fun _ => fun
  | [d1, d2] => { results := [.lit (.bool false)], args := [d1, d2] }
  | _ => none }
def AccessShowsWrongFalsely : Prop := accessShowsRow.holds Tryd.pinned (OpenSpec.ofChange accessShowsWrong)

/-- 'smartcardlaw14.AccessBack': WHATEVER THE INPUT: true; the input reads as it did. -/
def accessBackSpec : ChangeSpec := { name := "accessBack", fn := fun _ => fun
  | [d1, d2] => { results := [.lit (.bool true)], args := [d1, d2] }
  | _ => none }
def accessBackRow : OpenClaim := { program := "ytjkbfogjfgnhiaadoor", sum := "445c83c8e5bfe5143884526b586a16cf68e1fb0460e1de22dc457bbeec9b385e", func := "smartcard/smartcardlaw14.AccessBack", spec := "accessBack", inPlace := ["internal/bytealg.MakeNoZero", "internal/abi.NoEscape"], unfollowed := true, recurses := true, named := ["smartcard/access.kinds", "internal/strconv.uint64pow10", "math/bits.deBruijn32tab", "math/bits.deBruijn64tab"], loops := true, apart := false, laid := [("math/bits.deBruijn32tab", laid_math_bits_deBruijn32tab), ("math/bits.deBruijn64tab", laid_math_bits_deBruijn64tab), ("internal/strconv.uint64pow10", laid_internal_strconv_uint64pow10), ("smartcard/access.kinds", laid_smartcard_access_kinds)] }
def AccessBackSaid : Prop := accessBackRow.holds Tryd.pinned (OpenSpec.ofChange accessBackSpec)

/-- ITS FALSE NEIGHBOUR: 'it returns false'. Refute it at one input. -/
def accessBackWrong : ChangeSpec := { name := "accessBack", fn := fun _ => fun
  | [d1, d2] => { results := [.lit (.bool false)], args := [d1, d2] }
  | _ => none }
def AccessBackWrongFalsely : Prop := accessBackRow.holds Tryd.pinned (OpenSpec.ofChange accessBackWrong)

/- THE SECOND FORM. 'bulk': how many values and letters a reading holds, each counted each time it is reached (what is shared counts as often as it is met; a slice's spare places count too). A statement '..UptoSaid' is the law's where the arguments, and the package variables that the reading takes, are together of bulk at most 1048576: NARROWER than '..Said'. Prove '..Said' where nothing that the law and all that it calls make is longer than what came in: it says more and counts as full. Else prove '..UptoSaid'. A law counts once. -/
mutual
def uptoBulk {H : Type} : DataW H → Nat
  | .lit (.string bytes) => bytes.length + 1
  | .lit _ => 1
  | .nil => 1
  | .ptr d => uptoBulk d + 1
  | .slice elems spare => uptoBulkAll elems + uptoBulkAll spare + 1
  | .agg parts => uptoBulkAll parts + 1
  | .iface _ d => uptoBulk d + 1
  | .map entries => uptoBulkEntries entries + 1
  | .held _ => 1
def uptoBulkAll {H : Type} : List (DataW H) → Nat
  | [] => 0
  | d :: r => uptoBulk d + uptoBulkAll r
def uptoBulkEntries {H : Type} : List (Lit × DataW H) → Nat
  | [] => 0
  | x :: r => uptoBulkEntry x + uptoBulkEntries r
def uptoBulkEntry {H : Type} : Lit × DataW H → Nat
  | (.string bytes, d) => bytes.length + uptoBulk d + 1
  | (_, d) => uptoBulk d + 1
 end
def uptoSmall : (H : Type) → List (DataW H) → Bool := fun _ ds => decide (uptoBulkAll ds ≤ 1048576)
def OpenSpec.upto (s : _root_.Go.ChangeSpec) : _root_.Go.OpenSpec := { _root_.Go.OpenSpec.ofChange s with cond := some uptoSmall }

/-- 'smartcardlaw14.AccessChecks', WHERE WHAT IT READS IS OF BULK AT MOST 1048576: true; the input reads as it did. -/
def accessChecksUptoRow : OpenClaim := { program := "ytjkbfogjfgnhiaadoor", sum := "445c83c8e5bfe5143884526b586a16cf68e1fb0460e1de22dc457bbeec9b385e", func := "smartcard/smartcardlaw14.AccessChecks", spec := "accessChecks", inPlace := ["internal/bytealg.MakeNoZero", "internal/abi.NoEscape"], unfollowed := true, recurses := true, named := ["smartcard/access.kinds", "internal/strconv.uint64pow10", "math/bits.deBruijn32tab", "math/bits.deBruijn64tab"], loops := true, apart := false, laid := [("math/bits.deBruijn32tab", laid_math_bits_deBruijn32tab), ("math/bits.deBruijn64tab", laid_math_bits_deBruijn64tab), ("internal/strconv.uint64pow10", laid_internal_strconv_uint64pow10), ("smartcard/access.kinds", laid_smartcard_access_kinds)], narrowed := true }
def AccessChecksUptoSaid : Prop := accessChecksUptoRow.holds Tryd.pinned (OpenSpec.upto accessChecksSpec)

/-- 'smartcardlaw14.AccessHolds', WHERE WHAT IT READS IS OF BULK AT MOST 1048576: true; the input reads as it did. -/
def accessHoldsUptoRow : OpenClaim := { program := "ytjkbfogjfgnhiaadoor", sum := "445c83c8e5bfe5143884526b586a16cf68e1fb0460e1de22dc457bbeec9b385e", func := "smartcard/smartcardlaw14.AccessHolds", spec := "accessHolds", inPlace := ["internal/bytealg.MakeNoZero", "internal/abi.NoEscape"], unfollowed := true, recurses := true, named := ["smartcard/access.kinds", "internal/strconv.uint64pow10", "math/bits.deBruijn32tab", "math/bits.deBruijn64tab"], loops := true, apart := false, laid := [("math/bits.deBruijn32tab", laid_math_bits_deBruijn32tab), ("math/bits.deBruijn64tab", laid_math_bits_deBruijn64tab), ("internal/strconv.uint64pow10", laid_internal_strconv_uint64pow10), ("smartcard/access.kinds", laid_smartcard_access_kinds)], narrowed := true }
def AccessHoldsUptoSaid : Prop := accessHoldsUptoRow.holds Tryd.pinned (OpenSpec.upto accessHoldsSpec)

/-- 'smartcardlaw14.AccessAllows', WHERE WHAT IT READS IS OF BULK AT MOST 1048576: true; the input reads as it did. -/
def accessAllowsUptoRow : OpenClaim := { program := "ytjkbfogjfgnhiaadoor", sum := "445c83c8e5bfe5143884526b586a16cf68e1fb0460e1de22dc457bbeec9b385e", func := "smartcard/smartcardlaw14.AccessAllows", spec := "accessAllows", inPlace := ["internal/bytealg.MakeNoZero", "internal/abi.NoEscape"], unfollowed := true, recurses := true, named := ["smartcard/access.kinds", "internal/strconv.uint64pow10", "math/bits.deBruijn32tab", "math/bits.deBruijn64tab"], loops := true, apart := false, laid := [("math/bits.deBruijn32tab", laid_math_bits_deBruijn32tab), ("math/bits.deBruijn64tab", laid_math_bits_deBruijn64tab), ("internal/strconv.uint64pow10", laid_internal_strconv_uint64pow10), ("smartcard/access.kinds", laid_smartcard_access_kinds)], narrowed := true }
def AccessAllowsUptoSaid : Prop := accessAllowsUptoRow.holds Tryd.pinned (OpenSpec.upto accessAllowsSpec)

/-- 'smartcardlaw14.AccessImplies', WHERE WHAT IT READS IS OF BULK AT MOST 1048576: true; the input reads as it did. -/
def accessImpliesUptoRow : OpenClaim := { program := "ytjkbfogjfgnhiaadoor", sum := "445c83c8e5bfe5143884526b586a16cf68e1fb0460e1de22dc457bbeec9b385e", func := "smartcard/smartcardlaw14.AccessImplies", spec := "accessImplies", inPlace := ["internal/bytealg.MakeNoZero", "internal/abi.NoEscape"], unfollowed := true, recurses := true, named := ["smartcard/access.kinds", "internal/strconv.uint64pow10", "math/bits.deBruijn32tab", "math/bits.deBruijn64tab"], loops := true, apart := false, laid := [("math/bits.deBruijn32tab", laid_math_bits_deBruijn32tab), ("math/bits.deBruijn64tab", laid_math_bits_deBruijn64tab), ("internal/strconv.uint64pow10", laid_internal_strconv_uint64pow10), ("smartcard/access.kinds", laid_smartcard_access_kinds)], narrowed := true }
def AccessImpliesUptoSaid : Prop := accessImpliesUptoRow.holds Tryd.pinned (OpenSpec.upto accessImpliesSpec)

/-- 'smartcardlaw14.AccessSound', WHERE WHAT IT READS IS OF BULK AT MOST 1048576: true; the input reads as it did. -/
def accessSoundUptoRow : OpenClaim := { program := "ytjkbfogjfgnhiaadoor", sum := "445c83c8e5bfe5143884526b586a16cf68e1fb0460e1de22dc457bbeec9b385e", func := "smartcard/smartcardlaw14.AccessSound", spec := "accessSound", inPlace := ["internal/bytealg.MakeNoZero", "internal/abi.NoEscape"], unfollowed := true, recurses := true, named := ["smartcard/access.kinds", "internal/strconv.uint64pow10", "math/bits.deBruijn32tab", "math/bits.deBruijn64tab"], loops := true, apart := false, laid := [("math/bits.deBruijn32tab", laid_math_bits_deBruijn32tab), ("math/bits.deBruijn64tab", laid_math_bits_deBruijn64tab), ("internal/strconv.uint64pow10", laid_internal_strconv_uint64pow10), ("smartcard/access.kinds", laid_smartcard_access_kinds)], narrowed := true }
def AccessSoundUptoSaid : Prop := accessSoundUptoRow.holds Tryd.pinned (OpenSpec.upto accessSoundSpec)

/-- 'smartcardlaw14.AccessOrder', WHERE WHAT IT READS IS OF BULK AT MOST 1048576: true; the input reads as it did. -/
def accessOrderUptoRow : OpenClaim := { program := "ytjkbfogjfgnhiaadoor", sum := "445c83c8e5bfe5143884526b586a16cf68e1fb0460e1de22dc457bbeec9b385e", func := "smartcard/smartcardlaw14.AccessOrder", spec := "accessOrder", inPlace := ["internal/bytealg.MakeNoZero", "internal/abi.NoEscape"], unfollowed := true, recurses := true, named := ["smartcard/access.kinds", "internal/strconv.uint64pow10", "math/bits.deBruijn32tab", "math/bits.deBruijn64tab"], loops := true, apart := false, laid := [("math/bits.deBruijn32tab", laid_math_bits_deBruijn32tab), ("math/bits.deBruijn64tab", laid_math_bits_deBruijn64tab), ("internal/strconv.uint64pow10", laid_internal_strconv_uint64pow10), ("smartcard/access.kinds", laid_smartcard_access_kinds)], narrowed := true }
def AccessOrderUptoSaid : Prop := accessOrderUptoRow.holds Tryd.pinned (OpenSpec.upto accessOrderSpec)

/-- 'smartcardlaw14.AccessMore', WHERE WHAT IT READS IS OF BULK AT MOST 1048576: true; the input reads as it did. -/
def accessMoreUptoRow : OpenClaim := { program := "ytjkbfogjfgnhiaadoor", sum := "445c83c8e5bfe5143884526b586a16cf68e1fb0460e1de22dc457bbeec9b385e", func := "smartcard/smartcardlaw14.AccessMore", spec := "accessMore", inPlace := ["internal/bytealg.MakeNoZero", "internal/abi.NoEscape"], unfollowed := true, recurses := true, named := ["smartcard/access.kinds", "internal/strconv.uint64pow10", "math/bits.deBruijn32tab", "math/bits.deBruijn64tab"], loops := true, apart := false, laid := [("math/bits.deBruijn32tab", laid_math_bits_deBruijn32tab), ("math/bits.deBruijn64tab", laid_math_bits_deBruijn64tab), ("internal/strconv.uint64pow10", laid_internal_strconv_uint64pow10), ("smartcard/access.kinds", laid_smartcard_access_kinds)], narrowed := true }
def AccessMoreUptoSaid : Prop := accessMoreUptoRow.holds Tryd.pinned (OpenSpec.upto accessMoreSpec)

/-- 'smartcardlaw14.AccessEncodes', WHERE WHAT IT READS IS OF BULK AT MOST 1048576: true; the input reads as it did. -/
def accessEncodesUptoRow : OpenClaim := { program := "ytjkbfogjfgnhiaadoor", sum := "445c83c8e5bfe5143884526b586a16cf68e1fb0460e1de22dc457bbeec9b385e", func := "smartcard/smartcardlaw14.AccessEncodes", spec := "accessEncodes", inPlace := ["internal/bytealg.MakeNoZero", "internal/abi.NoEscape"], unfollowed := true, recurses := true, named := ["smartcard/access.kinds", "internal/strconv.uint64pow10", "math/bits.deBruijn32tab", "math/bits.deBruijn64tab"], loops := true, apart := false, laid := [("math/bits.deBruijn32tab", laid_math_bits_deBruijn32tab), ("math/bits.deBruijn64tab", laid_math_bits_deBruijn64tab), ("internal/strconv.uint64pow10", laid_internal_strconv_uint64pow10), ("smartcard/access.kinds", laid_smartcard_access_kinds)], narrowed := true }
def AccessEncodesUptoSaid : Prop := accessEncodesUptoRow.holds Tryd.pinned (OpenSpec.upto accessEncodesSpec)

/-- 'smartcardlaw14.AccessDecodes', WHERE WHAT IT READS IS OF BULK AT MOST 1048576: true; the input reads as it did. -/
def accessDecodesUptoRow : OpenClaim := { program := "ytjkbfogjfgnhiaadoor", sum := "445c83c8e5bfe5143884526b586a16cf68e1fb0460e1de22dc457bbeec9b385e", func := "smartcard/smartcardlaw14.AccessDecodes", spec := "accessDecodes", inPlace := ["internal/bytealg.MakeNoZero", "internal/abi.NoEscape"], unfollowed := true, recurses := true, named := ["smartcard/access.kinds", "internal/strconv.uint64pow10", "math/bits.deBruijn32tab", "math/bits.deBruijn64tab"], apart := false, laid := [("math/bits.deBruijn32tab", laid_math_bits_deBruijn32tab), ("math/bits.deBruijn64tab", laid_math_bits_deBruijn64tab), ("internal/strconv.uint64pow10", laid_internal_strconv_uint64pow10), ("smartcard/access.kinds", laid_smartcard_access_kinds)], narrowed := true }
def AccessDecodesUptoSaid : Prop := accessDecodesUptoRow.holds Tryd.pinned (OpenSpec.upto accessDecodesSpec)

/-- 'smartcardlaw14.AccessCompares', WHERE WHAT IT READS IS OF BULK AT MOST 1048576: true; the input reads as it did. -/
def accessComparesUptoRow : OpenClaim := { program := "ytjkbfogjfgnhiaadoor", sum := "445c83c8e5bfe5143884526b586a16cf68e1fb0460e1de22dc457bbeec9b385e", func := "smartcard/smartcardlaw14.AccessCompares", spec := "accessCompares", inPlace := ["internal/bytealg.MakeNoZero", "internal/abi.NoEscape"], unfollowed := true, recurses := true, named := ["smartcard/access.kinds", "internal/strconv.uint64pow10", "math/bits.deBruijn32tab", "math/bits.deBruijn64tab"], loops := true, apart := false, laid := [("math/bits.deBruijn32tab", laid_math_bits_deBruijn32tab), ("math/bits.deBruijn64tab", laid_math_bits_deBruijn64tab), ("internal/strconv.uint64pow10", laid_internal_strconv_uint64pow10), ("smartcard/access.kinds", laid_smartcard_access_kinds)], narrowed := true }
def AccessComparesUptoSaid : Prop := accessComparesUptoRow.holds Tryd.pinned (OpenSpec.upto accessComparesSpec)

/-- 'smartcardlaw14.AccessShows', WHERE WHAT IT READS IS OF BULK AT MOST 1048576: true; the input reads as it did. -/
def accessShowsUptoRow : OpenClaim := { program := "ytjkbfogjfgnhiaadoor", sum := "445c83c8e5bfe5143884526b586a16cf68e1fb0460e1de22dc457bbeec9b385e", func := "smartcard/smartcardlaw14.AccessShows", spec := "accessShows", inPlace := ["internal/bytealg.MakeNoZero", "internal/abi.NoEscape"], unfollowed := true, recurses := true, named := ["smartcard/access.kinds", "internal/strconv.uint64pow10", "math/bits.deBruijn32tab", "math/bits.deBruijn64tab"], loops := true, apart := false, laid := [("math/bits.deBruijn32tab", laid_math_bits_deBruijn32tab), ("math/bits.deBruijn64tab", laid_math_bits_deBruijn64tab), ("internal/strconv.uint64pow10", laid_internal_strconv_uint64pow10), ("smartcard/access.kinds", laid_smartcard_access_kinds)], narrowed := true }
def AccessShowsUptoSaid : Prop := accessShowsUptoRow.holds Tryd.pinned (OpenSpec.upto accessShowsSpec)

/-- 'smartcardlaw14.AccessBack', WHERE WHAT IT READS IS OF BULK AT MOST 1048576: true; the input reads as it did. -/
def accessBackUptoRow : OpenClaim := { program := "ytjkbfogjfgnhiaadoor", sum := "445c83c8e5bfe5143884526b586a16cf68e1fb0460e1de22dc457bbeec9b385e", func := "smartcard/smartcardlaw14.AccessBack", spec := "accessBack", inPlace := ["internal/bytealg.MakeNoZero", "internal/abi.NoEscape"], unfollowed := true, recurses := true, named := ["smartcard/access.kinds", "internal/strconv.uint64pow10", "math/bits.deBruijn32tab", "math/bits.deBruijn64tab"], loops := true, apart := false, laid := [("math/bits.deBruijn32tab", laid_math_bits_deBruijn32tab), ("math/bits.deBruijn64tab", laid_math_bits_deBruijn64tab), ("internal/strconv.uint64pow10", laid_internal_strconv_uint64pow10), ("smartcard/access.kinds", laid_smartcard_access_kinds)], narrowed := true }
def AccessBackUptoSaid : Prop := accessBackUptoRow.holds Tryd.pinned (OpenSpec.upto accessBackSpec)

end Rows
end Go.Proofs.YtjkbfogjfgnhiaaDoor
