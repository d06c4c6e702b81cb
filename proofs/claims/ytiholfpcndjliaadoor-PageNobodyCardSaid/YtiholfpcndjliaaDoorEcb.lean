
/-
  Operations on bits of the walk, at naturals.
-/
import Derived.Test.YtiholfpcndjliaaDoorEcm
import Derived.Test.YtiholfpcndjliaaDoorCmpb
import Derived.Laws.BitsAllLaws
namespace Go.Proofs.YtiholfpcndjliaaDoor
set_option linter.unusedVariables false
set_option linter.unusedSimpArgs false
open Go.RowKit

theorem ret_bool {a b : Bool} (h : a = b) : Ending.returned (.bool a) = .returned (.bool b) := by rw [h]
theorem ofInt64 (n : Nat) (h : n < 18446744073709551616) : (BitVec.ofInt 64 (n : Int)).toNat = n := by
  rw [BitVec.toNat_ofInt]
  omega
theorem i64_xor_nat (a b : Nat) (ha : a < 4294967296) (hb : b < 4294967296) : bits .xor .i64 (a : Int) (b : Int) = ((a ^^^ b : Nat) : Int) := by
  have hx : a ^^^ b < 2 ^ 32 := Nat.xor_lt_two_pow (by omega) (by omega)
  show IntKind.i64.wrap ((BitVec.ofInt 64 (a : Int) ^^^ BitVec.ofInt 64 (b : Int)).toNat : Int) = _
  rw [BitVec.toNat_xor, ofInt64 a (by omega), ofInt64 b (by omega)]
  exact IntWalk.i64_in _ (by omega)
theorem i64_and_nat (a b : Nat) (ha : a < 4294967296) (hb : b < 4294967296) : bits .and .i64 (a : Int) (b : Int) = ((a &&& b : Nat) : Int) := by
  have hx : a &&& b < 2 ^ 32 := Nat.and_lt_two_pow _ (by omega)
  show IntKind.i64.wrap ((BitVec.ofInt 64 (a : Int) &&& BitVec.ofInt 64 (b : Int)).toNat : Int) = _
  rw [BitVec.toNat_and, ofInt64 a (by omega), ofInt64 b (by omega)]
  exact IntWalk.i64_in _ (by omega)
theorem i64_or_nat (a b : Nat) (ha : a < 4294967296) (hb : b < 4294967296) : bits .or .i64 (a : Int) (b : Int) = ((a ||| b : Nat) : Int) := by
  have hx : a ||| b < 2 ^ 32 := Nat.or_lt_two_pow (by omega) (by omega)
  show IntKind.i64.wrap ((BitVec.ofInt 64 (a : Int) ||| BitVec.ofInt 64 (b : Int)).toNat : Int) = _
  rw [BitVec.toNat_or, ofInt64 a (by omega), ofInt64 b (by omega)]
  exact IntWalk.i64_in _ (by omega)
theorem tb_div (w p : Nat) : w / 2 ^ p % 2 = b2n (w.testBit p) := by
  rw [← Nat.toNat_testBit]
  cases w.testBit p <;> rfl
theorem cast_div_pow (w p : Nat) : (w : Int) / 2 ^ p = ((w / 2 ^ p : Nat) : Int) := by
  rw [Int.natCast_ediv, Int.natCast_pow]
  rfl
/-- The bit at p, as the walk spells it with 32 bits, and with 64. -/
theorem u32_bit (w p : Nat) (hw : w < 4294967296) : bits .and .u32 ((w : Int) / 2 ^ p) 1 = (b2n (w.testBit p) : Int) := by
  have hd : w / 2 ^ p < 4294967296 := Nat.lt_of_le_of_lt (Nat.div_le_self _ _) hw
  have := u32_and_nat (w / 2 ^ p) 1 hd (by omega)
  rw [cast_div_pow]
  rw [show ((1 : Nat) : Int) = 1 from rfl] at this
  rw [this, Nat.and_one_is_mod, tb_div]
theorem i64_bit (w p : Nat) (hw : w < 4294967296) : bits .and .i64 ((w : Int) / 2 ^ p) 1 = (b2n (w.testBit p) : Int) := by
  have hd : w / 2 ^ p < 4294967296 := Nat.lt_of_le_of_lt (Nat.div_le_self _ _) hw
  have := i64_and_nat (w / 2 ^ p) 1 hd (by omega)
  rw [cast_div_pow]
  rw [show ((1 : Nat) : Int) = 1 from rfl] at this
  rw [this, Nat.and_one_is_mod, tb_div]
theorem b2n_le (b : Bool) : b2n b ≤ 1 := by cases b <;> decide

/-- Whether a position is a check position. -/
def isCk (p : Nat) : Bool := p == 1 || p == 2 || p == 4 || p == 8 || p == 16
end Go.Proofs.YtiholfpcndjliaaDoor
