/-
  Operations on bits of the walk, at naturals.
-/
import Derived.Test.YtcojoohbhkhlnaaDoorEcm
import Derived.Test.YtcojoohbhkhlnaaDoorCmpb
import Derived.Laws.BitsAllLaws
namespace Go.Proofs.YtcojoohbhkhlnaaDoor
set_option linter.unusedVariables false
set_option linter.unusedSimpArgs false
open Go.RowKit

theorem ret_bool {a b : Bool} (h : a = b) : Ending.returned (.bool a) = .returned (.bool b) := by rw [h]
theorem ofInt64 (n : Nat) (h : n < 18446744073709551616) : (BitVec.ofInt 64 (n : Int)).toNat = n := by
  rw [BitVec.toNat_ofInt]
  omega
theorem i64_xor_nat (a b : Nat) (ha : a < 4294967296) (hb : b < 4294967296) : bits .xor .i64 (a : Int) (b : Int) = ((a ^^^ b : Nat) : Int) := by
  have hx : a ^^^ b < 2 ^ 32 := Nat.xor_lt_two_pow (by omega) (by omega)
  show IntKind.i64.wrap ((BitVec.ofInt 64 (a : Int) ^^^ BitVec.ofInt 64 (b : Int)).toNat : Int) = _
  rw [BitVec.toNat_xor, ofInt64 a (by omega), ofInt64 b (by omega)]
  exact IntWalk.i64_in _ (by omega)
theorem i64_and_nat (a b : Nat) (ha : a < 4294967296) (hb : b < 4294967296) : bits .and .i64 (a : Int) (b : Int) = ((a &&& b : Nat) : Int) := by
  have hx : a &&& b < 2 ^ 32 := Nat.and_lt_two_pow _ (by omega)
  show IntKind.i64.wrap ((BitVec.ofInt 64 (a : Int) &&& BitVec.ofInt 64 (b : Int)).toNat : Int) = _
  rw [BitVec.toNat_and, ofInt64 a (by omega), ofInt64 b (by omega)]
  exact IntWalk.i64_in _ (by omega)
theorem i64_or_nat (a b : Nat) (ha : a < 4294967296) (hb : b < 4294967296) : bits .or .i64 (a : Int) (b : Int) = ((a ||| b : Nat) : Int) := by
  have hx : a ||| b < 2 ^ 32 := Nat.or_lt_two_pow (by omega) (by omega)
  show IntKind.i64.wrap ((BitVec.ofInt 64 (a : Int) ||| BitVec.ofInt 64 (b : Int)).toNat : Int) = _
  rw [BitVec.toNat_or, ofInt64 a (by omega), ofInt64 b (by omega)]
  exact IntWalk.i64_in _ (by omega)
theorem tb_div (w p : Nat) : w / 2 ^ p % 2 = b2n (w.testBit p) := by
  rw [← Nat.toNat_testBit]
  cases w.testBit p <;> rfl
theorem cast_div_pow (w p : Nat) : (w : Int) / 2 ^ p = ((w / 2 ^ p : Nat) : Int) := by
  rw [Int.natCast_ediv, Int.natCast_pow]
  rfl
/-- The bit at p, as the walk spells it with 32 bits, and with 64. -/
theorem u32_bit (w p : Nat) (hw : w < 4294967296) : bits .and .u32 ((w : Int) / 2 ^ p) 1 = (b2n (w.testBit p) : Int) := by
  have hd : w / 2 ^ p < 4294967296 := Nat.lt_of_le_of_lt (Nat.div_le_self _ _) hw
  have := u32_and_nat (w / 2 ^ p) 1 hd (by omega)
  rw [cast_div_pow]
  rw [show ((1 : Nat) : Int) = 1 from rfl] at this
  rw [this, Nat.and_one_is_mod, tb_div]
theorem i64_bit (w p : Nat) (hw : w < 4294967296) : bits .and .i64 ((w : Int) / 2 ^ p) 1 = (b2n (w.testBit p) : Int) := by
  have hd : w / 2 ^ p < 4294967296 := Nat.lt_of_le_of_lt (Nat.div_le_self _ _) hw
  have := i64_and_nat (w / 2 ^ p) 1 hd (by omega)
  rw [cast_div_pow]
  rw [show ((1 : Nat) : Int) = 1 from rfl] at this
  rw [this, Nat.and_one_is_mod, tb_div]
theorem b2n_le (b : Bool) : b2n b ≤ 1 := by cases b <;> decide

theorem bit_any (w p : Nat) (W : World) (hw : w < 4294967296) (hp : p < 32) : Calls Tryd.prog 32 #[.int .u32 (w : Int), .int .i64 (p : Int)] W fun e W' => e = .returned (.int .i64 (b2n (w.testBit p) : Int)) ∧ W = W' := by
  have H := u32_bit w p hw
  have HB := b2n_le (w.testBit p)
  generalize b2n (w.testBit p) = b at H HB
  have H := Lib.hid H
  go_enter Tryd.func32, Tryd.ntmps32
  go_wp2
  go_ret
  exact ⟨rfl, rfl⟩

/-- Whether a position is a check position. -/
def isCk (p : Nat) : Bool := p == 1 || p == 2 || p == 4 || p == 8 || p == 16
theorem isck_any (p : Nat) (W : World) : Calls Tryd.prog 23 #[.int .i64 (p : Int)] W fun e W' => e = .returned (.bool (isCk p)) ∧ W = W' := by
  by_cases h : p = 1 ∨ p = 2 ∨ p = 4 ∨ p = 8 ∨ p = 16
  · rcases h with rfl | rfl | rfl | rfl | rfl <;>
    · go_enter Tryd.func23, Tryd.ntmps23
      go_wp2
      go_ret
      exact ⟨rfl, rfl⟩
  · have h1 : ((p : Int) == 1) = false := beq_eq_false_iff_ne.2 (by omega)
    have h2 : ((p : Int) == 2) = false := beq_eq_false_iff_ne.2 (by omega)
    have h4 : ((p : Int) == 4) = false := beq_eq_false_iff_ne.2 (by omega)
    have h8 : ((p : Int) == 8) = false := beq_eq_false_iff_ne.2 (by omega)
    have h16 : ((p : Int) == 16) = false := beq_eq_false_iff_ne.2 (by omega)
    have HC : Hid (isCk p = false) := by
      show _ = _
      simp only [isCk, Bool.or_eq_false_iff, beq_eq_false_iff_ne]
      omega
    clear h
    go_enter Tryd.func23, Tryd.ntmps23
    go_wp2
    go_ret
    exact ⟨by rw [HC.out]; rfl, rfl⟩

theorem rsyn_any (w : Nat) (W : World) (hw : w < 4294967296) : Calls Tryd.prog 24 #[.int .u32 (w : Int)] W fun e W' => e = .returned (.int .i64 (synT w 32 : Int)) ∧ W = W' := by
  go_enter Tryd.func24, Tryd.ntmps24
  go_wp2
  go_loop [3, 4] (fun n p => ∃ k : Nat, 1 ≤ k ∧ k ≤ 32 ∧ p = .int .i64 k ∧ n = .int .i64 (synT w k : Int)) (fun _ p => 32 - (intOf p).toNat)
  case atStart => exact ⟨1, by omega, by omega, rfl, by simp [synT]⟩
  case round =>
    obtain ⟨k, hk1, hk, rfl, rfl⟩ := hrel
    by_cases h1 : k < 32
    · have hs := synT_lt w k (by omega)
      have HS : Hid (synT w (k + 1) = synT w k ^^^ (if w.testBit k then k else 0)) := rfl
      generalize synT w k = s at hs HS
      have HB := bit_any w k W hw h1
      cases hb : w.testBit k
      all_goals
        rw [hb] at HS HB
        simp only [b2n, Bool.false_eq_true, if_false, if_true] at HS HB
        have HB := Lib.hid HB
        clear hb
        go_wp2_with (go_at_call 32; refine HB.out.mono ?_; rintro e w' ⟨rfl, rfl⟩)
        go_round
        case rel => exact ⟨k + 1, by omega, by omega, by go_num, by first | (rw [HS.out, Nat.xor_zero]; done) | (rw [HS.out, ← i64_xor_nat _ _ (by omega) (by omega)]; done)⟩
        case measure => simp [intOf]; omega
    · obtain rfl : k = 32 := by omega
      go_wp2
      go_ret
      exact ⟨rfl, rfl⟩

theorem reven_any (w : Nat) (W : World) (hw : w < 4294967296) : Calls Tryd.prog 25 #[.int .u32 (w : Int)] W fun e W' => e = .returned (.bool (cntT w 32 % 2 == 0)) ∧ W = W' := by
  go_enter Tryd.func25, Tryd.ntmps25
  go_wp2
  go_loop [3, 4] (fun n p => ∃ k : Nat, k ≤ 32 ∧ p = .int .i64 k ∧ n = .int .i64 (cntT w k : Int)) (fun _ p => 32 - (intOf p).toNat)
  case atStart => exact ⟨0, by omega, rfl, rfl⟩
  case round =>
    obtain ⟨k, hk, rfl, rfl⟩ := hrel
    have hs := cntT_le w k
    by_cases h1 : k < 32
    · have HS : Hid (cntT w (k + 1) = cntT w k + b2n (w.testBit k)) := rfl
      generalize cntT w k = s at hs HS
      have HB := bit_any w k W hw h1
      have hb := b2n_le (w.testBit k)
      generalize b2n (w.testBit k) = b at *
      have HB := Lib.hid HB
      go_wp2_with (go_at_call 32; refine HB.out.mono ?_; rintro e w' ⟨rfl, rfl⟩)
      go_round
      case rel => exact ⟨k + 1, by omega, by go_num, by rw [HS.out]; go_num⟩
      case measure => simp [intOf]; omega
    · obtain rfl : k = 32 := by omega
      go_wp2
      go_ret
      exact ⟨ret_bool (by rw [Bool.eq_iff_iff, beq_iff_eq, beq_iff_eq]; omega), rfl⟩
end Go.Proofs.YtcojoohbhkhlnaaDoor
