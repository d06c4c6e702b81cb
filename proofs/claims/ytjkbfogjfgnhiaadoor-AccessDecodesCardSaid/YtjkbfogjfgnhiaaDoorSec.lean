/-
  Bits of numbers, and whether a condition is satisfied.
-/
import Derived.Test.YtjkbfogjfgnhiaaDoorCnd
namespace Go.Proofs.YtjkbfogjfgnhiaaDoor
set_option linter.unusedVariables false
set_option linter.unusedSimpArgs false
open Go.RowKit

/-- Bit n of a number. -/
def tbI (x : Int) (n : Nat) : Bool := decide (x / 2 ^ n % 2 = 1)
theorem ofInt_nat (y : Int) : ((BitVec.ofInt 64 y).toNat : Int) = y % 18446744073709551616 := by
  rw [BitVec.toNat_ofInt]
  omega
theorem and_one (y : Int) : bits .and .i64 y 1 = y % 2 := by
  show IntKind.i64.wrap ((BitVec.ofInt 64 y &&& BitVec.ofInt 64 1).toNat : Int) = _
  rw [BitVec.toNat_and]
  have h1 : (BitVec.ofInt 64 1).toNat = 1 := by decide
  have h2 := ofInt_nat y
  rw [h1, Nat.and_one_is_mod]
  rw [IntWalk.i64_in _ (by omega)]
  omega
theorem bit_prog (x : Int) (n : Nat) : (bits .and .i64 (x / 2 ^ n) 1 == 1) = tbI x n := by
  rw [and_one, tbI]
  rw [Bool.eq_iff_iff]
  simp
theorem nat_and_pow (a n : Nat) : a &&& 2 ^ n = if a.testBit n then 2 ^ n else 0 := by
  apply Nat.eq_of_testBit_eq
  intro i
  rw [Nat.testBit_and, Nat.testBit_two_pow]
  by_cases h : n = i
  · subst h
    by_cases hb : a.testBit n = true
    · rw [if_pos hb, hb, Nat.testBit_two_pow]; simp
    · rw [if_neg hb]; simp at hb; simp [hb]
  · by_cases hb : a.testBit n = true
    · rw [if_pos hb, Nat.testBit_two_pow]; simp [h]
    · rw [if_neg hb]; simp [h]
theorem two_pow_pos (n : Nat) : (0 : Int) < 2 ^ n := Int.pow_pos (by omega)
theorem ofInt_pow (n : Nat) (hn : n < 32) : (BitVec.ofInt 64 (2 ^ n)).toNat = 2 ^ n := by
  match n, hn with
  | 0, _ | 1, _ | 2, _ | 3, _ | 4, _ | 5, _ | 6, _ | 7, _ | 8, _ | 9, _ | 10, _ | 11, _ | 12, _ | 13, _ | 14, _ | 15, _ | 16, _ | 17, _ | 18, _ | 19, _ | 20, _ | 21, _ | 22, _ | 23, _ | 24, _ | 25, _ | 26, _ | 27, _ | 28, _ | 29, _ | 30, _ | 31, _ => rfl
  | n + 32, h => exact absurd h (by omega)
theorem tb_ofInt (x : Int) (n : Nat) (hn : n < 9) : (BitVec.ofInt 64 x).toNat.testBit n = tbI x n := by
  have h2 := ofInt_nat x
  rw [Nat.testBit_eq_decide_div_mod_eq, tbI]
  have e : (BitVec.ofInt 64 x).toNat / 2 ^ n % 2 = 1 ↔ x / 2 ^ n % 2 = 1 := by
    generalize (BitVec.ofInt 64 x).toNat = y at *
    match n, hn with
    | 0, _ | 1, _ | 2, _ | 3, _ | 4, _ | 5, _ | 6, _ | 7, _ | 8, _ => simp only [Nat.reducePow, Int.reducePow]; omega
    | n + 9, h => exact absurd h (by omega)
  rw [Bool.eq_iff_iff]
  simp only [decide_eq_true_eq]
  exact e
theorem and_pow (x : Int) (n : Nat) (hn : n < 9) : bits .and .i64 x (2 ^ n) = if tbI x n then 2 ^ n else 0 := by
  show IntKind.i64.wrap ((BitVec.ofInt 64 x &&& BitVec.ofInt 64 (2 ^ n)).toNat : Int) = _
  rw [BitVec.toNat_and, ofInt_pow n (by omega), nat_and_pow, tb_ofInt x n hn]
  cases tbI x n with
  | false => rfl
  | true =>
    simp only [if_true]
    match n, hn with
    | 0, _ | 1, _ | 2, _ | 3, _ | 4, _ | 5, _ | 6, _ | 7, _ | 8, _ => rfl
    | n + 9, h => exact absurd h (by omega)
theorem bit_ref (x : Int) (n : Nat) (hn : n < 9) : (bits .and .i64 x (2 ^ n) == 2 ^ n) = tbI x n := by
  rw [and_pow x n hn]
  have hp : (0 : Int) < 2 ^ n := Int.pow_pos (by omega)
  cases tbI x n with
  | false => simp; omega
  | true => simp

/-- The level has all bits of n. -/
def lvB (l n : Int) : Bool := bits .and .i64 l n == n

structure Sc where
  (pins keys state level : Int)

mutual
/-- Whether a condition is satisfied. -/
def Cn.sat (s : Sc) : Cn → Bool
  | .mk op n kids => if op = 1 then true else if op = 2 then tbI s.pins n.toNat else if op = 3 then tbI s.keys n.toNat else if op = 4 then decide (n ≤ s.state) else if op = 5 then lvB s.level n else if op = 6 then allS s kids else if op = 7 then anyS s kids else false
def allS (s : Sc) : List Cn → Bool | [] => true | t :: ts => t.sat s && allS s ts
def anyS (s : Sc) : List Cn → Bool | [] => false | t :: ts => t.sat s || anyS s ts
end
theorem sat_parts (s : Sc) (t : Cn) : t.sat s = if t.op = 1 then true else if t.op = 2 then tbI s.pins t.n.toNat else if t.op = 3 then tbI s.keys t.n.toNat else if t.op = 4 then decide (t.n ≤ s.state) else if t.op = 5 then lvB s.level t.n else if t.op = 6 then allS s t.kids else if t.op = 7 then anyS s t.kids else false := by
  cases t; rw [Cn.sat]; rfl
theorem allS_eq (s : Sc) : ∀ ts : List Cn, allS s ts = !(ts.any fun t => !t.sat s)
  | [] => by simp [allS]
  | t :: ts => by rw [allS, allS_eq s ts, List.any_cons, Bool.not_or, Bool.not_not]
theorem anyS_eq (s : Sc) : ∀ ts : List Cn, anyS s ts = ts.any fun t => t.sat s
  | [] => by simp [anyS]
  | t :: ts => by rw [anyS, anyS_eq s ts, List.any_cons]
end Go.Proofs.YtjkbfogjfgnhiaaDoor
