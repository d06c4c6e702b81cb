
/-
  The walk of Encode of the reference.
-/
import Derived.Test.YtiholfpcndjliaaDoorEcc
namespace Go.Proofs.YtiholfpcndjliaaDoor
set_option linter.unusedVariables false
set_option linter.unusedSimpArgs false
open Go.RowKit

theorem synT_flip (w p : Nat) : ∀ k, synT (w ^^^ 2 ^ p) k = synT w k ^^^ (if p < k then p else 0)
  | 0 => by simp [synT]
  | k + 1 => by
    have ih := synT_flip w p k
    simp only [synT, ih, tb_flip]
    by_cases h : p = k
    · subst h
      rw [if_neg (Nat.lt_irrefl p), if_pos (Nat.lt_succ_self p)]
      cases w.testBit p <;> simp [xor_self_cancel]
    · have hb : (p == k) = false := beq_eq_false_iff_ne.2 h
      rw [hb]
      have e : (w.testBit k != false) = w.testBit k := by cases w.testBit k <;> rfl
      rw [e]
      by_cases hk : p < k
      · rw [if_pos hk, if_pos (show p < k + 1 by omega)]
        rw [Nat.xor_assoc, Nat.xor_assoc, Nat.xor_comm p]
      · rw [if_neg hk, if_neg (show ¬ p < k + 1 by omega), Nat.xor_zero, Nat.xor_zero]
theorem synT_spr (d : Nat) : ∀ k, k ≤ 24 → synT (spr d k) 32 = synP d k
  | 0, _ => by
    have h0 : ∀ k, synT 0 k = 0 := by
      intro k
      induction k with
      | zero => rfl
      | succ k ih => simp [synT, ih]
    simp [spr, synP, h0]
  | k + 1, h => by
    have ih := synT_spr d k (by omega)
    have hp := pl_facts k (by omega)
    simp only [spr, synP]
    by_cases hd : d.testBit k = true
    · rw [if_pos hd, if_pos hd]
      have hb : (spr d k).testBit (pl k) = false := by rw [spr_at d k k (by omega) (by omega)]; simp
      rw [or_flip hb, synT_flip, if_pos (by omega), ih]
    · rw [if_neg hd, if_neg hd]
      exact ih
theorem u32_set (w k : Nat) (hw : w < 4294967296) (hk : k < 32) : bits .or .u32 (w : Int) (2 ^ k % 4294967296) = ((w ||| 2 ^ k : Nat) : Int) := by
  have h := u32_shl k hk
  rw [← u32_or_nat w (2 ^ k) hw h]
  have e : ((2 : Int) ^ k % 4294967296) = ((2 ^ k : Nat) : Int) := by
    have : ((2 ^ k : Nat) : Int) = (2 : Int) ^ k := by rw [Int.natCast_pow]; rfl
    rw [← this]
    generalize 2 ^ k = x at *
    omega
  rw [e]
theorem and_pow_ne (s j : Nat) : (s &&& 2 ^ j != 0) = s.testBit j := by
  cases h : s.testBit j
  · have e : s &&& 2 ^ j = 0 := by
      apply Nat.eq_of_testBit_eq
      intro i
      rw [Nat.testBit_and, Nat.testBit_two_pow, Nat.zero_testBit]
      by_cases e : j = i
      · subst e; rw [h]; rfl
      · simp [e]
    rw [e]; rfl
  · have : s &&& 2 ^ j ≠ 0 := by
      intro e
      have := congrArg (fun n => n.testBit j) e
      simp [h] at this
    simpa using this
/-- 's & P != 0' as the walk spells it. -/
theorem i64_hit (s j : Nat) (hs : s < 32) (hj : j < 5) : (bits .and .i64 (s : Int) ((2 ^ j : Nat) : Int) != 0) = s.testBit j := by
  have h := two_two j hj
  rw [i64_and_nat s (2 ^ j) (by omega) (by omega), ← and_pow_ne s j]
  generalize s &&& 2 ^ j = x
  rw [Bool.eq_iff_iff, bne_iff_ne, bne_iff_ne]
  omega
/-- What Encode returns, as data. -/
def EncR (d : Int) (W : World) (e : Ending) (W' : World) : Prop :=
  e = .returned (.tuple #[.int .u32 ((if d < 0 ∨ 16777216 ≤ d then 0 else encW d.toNat : Nat) : Int), .int .i64 (if d < 0 ∨ 16777216 ≤ d then 2 else 0)]) ∧ W = W'
theorem encW_def {d w : Nat} (h : chk (synP d 24) (spr d 24) 5 = w) : encW d = if cntT w 32 % 2 = 1 then w ||| 1 else w := by
  unfold encW
  rw [h]
theorem encR_mk {d w : Nat} {W : World} (hd : d < 16777216) (h : encW d = w) : EncR d W (.returned (.tuple #[.int .u32 (w : Int), .int .i64 0])) W := by
  refine ⟨?_, rfl⟩
  have hn : ¬ ((d : Int) < 0 ∨ 16777216 ≤ (d : Int)) := by omega
  rw [if_neg hn, if_neg hn, Int.toNat_natCast, h]
theorem encR_out {d : Int} {W : World} (hd : d < 0 ∨ 16777216 ≤ d) : EncR d W (.returned (.tuple #[.int .u32 0, .int .i64 2])) W := by
  refine ⟨?_, rfl⟩
  rw [if_pos hd, if_pos hd]
  rfl

end Go.Proofs.YtiholfpcndjliaaDoor
