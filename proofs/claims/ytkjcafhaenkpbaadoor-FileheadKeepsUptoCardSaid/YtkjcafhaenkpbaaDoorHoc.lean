
/-
  The walk of holds, and of Holds.
-/
import Derived.Test.YtkjcafhaenkpbaaDoorVal
namespace Go.Proofs.YtkjcafhaenkpbaaDoor
set_option linter.unusedVariables false
set_option linter.unusedSimpArgs false
open Go.RowKit

theorem okN_op {op n : Int} {k : Nat} (h : okN op n k = true) : (op = 0 ∨ op = 1 ∨ op = 2 ∨ op = 3 ∨ op = 4 ∨ op = 5 ∨ op = 6 ∨ op = 7) ∧ ((op = 2 ∨ op = 3) → 1 ≤ n ∧ n ≤ 8) ∧ (op = 4 → 1 ≤ n ∧ n ≤ 5) ∧ (op = 5 → 1 ≤ n ∧ n ≤ 51) ∧ (op = 6 ∨ op = 7 → n = 0 ∧ 0 < k) ∧ (op < 6 → k = 0) ∧ (op < 2 → n = 0) := by
  unfold okN lvN at h
  by_cases h0 : op = 0
  · rw [if_pos h0] at h; simp at h; omega
  rw [if_neg h0] at h
  by_cases h1 : op = 1
  · rw [if_pos h1] at h; simp at h; omega
  rw [if_neg h1] at h
  by_cases h2 : op = 2
  · rw [if_pos h2] at h; simp at h; omega
  rw [if_neg h2] at h
  by_cases h3 : op = 3
  · rw [if_pos h3] at h; simp at h; omega
  rw [if_neg h3] at h
  by_cases h4 : op = 4
  · rw [if_pos h4] at h; simp at h; omega
  rw [if_neg h4] at h
  by_cases h5 : op = 5
  · rw [if_pos h5] at h; simp at h; omega
  rw [if_neg h5] at h
  by_cases h6 : op = 6
  · rw [if_pos h6] at h; simp at h; omega
  rw [if_neg h6] at h
  by_cases h7 : op = 7
  · rw [if_pos h7] at h; simp at h; omega
  rw [if_neg h7] at h
  cases h

theorem box2_below (w : World) (o p : Obj) : Below w.heap.size w ((w.alloc o).alloc p) := alloc2_below w o p

/-- What Holds answers. -/
def holdB (s : Sc) (c : Cn) : Bool := decide (chkC 1 3 c = 0) && c.sat s
theorem chk_ok {c : Cn} (h : chkC 1 3 c = 0) : c.ok = true := by
  unfold chkC at h
  cases hc : c.ok with
  | true => rfl
  | false => rw [hc] at h; simp at h
end Go.Proofs.YtkjcafhaenkpbaaDoor
