/-
  What the laws' left answers, and what it bounds.
-/
import Derived.Test.YtjkbfogjfgnhiaaDoorCnd
namespace Go.Proofs.YtjkbfogjfgnhiaaDoor
set_option linter.unusedVariables false
set_option linter.unusedSimpArgs false
open Go.RowKit

mutual
def Cn.left : Cn → Int → Int
  | .mk _ _ kids, b => leftK kids (b - 1)
def leftK : List Cn → Int → Int
  | [], b => b
  | t :: ts, b => if b < 0 then b else leftK ts (t.left b)
end
theorem left_parts (t : Cn) (b : Int) : t.left b = leftK t.kids (b - 1) := by cases t; rw [Cn.left]; rfl
theorem leftK_neg (ts : List Cn) (b : Int) (h : b < 0) : leftK ts b = b := by cases ts <;> rw [leftK]; rw [if_pos h]
mutual
theorem Cn.left_range : ∀ (t : Cn) (b : Int), 0 ≤ b → b ≤ 200 → -1 ≤ t.left b ∧ t.left b ≤ 200 ∧ (0 ≤ t.left b → t.left b = b - (t.cnt : Int))
  | .mk op n kids, b, h1, h2 => by
    rw [Cn.left, Cn.cnt]
    have := leftK_range kids (b - 1) (by omega) (by omega)
    omega
theorem leftK_range : ∀ (ts : List Cn) (b : Int), -1 ≤ b → b ≤ 200 → -1 ≤ leftK ts b ∧ leftK ts b ≤ 200 ∧ (0 ≤ leftK ts b → leftK ts b = b - (cntK ts : Int))
  | [], b, h1, h2 => by rw [leftK, cntK]; omega
  | t :: ts, b, h1, h2 => by
    rw [leftK, cntK]
    by_cases h : b < 0
    · rw [if_pos h]; omega
    · rw [if_neg h]
      have a1 := Cn.left_range t b (by omega) h2
      have a2 := leftK_range ts (t.left b) a1.1 a1.2.1
      by_cases hn : t.left b < 0
      · rw [leftK_neg ts _ hn] at a2 ⊢; omega
      · omega
end
theorem leftK_drop (ts : List Cn) (k : Nat) (h : k < ts.length) (b : Int) (hb : 0 ≤ b) : leftK (ts.drop k) b = leftK (ts.drop (k + 1)) ((ts[k]).left b) := by
  rw [List.drop_eq_getElem_cons h, leftK, if_neg (by omega)]
def fewB (t : Cn) : Bool := decide (0 ≤ t.left 200)
theorem few_cnt (t : Cn) (h : fewB t = true) : t.cnt ≤ 200 := by
  unfold fewB at h
  have h0 := of_decide_eq_true h
  have := Cn.left_range t 200 (by omega) (by omega)
  omega
end Go.Proofs.YtjkbfogjfgnhiaaDoor
