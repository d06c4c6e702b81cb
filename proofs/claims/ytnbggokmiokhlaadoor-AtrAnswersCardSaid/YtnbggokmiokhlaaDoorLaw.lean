
/-
  The walks of the chapter's example and of the laws CheckSums, CheckAppends, CheckRemoves, CheckRestores.
-/
import Derived.Test.YtnbggokmiokhlaaDoorRem
namespace Go.Proofs.YtnbggokmiokhlaaDoor
set_option linter.unusedVariables false
set_option linter.unusedSimpArgs false
open Go.RowKit

def exL : List UInt8 := [49, 50, 51, 52, 53, 54, 55, 56, 57]
theorem ex_sum0 : sumL 0 exL = [49] := by decide +kernel
theorem ex_sum1 : sumL 1 exL = [110, 144] := by decide +kernel

theorem sl_big {l : List UInt8} {v : Value} {w : World} {B : Nat} (h : SL w B v l) : ∃ A c, v = .slice A l.length c := by
  obtain ⟨A, c, rfl, _⟩ := h
  exact ⟨A, c, rfl⟩

theorem app_rem (k : Int) (l : List UInt8) (hk : k = 0 ∨ k = 1) : appL k l = l ++ sumL k l ∧ remE k (appL k l) = 0 ∧ remV k (appL k l) = l ∧ sumE k = 0 ∧ (appL k l).length = l.length + sizeK k := by
  have hE : sumE k = 0 := by rcases hk with rfl | rfl <;> rfl
  have hA : appL k l = l ++ sumL k l := by rw [appL, if_pos hE]
  have hz : sizeK k ≠ 0 := by rcases hk with rfl | rfl <;> decide
  have hlen := sumL_len k l
  have hL : (appL k l).length = l.length + sizeK k := by rw [hA, List.length_append, hlen]
  have hOk : remOk k (appL k l) = true := by
    unfold remOk
    rw [hL, Nat.add_sub_cancel, hA, List.take_left, List.drop_left, beq_iff_eq]
  refine ⟨hA, ?_, ?_, hE, hL⟩
  · rw [remE, if_neg hz, if_neg (by omega), if_pos hOk]
  · rw [remV, if_neg hz, if_neg (by omega), if_pos hOk, hL, Nat.add_sub_cancel, hA, List.take_left]

end Go.Proofs.YtnbggokmiokhlaaDoor
