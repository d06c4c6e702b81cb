
/-
  The walk of the law EccCorrects.
-/
import Derived.Test.YtiholfpcndjliaaDoorEcl
namespace Go.Proofs.YtiholfpcndjliaaDoor
set_option linter.unusedVariables false
set_option linter.unusedSimpArgs false
open Go.RowKit

theorem cor0 {d : Nat} (hd : d < 16777216) : decD (encW d) = d ∧ decH (encW d) = 0 := by
  have := dec_good (encW_code d)
  rw [encW_dat d hd] at this
  exact this
theorem cor1 {d i : Nat} (hd : d < 16777216) (hi : i < 32) : decD (encW d ^^^ 2 ^ i) = d ∧ decH (encW d ^^^ 2 ^ i) = 1 := by
  have h := dec1 (encW_code d) hi
  have h1 := isC_flip1 (encW_code d) hi
  unfold decD decH
  rw [h, h1]
  exact ⟨encW_dat d hd, rfl⟩
theorem cor2 {d i k : Nat} (hi : i < 32) (hk : k < 32) (hik : i ≠ k) : decD (encW d ^^^ 2 ^ i ^^^ 2 ^ k) = 0 ∧ decH (encW d ^^^ 2 ^ i ^^^ 2 ^ k) = 2 := by
  have h := dec2 (encW_code d) hi hk hik
  unfold decD decH
  rw [h]
  exact ⟨rfl, rfl⟩

end Go.Proofs.YtiholfpcndjliaaDoor
