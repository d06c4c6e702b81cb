
/-
  The walks of the chapter's examples and of the laws EccEncodes, EccDecodes, EccCorrects, EccPacks.
-/
import Derived.Test.YtiholfpcndjliaaDoorEck
namespace Go.Proofs.YtiholfpcndjliaaDoor
set_option linter.unusedVariables false
set_option linter.unusedSimpArgs false
open Go.RowKit

def exB : List UInt8 := [0, 0, 1]
theorem ex_enc : encW 1 = 15 := by decide +kernel
theorem ex_dec11 : decD 11 = 1 ∧ decH 11 = 1 := by decide +kernel
theorem ex_dec9 : decD 9 = 0 ∧ decH 9 = 2 := by decide +kernel
theorem ex_pack : packL exB = [15] := by decide +kernel
theorem exB_sl (w : World) : SL (w.alloc (.cells #[.int .u8 0, .int .u8 0, .int .u8 1] 5)) (w.alloc (.cells #[.int .u8 0, .int .u8 0, .int .u8 1] 5)).heap.size (.slice (some ⟨w.heap.size, 0, none⟩) 3 3) exB :=
  ⟨_, _, rfl, Nat.le_refl _, by simp only [maxLen]; decide, fun _ => ⟨w.heap.size, 0, rfl, by simp, fun k hk => by
    have hk3 : k < 3 := hk
    rw [cell_of_row _ w.heap.size _ _ 5 (0, 0) (heap_alloc_new w _), Nat.zero_add]
    have h3 : k = 0 ∨ k = 1 ∨ k = 2 := by omega
    rcases h3 with rfl | rfl | rfl <;> rfl⟩⟩

end Go.Proofs.YtiholfpcndjliaaDoor
