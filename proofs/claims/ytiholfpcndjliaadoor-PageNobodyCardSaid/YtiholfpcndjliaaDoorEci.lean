
/-
  The walks of sameWords and of the reference's Pack.
-/
import Derived.Test.YtiholfpcndjliaaDoorEch
import Derived.Test.YtiholfpcndjliaaDoorWrd
namespace Go.Proofs.YtiholfpcndjliaaDoor
set_option linter.unusedVariables false
set_option linter.unusedSimpArgs false
open Go.RowKit

theorem alloc_below (w : World) (o : Obj) : Below w.heap.size w (w.alloc o) := (Below.refl _ w).alloc (Nat.le_refl _) o
theorem alloc_size (w : World) (o : Obj) : (w.alloc o).heap.size = w.heap.size + 1 := by simp

/-- The number that up to three bytes make. -/
def numJ (l : List UInt8) (i : Nat) : Nat → Nat
  | 0 => 0
  | j + 1 => numJ l i j * 256 + (l.getD (i + j) 0).toNat
theorem numJ_lt (l : List UInt8) (i : Nat) : numJ l i 1 < 256 ∧ numJ l i 2 < 65536 ∧ numJ l i 3 < 16777216 := by
  have h0 := (l.getD (i + 0) 0).toNat_lt
  have h1 := (l.getD (i + 1) 0).toNat_lt
  have h2 := (l.getD (i + 2) 0).toNat_lt
  simp only [numJ]
  omega
theorem numJ_le (l : List UInt8) (i j : Nat) (h : j ≤ 3) : numJ l i j < 16777216 := by
  have := numJ_lt l i
  have h4 : j = 0 ∨ j = 1 ∨ j = 2 ∨ j = 3 := by omega
  rcases h4 with rfl | rfl | rfl | rfl
  · simp [numJ]
  · omega
  · omega
  · omega
theorem numJ_le2 (l : List UInt8) (i j : Nat) (h : j < 3) : numJ l i j < 65536 := by
  have := numJ_lt l i
  have h4 : j = 0 ∨ j = 1 ∨ j = 2 := by omega
  rcases h4 with rfl | rfl | rfl
  · simp [numJ]
  · omega
  · omega
def wordsK (n : Nat) : Nat := (n + 2) / 3
/-- The first k code words of some bytes. -/
def packK (l : List UInt8) (k : Nat) : List Nat := (List.range k).map fun i => encW (numJ l (3 * i) 3)
def packL (l : List UInt8) : List Nat := packK l (wordsK l.length)
theorem packK_succ (l : List UInt8) (k : Nat) : packK l (k + 1) = packK l k ++ [encW (numJ l (3 * k) 3)] := by simp [packK, List.range_succ]
theorem packK_len (l : List UInt8) (k : Nat) : (packK l k).length = k := by simp [packK]
/-- What Pack returns. -/
def PackR (l : List UInt8) (w : World) (e : Ending) (w' : World) : Prop := ∃ v', e = .returned v' ∧ OW w' w.heap.size v' (packL l) ∧ Below w.heap.size w w'

end Go.Proofs.YtiholfpcndjliaaDoor
