/-
  A PPS: what it chooses, as data; OnesCount8; sum of the reference with it: mathematics and walks.
-/
import Derived.Test.YtnbggokmiokhlaaDoorAwe
import Derived.Test.YtnbggokmiokhlaaDoorRem
namespace Go.Proofs.YtnbggokmiokhlaaDoor
set_option linter.unusedVariables false
set_option linter.unusedSimpArgs false
open Go.RowKit

/-- Whether a PPS announces the further byte i. -/
def annB (y : UInt8) (i : Nat) : Bool := (y &&& bitK (i : Int)) != 0
def annN (y : UInt8) : Nat → Nat
  | 0 => 0
  | i + 1 => annN y i + if annB y i then 1 else 0
def ppsE (b : List UInt8) : Int :=
  if b.length < 2 ∨ b.getD 0 0 ≠ 255 ∨ 128 ≤ (b.getD 1 0).toNat then 4 else if b.length ≠ 3 + annN (b.getD 1 0) 3 then 4 else remE 0 b
def ppsP (b : List UInt8) : Int := if ppsE b = 0 then ((b.getD 1 0).toNat : Int) % 16 else 0
def ppsF (b : List UInt8) (i : Nat) : List UInt8 := if ppsE b = 0 ∧ annB (b.getD 1 0) i = true then [b.getD (2 + annN (b.getD 1 0) i) 0] else []
theorem annN_le (y : UInt8) : ∀ i, annN y i ≤ i
  | 0 => Nat.le_refl _
  | i + 1 => by have := annN_le y i; simp only [annN]; split <;> omega
theorem ann_kind (y : UInt8) : annN (y &&& 112) 3 = annN y 3 ∧ ∀ i, i < 3 → annB (y &&& 112) i = annB y i := by
  have h : ∀ k : Nat, k < 256 → (annN (UInt8.ofNat k &&& 112) 3 = annN (UInt8.ofNat k) 3 ∧ (annB (UInt8.ofNat k &&& 112) 0 = annB (UInt8.ofNat k) 0 ∧ annB (UInt8.ofNat k &&& 112) 1 = annB (UInt8.ofNat k) 1 ∧ annB (UInt8.ofNat k &&& 112) 2 = annB (UInt8.ofNat k) 2)) := by decide +kernel
  have e : y = UInt8.ofNat y.toNat := by simp
  have := h y.toNat y.toNat_lt
  rw [← e] at this
  refine ⟨this.1, fun i hi => ?_⟩
  have h3 : i = 0 ∨ i = 1 ∨ i = 2 := by omega
  rcases h3 with rfl | rfl | rfl
  · exact this.2.1
  · exact this.2.2.1
  · exact this.2.2.2
theorem ann_cases (y : UInt8) : (y &&& 112) = 0 ∨ (y &&& 112) = 16 ∨ (y &&& 112) = 32 ∨ (y &&& 112) = 48 ∨ (y &&& 112) = 64 ∨ (y &&& 112) = 80 ∨ (y &&& 112) = 96 ∨ (y &&& 112) = 112 := by
  have h : ∀ k : Nat, k < 256 → ((UInt8.ofNat k &&& 112) = 0 ∨ (UInt8.ofNat k &&& 112) = 16 ∨ (UInt8.ofNat k &&& 112) = 32 ∨ (UInt8.ofNat k &&& 112) = 48 ∨ (UInt8.ofNat k &&& 112) = 64 ∨ (UInt8.ofNat k &&& 112) = 80 ∨ (UInt8.ofNat k &&& 112) = 96 ∨ (UInt8.ofNat k &&& 112) = 112) := by decide +kernel
  have e : y = UInt8.ofNat y.toNat := by simp
  have := h y.toNat y.toNat_lt
  rwa [← e] at this
theorem low_nat (y : UInt8) : ((y &&& 15).toNat : Int) = (y.toNat : Int) % 16 := by
  have h : ∀ k : Nat, k < 256 → (((UInt8.ofNat k &&& 15).toNat : Int) = ((UInt8.ofNat k).toNat : Int) % 16) := by decide +kernel
  have e : y = UInt8.ofNat y.toNat := by simp
  have := h y.toNat y.toNat_lt
  rwa [← e] at this
theorem top_nat (y : UInt8) : ((y &&& 128) != 0) = decide (128 ≤ y.toNat) := by
  have h : ∀ k : Nat, k < 256 → (((UInt8.ofNat k &&& 128) != 0) = decide (128 ≤ (UInt8.ofNat k).toNat)) := by decide +kernel
  have e : y = UInt8.ofNat y.toNat := by simp
  have := h y.toNat y.toNat_lt
  rwa [← e] at this
theorem bits_and (x y : UInt8) : bits .and .u8 (x.toNat : Int) (y.toNat : Int) = ((x &&& y).toNat : Int) := by
  rw [u8_and_nat _ _ x.toNat_lt y.toNat_lt]
  simp
set_option maxRecDepth 100000 in
set_option maxHeartbeats 1600000 in
theorem ones_any (y : UInt8) (w : World) : Calls Tryd.prog 105 #[.int .u8 ((y &&& 112).toNat : Int)] w fun e w' => e = .returned (.int .i64 (annN y 3)) ∧ w = w' := by
  rw [← (ann_kind y).1]
  rcases ann_cases y with e | e | e | e | e | e | e | e <;> rw [e] <;>
    (show Calls Tryd.prog 105 #[.int .u8 _] w _
     go_enter Tryd.func105, Tryd.ntmps105
     go_wp2_with fail
     go_ret
     exact ⟨ret_int (by first | rfl | kernel_rfl | decide +kernel), rfl⟩)
end Go.Proofs.YtnbggokmiokhlaaDoor
