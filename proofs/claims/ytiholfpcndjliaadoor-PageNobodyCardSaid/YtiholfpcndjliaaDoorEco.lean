
/-
  The walks of Unpack of the program and of the reference.
-/
import Derived.Test.YtiholfpcndjliaaDoorEcn
namespace Go.Proofs.YtiholfpcndjliaaDoor
set_option linter.unusedVariables false
set_option linter.unusedSimpArgs false
open Go.RowKit

/-- The three bytes of a number. -/
def b3 (n : Nat) : List UInt8 := [UInt8.ofNat (n / 65536), UInt8.ofNat (n / 256), UInt8.ofNat n]
/-- The bytes of the first k words. -/
def unpK (w : List Nat) (k : Nat) : List UInt8 := (List.range k).flatMap fun i => b3 (decD (w.getD i 0))
/-- How many of the first k words are fixed. -/
def fixK (w : List Nat) : Nat → Nat
  | 0 => 0
  | k + 1 => fixK w k + if decH (w.getD k 0) = 1 then 1 else 0
/-- Whether one of the first k words is bad. -/
def badB (w : List Nat) : Nat → Bool
  | 0 => false
  | k + 1 => badB w k || decH (w.getD k 0) == 2
theorem badB_up (w : List Nat) : ∀ j k, badB w k = true → badB w (k + j) = true
  | 0, k, h => h
  | j + 1, k, h => by
    have := badB_up w j k h
    rw [← Nat.add_assoc]
    simp only [badB, this, Bool.true_or]
theorem badB_at (w : List Nat) (k n : Nat) (hk : k < n) (h : decH (w.getD k 0) = 2) : badB w n = true := by
  have h1 : badB w (k + 1) = true := by show (badB w k || decH (w.getD k 0) == 2) = true; rw [h]; simp
  have := badB_up w (n - (k + 1)) (k + 1) h1
  rwa [show k + 1 + (n - (k + 1)) = n by omega] at this
theorem unpK_succ (w : List Nat) (k : Nat) : unpK w (k + 1) = unpK w k ++ b3 (decD (w.getD k 0)) := by simp [unpK, List.range_succ]
theorem unpK_len (w : List Nat) : ∀ k, (unpK w k).length = 3 * k
  | 0 => rfl
  | k + 1 => by rw [unpK_succ, List.length_append, unpK_len w k]; simp [b3]; omega
theorem decH_cases (x : Nat) : decH x = 0 ∨ decH x = 1 ∨ decH x = 2 := by
  unfold decH
  cases decF x <;> simp
  cases isC x <;> simp
theorem decD_lt (x : Nat) : decD x < 16777216 := by
  unfold decD
  cases decF x
  · simp
  · exact datT_small _ 24 (by omega)
theorem fixK_le (w : List Nat) : ∀ k, fixK w k ≤ k
  | 0 => Nat.le_refl _
  | k + 1 => by have := fixK_le w k; simp only [fixK]; split <;> omega

/-- The error, the bytes, the number of fixed words that Unpack returns. -/
def unpE (w : List Nat) (n : Int) : Int := if n < 0 ∨ (w.length : Int) ≠ wrdN n then 1 else if badB w w.length = true then 9 else 0
def unpV (w : List Nat) (n : Int) : List UInt8 := if unpE w n = 0 then (unpK w w.length).take n.toNat else []
def unpF (w : List Nat) (n : Int) : Nat := if unpE w n = 0 then fixK w w.length else 0
def UnpR (w : List Nat) (n : Int) (W : World) (e : Ending) (W' : World) : Prop :=
  ∃ v', e = .returned (.tuple #[v', .int .i64 (unpF w n : Int), .int .i64 (unpE w n)]) ∧ OB W' W.heap.size v' (unpV w n) ∧ Below W.heap.size W W'
theorem unpR_bad {w : List Nat} {n : Int} {W W' : World} {x : Int} (h : unpE w n = x) (hx : x ≠ 0) (hb : Below W.heap.size W W') : UnpR w n W (.returned (.tuple #[.slice none 0 0, .int .i64 0, .int .i64 x])) W' := by
  have hE : unpE w n ≠ 0 := by rw [h]; exact hx
  refine ⟨_, by rw [unpF, if_neg hE, h]; rfl, ?_, hb⟩
  rw [unpV, if_neg hE]
  exact OB.nil _ _
theorem unpR_good {w : List Nat} {n : Int} {W W' : World} {v : Value} (h : unpE w n = 0) (hb : Below W.heap.size W W') (hv : OB W' W.heap.size v ((unpK w w.length).take n.toNat)) : UnpR w n W (.returned (.tuple #[v, .int .i64 (fixK w w.length : Int), .int .i64 0])) W' := by
  refine ⟨_, by rw [unpF, if_pos h, h], ?_, hb⟩
  rw [unpV, if_pos h]
  exact hv
theorem b3_cells (d : Nat) (hd : d < 16777216) : ((b3 d).map bv).toArray = #[.int .u8 ((d : Int) / 65536), .int .u8 ((d : Int) / 256 % 256), .int .u8 ((d : Int) % 256)] := by
  have e1 : (((UInt8.ofNat (d / 65536)).toNat : Nat) : Int) = (d : Int) / 65536 := by simp; omega
  have e2 : (((UInt8.ofNat (d / 256)).toNat : Nat) : Int) = (d : Int) / 256 % 256 := by simp
  have e3 : (((UInt8.ofNat d).toNat : Nat) : Int) = (d : Int) % 256 := by simp
  show #[Value.int .u8 (((UInt8.ofNat (d / 65536)).toNat : Nat) : Int), .int .u8 (((UInt8.ofNat (d / 256)).toNat : Nat) : Int), .int .u8 (((UInt8.ofNat d).toNat : Nat) : Int)] = _
  rw [e1, e2, e3]
theorem b3_at (d j : Nat) (hj : j < 3) : ((b3 d).map bv).toArray[j]? = some (.int .u8 (((b3 d).getD j 0).toNat : Int)) := by
  rw [List.getElem?_toArray]
  exact map_bv_get (b3 d) j hj

end Go.Proofs.YtiholfpcndjliaaDoor
