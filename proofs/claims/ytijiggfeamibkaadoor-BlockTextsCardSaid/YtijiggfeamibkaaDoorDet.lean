
/-
  The walk of the law CheckDetects.
-/
import Derived.Test.YtijiggfeamibkaaDoorLaw
import Derived.RegionTactic
import Derived.ChangeAlike
namespace Go.Proofs.YtijiggfeamibkaaDoor
set_option linter.unusedVariables false
set_option linter.unusedSimpArgs false
open Go.RowKit

theorem lrc_zero (l : List UInt8) : lrcL (l ++ sumL 0 l) = 0 := by
  rw [lrcL_append]
  show lrcL l ^^^ lrcL [lrcL l] = 0
  have e : lrcL [lrcL l] = lrcL l := by simp [lrcL]
  rw [e, UInt8.xor_self]
theorem lrcL_set (l : List UInt8) (i : Nat) (m : UInt8) (h : i < l.length) : lrcL (l.set i (l.getD i 0 ^^^ m)) = lrcL l ^^^ m := by
  have e1 : l.set i (l.getD i 0 ^^^ m) = l.take i ++ ([l.getD i 0 ^^^ m] ++ l.drop (i + 1)) := by
    rw [List.set_eq_take_append_cons_drop, if_pos h]
    rfl
  have e2 : l = l.take i ++ ([l.getD i 0] ++ l.drop (i + 1)) := by
    conv => lhs; rw [← List.take_append_drop i l, drop_getD l i h]
    rfl
  rw [e1]
  conv => rhs; rw [e2]
  rw [lrcL_append, lrcL_append, lrcL_append, lrcL_append]
  have e3 : ∀ x : UInt8, lrcL [x] = x := fun x => by simp [lrcL]
  rw [e3, e3]
  apply UInt8.toNat_inj.1
  simp only [UInt8.toNat_xor]
  generalize (lrcL (l.take i)).toNat = a
  generalize (l.getD i 0).toNat = b
  generalize (lrcL (l.drop (i + 1))).toNat = c
  generalize m.toNat = d
  rw [Nat.xor_assoc b, Nat.xor_comm d c, ← Nat.xor_assoc b, ← Nat.xor_assoc a]

/-- One bit of a byte. -/
def bitB (j : Nat) : UInt8 := UInt8.ofNat (2 ^ j)
theorem bitB_bit (j i : Nat) (hj : j < 8) (hi : i < 8) : (bitB j).toNat.testBit i = decide (i = j) := by
  match j, hj, i, hi with
  | 0, _, i, hi | 1, _, i, hi | 2, _, i, hi | 3, _, i, hi | 4, _, i, hi | 5, _, i, hi | 6, _, i, hi | 7, _, i, hi =>
    match i, hi with
    | 0, _ | 1, _ | 2, _ | 3, _ | 4, _ | 5, _ | 6, _ | 7, _ => decide
    | n + 8, h => exact absurd h (by omega)
  | n + 8, h, _, _ => exact absurd h (by omega)
theorem bitAt_flip (l : List UInt8) (a n : Nat) (ha : a < 8 * l.length) : bitAt (l.set (a / 8) (l.getD (a / 8) 0 ^^^ bitB (a % 8))) n = (bitAt l n ^^ decide (n = a)) := by
  unfold bitAt
  by_cases hq : n / 8 = a / 8
  · have e : (l.set (a / 8) (l.getD (a / 8) 0 ^^^ bitB (a % 8))).getD (n / 8) 0 = l.getD (a / 8) 0 ^^^ bitB (a % 8) := by
      rw [hq]
      simp [List.getD, List.getElem?_set, show a / 8 < l.length by omega]
    rw [e, UInt8.toNat_xor, Nat.testBit_xor, bitB_bit _ _ (Nat.mod_lt _ (by omega)) (Nat.mod_lt _ (by omega)), hq]
    congr 1
    have : (n % 8 = a % 8) ↔ n = a := by omega
    simp [this]
  · have e : (l.set (a / 8) (l.getD (a / 8) 0 ^^^ bitB (a % 8))).getD (n / 8) 0 = l.getD (n / 8) 0 := by
      simp [List.getD, List.getElem?_set, show ¬ a / 8 = n / 8 by omega]
    rw [e]
    have : ¬ n = a := by intro h; exact hq (by rw [h])
    simp [this]
theorem bitB_ne (j : Nat) (hj : j < 8) : bitB j ≠ 0 := by
  intro h
  have := bitB_bit j j hj hj
  rw [h] at this
  simp at this

/-- A wrong bit is detected. -/
theorem det_flip (k : Int) (l : List UInt8) (hk : k = 0 ∨ k = 1) (a : Nat) (ha : a < 8 * (appL k l).length) :
    remE k ((appL k l).set (a / 8) ((appL k l).getD (a / 8) 0 ^^^ bitB (a % 8))) = 6 ∧ remV k ((appL k l).set (a / 8) ((appL k l).getD (a / 8) 0 ^^^ bitB (a % 8))) = [] := by
  obtain ⟨a1, a2, a3, a4, a5⟩ := app_rem k l hk
  have hz : sizeK k ≠ 0 := by rcases hk with rfl | rfl <;> decide
  generalize hy : (appL k l).set (a / 8) ((appL k l).getD (a / 8) 0 ^^^ bitB (a % 8)) = y
  have hyl : y.length = (appL k l).length := by rw [← hy, List.length_set]
  have hno : remOk k y = false := by
    rw [Bool.eq_false_iff]
    intro hok
    unfold remOk at hok
    rw [beq_iff_eq] at hok
    have hsplit : y = y.take (y.length - sizeK k) ++ sumL k (y.take (y.length - sizeK k)) := by
      rw [hok, List.take_append_drop]
    rcases hk with rfl | rfl
    · have h1 := lrc_zero (y.take (y.length - sizeK 0))
      rw [← hsplit, ← hy, lrcL_set _ _ _ (by omega), a1, lrc_zero] at h1
      exact bitB_ne _ (Nat.mod_lt _ (by omega)) (by simpa using h1)
    · have h1 := crc_detects (appL 1 l) y l (y.take (y.length - sizeK 1)) (fun n => decide (n = a)) a1 hsplit hyl.symm (fun n _ => by rw [← hy]; exact bitAt_flip _ _ _ ha)
      have h2 := burst_ne a 1 1 (8 * (appL 1 l).length) (by omega) (by omega) (by omega) (by omega)
      apply h2
      refine Eq.trans ?_ h1
      apply fb_congr
      intro i _
      unfold burst
      by_cases e : i = a
      · subst e; simp
      · simp [e]
        omega
  refine ⟨?_, ?_⟩
  · rw [remE, if_neg hz, if_neg (by omega), if_neg (by simp [hno])]
  · rw [remV, if_neg hz, if_neg (by omega), if_neg (by simp [hno])]

theorem shl_bit (j : Nat) (hj : j < 8) : (2 : Int) ^ j % 256 = ((bitB j).toNat : Int) := by
  match j, hj with
  | 0, _ | 1, _ | 2, _ | 3, _ | 4, _ | 5, _ | 6, _ | 7, _ => decide
  | n + 8, h => exact absurd h (by omega)

end Go.Proofs.YtijiggfeamibkaaDoor
