
/-
  The walks of IsCode, data, Decode and Words of the reference.
-/
import Derived.Test.YtiholfpcndjliaaDoorEcb
namespace Go.Proofs.YtiholfpcndjliaaDoor
set_option linter.unusedVariables false
set_option linter.unusedSimpArgs false
open Go.RowKit

/-- How many data positions stand below a position. -/
def atN : Nat → Nat
  | 0 => 0
  | k + 1 => atN k + if k < 3 || isCk k then 0 else 1
theorem atN_facts : ∀ k, k < 30 → 3 ≤ k → (isCk k = true ∧ atN (k + 1) = atN k) ∨ (isCk k = false ∧ pl (atN k) = k ∧ atN k < 24 ∧ atN (k + 1) = atN k + 1) := by decide +kernel
theorem datT_small (w k : Nat) (h : k ≤ 24) : datT w k < 16777216 := by
  have h1 := datT_lt w k
  have h2 : 2 ^ k ≤ 2 ^ 24 := Nat.pow_le_pow_right (by omega) h
  omega
theorem pow_small (k : Nat) (h : k < 24) : 2 ^ k ≤ 8388608 := by
  have h2 : 2 ^ k ≤ 2 ^ 23 := Nat.pow_le_pow_right (by omega) (by omega)
  omega

theorem wrap_mulpow (b a d : Nat) (hb : b ≤ 1) (hp : 2 ^ a ≤ 8388608) (hd : d < 16777216) : wrap64 ((d : Int) + wrap64 ((b : Int) * 2 ^ a)) = ((d + b * 2 ^ a : Nat) : Int) := by
  have e : ((b : Int) * 2 ^ a) = ((b * 2 ^ a : Nat) : Int) := by rw [Int.natCast_mul, Int.natCast_pow]; rfl
  have h : b * 2 ^ a ≤ 8388608 := by
    have h2 : b * 2 ^ a ≤ 1 * 2 ^ a := Nat.mul_le_mul_right _ hb
    omega
  rw [e]
  generalize b * 2 ^ a = x at *
  have e1 : wrap64 (x : Int) = x := by unfold wrap64; omega
  rw [e1]
  have e2 : wrap64 ((d : Int) + x) = (d : Int) + x := by unfold wrap64; omega
  rw [e2]
  omega

/-- The words that n bytes take. -/
def wrdN (n : Int) : Int := if n ≤ 0 then 0 else (n - 1) / 3 + 1
theorem pwords_any (n : Int) (W : World) (hn : n ≤ 9223372036854775807) (hm : -9223372036854775808 ≤ n) : Calls Tryd.prog 91 #[.int .i64 n] W fun e W' => e = .returned (.int .i64 (wrdN n)) ∧ W = W' := by
  by_cases h : n ≤ 0
  · have HW : Hid (wrdN n = 0) := by show _ = _; rw [wrdN, if_pos h]
    go_enter Tryd.func91, Tryd.ntmps91
    go_wp2
    go_ret
    exact ⟨ret_int HW.out.symm, rfl⟩
  · have HW : Hid (wrdN n = (n - 1) / 3 + 1) := by show _ = _; rw [wrdN, if_neg h]
    go_enter Tryd.func91, Tryd.ntmps91
    go_wp2
    go_ret
    exact ⟨ret_int HW.out.symm, rfl⟩
/-! Decode of the reference. -/
def candB (w k : Nat) : Bool := (List.range k).all fun p => !isC (w ^^^ 2 ^ p)
theorem range_find (w : Nat) : ∀ n k, k < n → (∀ j, j < k → isC (w ^^^ 2 ^ j) = false) → isC (w ^^^ 2 ^ k) = true →
    (List.range n).findSome? (fun p => if isC (w ^^^ 2 ^ p) then some (w ^^^ 2 ^ p) else none) = some (w ^^^ 2 ^ k) := by
  intro n
  induction n with
  | zero => intro k hk; omega
  | succ n ih =>
    intro k hk hn hy
    rw [List.range_succ, List.findSome?_append]
    by_cases e : k = n
    · subst e
      have h0 : (List.range k).findSome? (fun p => if isC (w ^^^ 2 ^ p) then some (w ^^^ 2 ^ p) else none) = none := by
        rw [List.findSome?_eq_none_iff]
        intro p hp
        rw [hn p (List.mem_range.1 hp)]
        rfl
      rw [h0]
      simp [hy]
    · rw [ih k (by omega) hn hy]
      rfl
theorem decF_none {w : Nat} (h0 : isC w = false) (h : ∀ j, j < 32 → isC (w ^^^ 2 ^ j) = false) : decF w = none := by
  unfold decF
  rw [h0]
  simp only [Bool.false_eq_true, if_false]
  rw [List.findSome?_eq_none_iff]
  intro p hp
  rw [h p (List.mem_range.1 hp)]
  rfl
theorem decF_at {w k : Nat} (h0 : isC w = false) (hk : k < 32) (h : ∀ j, j < k → isC (w ^^^ 2 ^ j) = false) (hy : isC (w ^^^ 2 ^ k) = true) : decF w = some (w ^^^ 2 ^ k) := by
  unfold decF
  rw [h0]
  simp only [Bool.false_eq_true, if_false]
  exact range_find w 32 k hk h hy
theorem u32_shl (k : Nat) (hk : k < 32) : (2 : Nat) ^ k < 4294967296 := by
  have h2 : 2 ^ k ≤ 2 ^ 31 := Nat.pow_le_pow_right (by omega) (by omega)
  omega

/-- 'w ^ 1<<k' as the walk spells it. -/
theorem u32_flip (w k : Nat) (hw : w < 4294967296) (hk : k < 32) : bits .xor .u32 (w : Int) (2 ^ k % 4294967296) = ((w ^^^ 2 ^ k : Nat) : Int) := by
  have h := u32_shl k hk
  rw [← u32_xor_nat w (2 ^ k) hw h]
  have e : ((2 : Int) ^ k % 4294967296) = ((2 ^ k : Nat) : Int) := by
    have : ((2 ^ k : Nat) : Int) = (2 : Int) ^ k := by rw [Int.natCast_pow]; rfl
    rw [← this]
    generalize 2 ^ k = x at *
    omega
  rw [e]

/-- What Decode returns, as data. -/
def DecR (w : Nat) (W : World) (e : Ending) (W' : World) : Prop := e = .returned (.tuple #[.int .i64 (decD w : Int), .int .i64 (decH w : Int)]) ∧ W = W'
theorem decR_mk {w d h : Nat} {W : World} (h1 : decD w = d) (h2 : decH w = h) : DecR w W (.returned (.tuple #[.int .i64 (d : Int), .int .i64 (h : Int)])) W := ⟨by rw [h1, h2], rfl⟩
theorem dec_good {w : Nat} (h : isC w = true) : decD w = datT w 24 ∧ decH w = 0 := by simp [decD, decH, decF, h]
theorem dec_fixed {w k : Nat} (h0 : isC w = false) (hk : k < 32) (h : ∀ j, j < k → isC (w ^^^ 2 ^ j) = false) (hy : isC (w ^^^ 2 ^ k) = true) : decD w = datT (w ^^^ 2 ^ k) 24 ∧ decH w = 1 := by
  simp [decD, decH, decF_at h0 hk h hy, h0]
theorem dec_bad {w : Nat} (h0 : isC w = false) (h : ∀ j, j < 32 → isC (w ^^^ 2 ^ j) = false) : decD w = 0 ∧ decH w = 2 := by
  simp [decD, decH, decF_none h0 h]

end Go.Proofs.YtiholfpcndjliaaDoor
