
/-
  The walks of OnesCount32, isOdd, content, codeWord, Encode of the program.
-/
import Derived.Test.YtiholfpcndjliaaDoorEcd
namespace Go.Proofs.YtiholfpcndjliaaDoor
set_option linter.unusedVariables false
set_option linter.unusedSimpArgs false
open Go.RowKit

/-- The table of OnesCount32. -/
def popA : ByteArray := ⟨#[0, 1, 1, 2, 1, 2, 2, 3, 1, 2, 2, 3, 2, 3, 3, 4, 1, 2, 2, 3, 2, 3, 3, 4, 2, 3, 3, 4, 3, 4, 4, 5, 1, 2, 2, 3, 2, 3, 3, 4, 2, 3, 3, 4, 3, 4, 4, 5, 2, 3, 3, 4, 3, 4, 4, 5, 3, 4, 4, 5, 4, 5, 5, 6, 1, 2, 2, 3, 2, 3, 3, 4, 2, 3, 3, 4, 3, 4, 4, 5, 2, 3, 3, 4, 3, 4, 4, 5, 3, 4, 4, 5, 4, 5, 5, 6, 2, 3, 3, 4, 3, 4, 4, 5, 3, 4, 4, 5, 4, 5, 5, 6, 3, 4, 4, 5, 4, 5, 5, 6, 4, 5, 5, 6, 5, 6, 6, 7, 1, 2, 2, 3, 2, 3, 3, 4, 2, 3, 3, 4, 3, 4, 4, 5, 2, 3, 3, 4, 3, 4, 4, 5, 3, 4, 4, 5, 4, 5, 5, 6, 2, 3, 3, 4, 3, 4, 4, 5, 3, 4, 4, 5, 4, 5, 5, 6, 3, 4, 4, 5, 4, 5, 5, 6, 4, 5, 5, 6, 5, 6, 6, 7, 2, 3, 3, 4, 3, 4, 4, 5, 3, 4, 4, 5, 4, 5, 5, 6, 3, 4, 4, 5, 4, 5, 5, 6, 4, 5, 5, 6, 5, 6, 6, 7, 3, 4, 4, 5, 4, 5, 5, 6, 4, 5, 5, 6, 5, 6, 6, 7, 4, 5, 5, 6, 5, 6, 6, 7, 5, 6, 6, 7, 6, 7, 7, 8]⟩
theorem popA_size : popA.size = 256 := by decide +kernel
def popN (i : Nat) : Nat := if h : i < popA.size then (popA[i]'h).toNat else 0
theorem popN_cnt : ∀ i, i < 256 → popN i = cntT i 8 := by decide +kernel
theorem popA_get (i : Nat) (h : i < popA.size) : (popA[i]'h).toNat = cntT i 8 := by
  have := popN_cnt i (by rw [popA_size] at h; exact h)
  rw [popN, dif_pos h] at this
  exact this
theorem cntT_shift (w k : Nat) : ∀ j, cntT w (k + j) = cntT w k + cntT (w / 2 ^ k) j
  | 0 => by simp [cntT]
  | j + 1 => by
    have ih := cntT_shift w k j
    rw [← Nat.add_assoc]
    simp only [cntT, ih, Nat.testBit_div_two_pow]
    rw [Nat.add_comm j k]
    omega
theorem cntT_mod (x : Nat) : ∀ j, j ≤ 8 → cntT (x % 256) j = cntT x j
  | 0, _ => rfl
  | j + 1, h => by
    have ih := cntT_mod x j (by omega)
    have e : (256 : Nat) = 2 ^ 8 := by decide
    simp only [cntT, ih]
    rw [e, Nat.testBit_mod_two_pow]
    simp [show j < 8 by omega]
theorem cnt_bytes (w : Nat) : cntT w 32 = cntT (w / 16777216 % 256) 8 + cntT (w / 65536 % 256) 8 + cntT (w / 256 % 256) 8 + cntT (w % 256) 8 := by
  rw [cntT_mod _ 8 (by omega), cntT_mod _ 8 (by omega), cntT_mod _ 8 (by omega), cntT_mod _ 8 (by omega)]
  have h1 := cntT_shift w 24 8
  have h2 := cntT_shift w 16 8
  have h3 := cntT_shift w 8 8
  have e1 : (2 : Nat) ^ 24 = 16777216 := by decide
  have e2 : (2 : Nat) ^ 16 = 65536 := by decide
  have e3 : (2 : Nat) ^ 8 = 256 := by decide
  rw [e1] at h1
  rw [e2] at h2
  rw [e3] at h3
  have f1 : 24 + 8 = 32 := rfl
  have f2 : 16 + 8 = 24 := rfl
  have f3 : 8 + 8 = 16 := rfl
  rw [f1] at h1
  rw [f2] at h2
  rw [f3] at h3
  omega
theorem cnt_le32 (w : Nat) : cntT w 32 ≤ 32 := cntT_le w 32
theorem and_byte (x : Nat) (h : x < 4294967296) : bits .and .u32 (x : Int) 255 = ((x % 256 : Nat) : Int) := by
  have := u32_and_nat x 255 h (by omega)
  rw [show ((255 : Nat) : Int) = 255 from rfl] at this
  rw [this]
  have e : x &&& 255 = x % 256 := Nat.and_two_pow_sub_one_eq_mod x 8
  rw [e]
set_option maxRecDepth 100000 in
theorem ones_any (w : Nat) (W : World) (hw : w < 4294967296) : Calls Tryd.prog 107 #[.int .u32 (w : Int)] W fun e W' => e = .returned (.int .i64 (cntT w 32 : Int)) ∧ ∃ n, W' = W.drewN n := by
  have HC := Lib.hid (cnt_bytes w)
  have hl := cnt_le32 w
  have e1 : (w : Int) / 16777216 = ((w / 16777216 % 256 : Nat) : Int) := by omega
  have e2 : bits .and .u32 ((w : Int) / 65536) 255 = ((w / 65536 % 256 : Nat) : Int) := by
    rw [← and_byte (w / 65536) (by omega)]; rfl
  have e3 : bits .and .u32 ((w : Int) / 256) 255 = ((w / 256 % 256 : Nat) : Int) := by
    rw [← and_byte (w / 256) (by omega)]; rfl
  have e4 : bits .and .u32 (w : Int) 255 = ((w % 256 : Nat) : Int) := and_byte w hw
  have h1 : w / 16777216 % 256 < 256 := Nat.mod_lt _ (by omega)
  have h2 : w / 65536 % 256 < 256 := Nat.mod_lt _ (by omega)
  have h3 : w / 256 % 256 < 256 := Nat.mod_lt _ (by omega)
  have h4 : w % 256 < 256 := Nat.mod_lt _ (by omega)
  generalize w / 16777216 % 256 = a at *
  generalize w / 65536 % 256 = b at *
  generalize w / 256 % 256 = c at *
  generalize w % 256 = d at *
  have i1 : (a : Int) < 256 := by omega
  have i2 : (b : Int) < 256 := by omega
  have i3 : (c : Int) < 256 := by omega
  have i4 : (d : Int) < 256 := by omega
  generalize cntT w 32 = N at *
  go_enter Tryd.func107, Tryd.ntmps107
  go_wp2
  go_quiet (fail)
  go_wp2
  go_ret
  refine ⟨ret_int ?_, dn1 _ _⟩
  have q1 : a < popA.size := by rw [popA_size]; exact h1
  have q2 : b < popA.size := by rw [popA_size]; exact h2
  have q3 : c < popA.size := by rw [popA_size]; exact h3
  have q4 : d < popA.size := by rw [popA_size]; exact h4
  have g1 := popA_get a q1
  have g2 := popA_get b q2
  have g3 := popA_get c q3
  have g4 := popA_get d q4
  have hN := HC.out
  show ((((popA[a]'q1).toNat : Int) + ((popA[b]'q2).toNat : Int) + ((popA[c]'q3).toNat : Int) + ((popA[d]'q4).toNat : Int)) % 256) = (N : Int)
  rw [g1, g2, g3, g4]
  omega
theorem podd_any (w : Nat) (W : World) (hw : w < 4294967296) : Calls Tryd.prog 101 #[.int .u32 (w : Int)] W fun e W' => e = .returned (.bool (cntT w 32 % 2 == 1)) ∧ ∃ n, W' = W.drewN n := by
  have H := ones_any w W hw
  have hl := cnt_le32 w
  have HB : Hid ((cntT w 32 % 2 == 1) = ((cntT w 32 : Int) % 2 == 1)) := by
    show _ = _
    rw [Bool.eq_iff_iff, beq_iff_eq, beq_iff_eq]
    omega
  generalize (cntT w 32 % 2 == 1) = b at *
  generalize cntT w 32 = N at *
  have H := Lib.hid H
  go_enter Tryd.func101, Tryd.ntmps101
  go_wp2_with (go_at_call 107; refine H.out.mono ?_; rintro e w' ⟨rfl, n, rfl⟩)
  go_ret
  exact ⟨ret_bool HB.out.symm, dn1 _ _⟩
end Go.Proofs.YtiholfpcndjliaaDoor
