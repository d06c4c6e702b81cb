/-
  The walks of Valid and Constructed, of the program and of the reference.
-/
import Derived.Test.YtahnmnbjgbfeaaaCmp
import Derived.Test.YtahnmnbjgbfeaaaOwn
namespace Go.Proofs.Ytahnmnbjgbfeaaa
set_option linter.unusedVariables false
set_option linter.unusedSimpArgs false
open Go.RowKit

def validB (t : Int) : Bool := if t < 1 ∨ 65535 < t then false else if t ≤ 255 then t % 32 != 31 else t / 256 % 32 == 31 && decide (31 ≤ t % 256) && decide (t % 256 ≤ 127)
def consB (t : Int) : Bool := validB t && ((if t ≤ 255 then t / 32 % 2 else t / 256 / 32 % 2) == 1)

theorem and_i64 (a b : Nat) (ha : a < 9223372036854775808) (hb : b < 9223372036854775808) : bits .and .i64 (a : Int) (b : Int) = ((a &&& b : Nat) : Int) := by
  have key : ∀ x : Nat, x < 9223372036854775808 → (BitVec.ofInt 64 (x : Int)).toNat = x := fun x hx => by
    rw [BitVec.ofInt_natCast, BitVec.toNat_ofNat]; exact Nat.mod_eq_of_lt (by omega)
  have hx : a &&& b < 2 ^ 63 := Nat.and_lt_two_pow _ (by omega)
  show IntKind.i64.wrap ((BitVec.ofInt 64 (a : Int) &&& BitVec.ofInt 64 (b : Int)).toNat : Int) = _
  rw [BitVec.toNat_and, key a ha, key b hb, IntKind.wrap_i64]
  omega
theorem and31 (N : Nat) (h : N ≤ 65535) : bits .and .i64 (N : Int) 31 = (N : Int) % 32 := by
  rw [show (31 : Int) = ((31 : Nat) : Int) from rfl, and_i64 _ _ (by omega) (by omega), nat_mask5]
  rfl
theorem and255 (N : Nat) (h : N ≤ 65535) : bits .and .i64 (N : Int) 255 = (N : Int) % 256 := by
  rw [show (255 : Int) = ((255 : Nat) : Int) from rfl, and_i64 _ _ (by omega) (by omega), nat_mask8]
  rfl
theorem and32 (N : Nat) (h : N ≤ 65535) : bits .and .i64 (N : Int) 32 = (N : Int) / 32 % 2 * 32 := by
  rw [show (32 : Int) = ((32 : Nat) : Int) from rfl, and_i64 _ _ (by omega) (by omega), show (32 : Nat) = 2 ^ 5 from rfl, nat_bit 5 N]
  simp
theorem ret_bool {a b : Bool} (h : a = b) : Ending.returned (.bool a) = .returned (.bool b) := by rw [h]

set_option maxRecDepth 100000 in
set_option maxHeartbeats 1600000 in
theorem pvalid_any (t : Int) (w : World) : Calls Try.prog 44 #[.int .i64 t] w fun e w' => e = .returned (.bool (validB t)) ∧ w = w' := by
  have hcs : t < 1 ∨ 65535 < t ∨ (1 ≤ t ∧ t ≤ 255) ∨ (256 ≤ t ∧ t ≤ 65535) := by omega
  rcases hcs with h | h | ⟨h1, h2⟩ | ⟨h1, h2⟩
  · have HV := Lib.hid (show validB t = false by unfold validB; rw [if_pos (.inl h)])
    go_enter Try.func44, Try.ntmps44
    go_wp2
    go_ret
    exact ⟨ret_bool HV.out.symm, rfl⟩
  · have HV := Lib.hid (show validB t = false by unfold validB; rw [if_pos (.inr h)])
    have h' : ¬ t < 1 := by omega
    go_enter Try.func44, Try.ntmps44
    go_wp2
    go_ret
    exact ⟨ret_bool HV.out.symm, rfl⟩
  · have HV := Lib.hid (show validB t = (t % 32 != 31) by unfold validB; rw [if_neg (by omega), if_pos h2])
    obtain ⟨N, rfl⟩ := Int.eq_ofNat_of_zero_le (show 0 ≤ t by omega)
    have ha := and31 N (by omega)
    go_enter Try.func44, Try.ntmps44
    go_wp2
    go_ret
    exact ⟨ret_bool HV.out.symm, rfl⟩
  · have HV := Lib.hid (show validB t = (t / 256 % 32 == 31 && decide (31 ≤ t % 256) && decide (t % 256 ≤ 127)) by unfold validB; rw [if_neg (by omega), if_neg (by omega)])
    obtain ⟨N, rfl⟩ := Int.eq_ofNat_of_zero_le (show 0 ≤ t by omega)
    have ha := and255 N (by omega)
    have hq := and31 (N / 256) (by omega)
    have hq' : bits .and .i64 ((N : Int) / 256) 31 = (N : Int) / 256 % 32 := by simpa using hq
    have hcs : ¬ (N : Int) / 256 % 32 = 31 ∨ ((N : Int) / 256 % 32 = 31 ∧ ¬ 31 ≤ (N : Int) % 256) ∨ ((N : Int) / 256 % 32 = 31 ∧ 31 ≤ (N : Int) % 256) := by omega
    clear hq
    rcases hcs with k | ⟨k, k2⟩ | ⟨k, k2⟩
    · have kb : ((N : Int) / 256 % 32 == 31) = false := by rw [beq_eq_false_iff_ne]; exact k
      clear k
      go_enter Try.func44, Try.ntmps44
      go_wp2
      go_ret
      exact ⟨ret_bool (by rw [HV.out, kb]; rfl), rfl⟩
    · have kb : ((N : Int) / 256 % 32 == 31) = true := by rw [beq_iff_eq]; exact k
      have kc : decide (31 ≤ (N : Int) % 256) = false := by simpa using k2
      clear k k2
      go_enter Try.func44, Try.ntmps44
      go_wp2
      go_ret
      exact ⟨ret_bool (by rw [HV.out, kb, kc]; rfl), rfl⟩
    · have kb : ((N : Int) / 256 % 32 == 31) = true := by rw [beq_iff_eq]; exact k
      have kc : decide (31 ≤ (N : Int) % 256) = true := by simpa using k2
      clear k k2
      go_enter Try.func44, Try.ntmps44
      go_wp2
      go_ret
      exact ⟨ret_bool (by rw [HV.out, kb, kc]; rfl), rfl⟩

set_option maxRecDepth 100000 in
set_option maxHeartbeats 1600000 in
theorem rvalid_any (t : Int) (w : World) : Calls Try.prog 45 #[.int .i64 t] w fun e w' => e = .returned (.bool (validB t)) ∧ w = w' := by
  have hcs : t < 1 ∨ 65535 < t ∨ (1 ≤ t ∧ t ≤ 255) ∨ (256 ≤ t ∧ t ≤ 65535) := by omega
  rcases hcs with h | h | ⟨h1, h2⟩ | ⟨h1, h2⟩
  · have HV := Lib.hid (show validB t = false by unfold validB; rw [if_pos (.inl h)])
    go_enter Try.func45, Try.ntmps45
    go_wp2
    go_ret
    exact ⟨ret_bool HV.out.symm, rfl⟩
  · have HV := Lib.hid (show validB t = false by unfold validB; rw [if_pos (.inr h)])
    go_enter Try.func45, Try.ntmps45
    go_wp2
    go_ret
    exact ⟨ret_bool HV.out.symm, rfl⟩
  · have HV := Lib.hid (show validB t = (t % 32 != 31) by unfold validB; rw [if_neg (by omega), if_pos h2])
    go_enter Try.func45, Try.ntmps45
    go_wp2
    go_ret
    exact ⟨ret_bool HV.out.symm, rfl⟩
  · have HV := Lib.hid (show validB t = (t / 256 % 32 == 31 && decide (31 ≤ t % 256) && decide (t % 256 ≤ 127)) by unfold validB; rw [if_neg (by omega), if_neg (by omega)])
    have hcs : ¬ t / 256 % 32 = 31 ∨ (t / 256 % 32 = 31 ∧ ¬ 31 ≤ t % 256) ∨ (t / 256 % 32 = 31 ∧ 31 ≤ t % 256) := by omega
    rcases hcs with k | ⟨k, k2⟩ | ⟨k, k2⟩
    · have kb : (t / 256 % 32 == 31) = false := by rw [beq_eq_false_iff_ne]; exact k
      clear k
      go_enter Try.func45, Try.ntmps45
      go_wp2
      go_ret
      exact ⟨ret_bool (by rw [HV.out, kb]; rfl), rfl⟩
    · have kb : (t / 256 % 32 == 31) = true := by rw [beq_iff_eq]; exact k
      have kc : decide (31 ≤ t % 256) = false := by simpa using k2
      clear k k2
      go_enter Try.func45, Try.ntmps45
      go_wp2
      go_ret
      exact ⟨ret_bool (by rw [HV.out, kb, kc]; rfl), rfl⟩
    · have kb : (t / 256 % 32 == 31) = true := by rw [beq_iff_eq]; exact k
      have kc : decide (31 ≤ t % 256) = true := by simpa using k2
      clear k k2
      go_enter Try.func45, Try.ntmps45
      go_wp2
      go_ret
      exact ⟨ret_bool (by rw [HV.out, kb, kc]; rfl), rfl⟩

theorem validB_range {t : Int} (h : validB t = true) : 1 ≤ t ∧ t ≤ 65535 := by
  unfold validB at h
  split at h
  · cases h
  · omega

set_option maxRecDepth 100000 in
set_option maxHeartbeats 1600000 in
theorem pcons_any (t : Int) (w : World) : Calls Try.prog 46 #[.int .i64 t] w fun e w' => e = .returned (.bool (consB t)) ∧ w = w' := by
  have hv := pvalid_any t w
  by_cases hb : validB t = true
  · rw [hb] at hv
    have HV := Lib.hid hv
    obtain ⟨r1, r2⟩ := validB_range hb
    obtain ⟨N, rfl⟩ := Int.eq_ofNat_of_zero_le (show 0 ≤ t by omega)
    by_cases h : (N : Int) ≤ 255
    · have HC := Lib.hid (show consB N = ((N : Int) / 32 % 2 == 1) by unfold consB; rw [hb, if_pos h, Bool.true_and])
      have ha := and32 N (by omega)
      clear hb hv
      go_enter Try.func46, Try.ntmps46
      go_wp2_with (go_at_call 44; refine HV.out.mono ?_; rintro e w' ⟨rfl, rfl⟩)
      go_ret
      refine ⟨ret_bool ?_, rfl⟩
      rw [HC.out, Bool.eq_iff_iff]
      simp
      omega
    · have HC := Lib.hid (show consB N = ((N : Int) / 256 / 32 % 2 == 1) by unfold consB; rw [hb, if_neg h, Bool.true_and])
      have ha0 := and32 (N / 256) (by omega)
      have ha : bits .and .i64 ((N : Int) / 256) 32 = (N : Int) / 256 / 32 % 2 * 32 := by simpa using ha0
      have h' : (255 : Int) < (N : Int) := by omega
      clear hb hv ha0 h
      go_enter Try.func46, Try.ntmps46
      go_wp2_with (go_at_call 44; refine HV.out.mono ?_; rintro e w' ⟨rfl, rfl⟩)
      go_ret
      refine ⟨ret_bool ?_, rfl⟩
      rw [HC.out, Bool.eq_iff_iff]
      simp
      omega
  · have hb' : validB t = false := by simpa using hb
    rw [hb'] at hv
    have HV := Lib.hid hv
    have HC := Lib.hid (show consB t = false by unfold consB; rw [hb', Bool.false_and])
    clear hb hb' hv
    by_cases h : 255 < t
    all_goals
      go_enter Try.func46, Try.ntmps46
      go_wp2_with (go_at_call 44; refine HV.out.mono ?_; rintro e w' ⟨rfl, rfl⟩)
      go_ret
      exact ⟨ret_bool HC.out.symm, rfl⟩

set_option maxRecDepth 100000 in
theorem rfirst_any (t : Int) (w : World) (h0 : 0 ≤ t) (h1 : t ≤ 65535) : Calls Try.prog 68 #[.int .i64 t] w fun e w' => e = .returned (.int .i64 (if t ≤ 255 then t else t / 256)) ∧ w = w' := by
  by_cases h : 255 < t
  · have H := Lib.hid (show (if t ≤ 255 then t else t / 256) = t / 256 by rw [if_neg (by omega)])
    go_enter Try.func68, Try.ntmps68
    rw [H.out]
    go_wp2
    go_ret
    exact ⟨rfl, rfl⟩
  · have H := Lib.hid (show (if t ≤ 255 then t else t / 256) = t by rw [if_pos (by omega)])
    go_enter Try.func68, Try.ntmps68
    rw [H.out]
    go_wp2
    go_ret
    exact ⟨rfl, rfl⟩

set_option maxRecDepth 100000 in
set_option maxHeartbeats 1600000 in
theorem rcons_any (t : Int) (w : World) : Calls Try.prog 47 #[.int .i64 t] w fun e w' => e = .returned (.bool (consB t)) ∧ w = w' := by
  have hv := rvalid_any t w
  by_cases hb : validB t = true
  · rw [hb] at hv
    have HV := Lib.hid hv
    obtain ⟨r1, r2⟩ := validB_range hb
    have hf := rfirst_any t w (by omega) r2
    obtain ⟨F, hF⟩ : ∃ F, F = (if t ≤ 255 then t else t / 256) := ⟨_, rfl⟩
    have HC := Lib.hid (show consB t = (F / 32 % 2 == 1) by
      unfold consB
      rw [hb, Bool.true_and, hF]
      split <;> rfl)
    have hF0 : 0 ≤ F := by rw [hF]; split <;> omega
    have hF1 : F ≤ 65535 := by rw [hF]; split <;> omega
    rw [← hF] at hf
    have HF := Lib.hid hf
    clear hb hv hf hF
    go_enter Try.func47, Try.ntmps47
    go_wp2_with (first
      | (go_at_call 45; refine HV.out.mono ?_; rintro e w' ⟨rfl, rfl⟩)
      | (go_at_call 68; refine HF.out.mono ?_; rintro e w' ⟨rfl, rfl⟩))
    go_ret
    exact ⟨ret_bool (by rw [HC.out]), rfl⟩
  · have hb' : validB t = false := by simpa using hb
    rw [hb'] at hv
    have HV := Lib.hid hv
    have HC := Lib.hid (show consB t = false by unfold consB; rw [hb', Bool.false_and])
    clear hb hb' hv
    go_enter Try.func47, Try.ntmps47
    go_wp2_with (go_at_call 45; refine HV.out.mono ?_; rintro e w' ⟨rfl, rfl⟩)
    go_ret
    exact ⟨ret_bool HC.out.symm, rfl⟩
end Go.Proofs.Ytahnmnbjgbfeaaa
