/-
  The walk of Encode of the reference.
-/
import Derived.Test.YtcojoohbhkhlnaaDoorEcc
namespace Go.Proofs.YtcojoohbhkhlnaaDoor
set_option linter.unusedVariables false
set_option linter.unusedSimpArgs false
open Go.RowKit

theorem synT_flip (w p : Nat) : ∀ k, synT (w ^^^ 2 ^ p) k = synT w k ^^^ (if p < k then p else 0)
  | 0 => by simp [synT]
  | k + 1 => by
    have ih := synT_flip w p k
    simp only [synT, ih, tb_flip]
    by_cases h : p = k
    · subst h
      rw [if_neg (Nat.lt_irrefl p), if_pos (Nat.lt_succ_self p)]
      cases w.testBit p <;> simp [xor_self_cancel]
    · have hb : (p == k) = false := beq_eq_false_iff_ne.2 h
      rw [hb]
      have e : (w.testBit k != false) = w.testBit k := by cases w.testBit k <;> rfl
      rw [e]
      by_cases hk : p < k
      · rw [if_pos hk, if_pos (show p < k + 1 by omega)]
        rw [Nat.xor_assoc, Nat.xor_assoc, Nat.xor_comm p]
      · rw [if_neg hk, if_neg (show ¬ p < k + 1 by omega), Nat.xor_zero, Nat.xor_zero]
theorem synT_spr (d : Nat) : ∀ k, k ≤ 24 → synT (spr d k) 32 = synP d k
  | 0, _ => by
    have h0 : ∀ k, synT 0 k = 0 := by
      intro k
      induction k with
      | zero => rfl
      | succ k ih => simp [synT, ih]
    simp [spr, synP, h0]
  | k + 1, h => by
    have ih := synT_spr d k (by omega)
    have hp := pl_facts k (by omega)
    simp only [spr, synP]
    by_cases hd : d.testBit k = true
    · rw [if_pos hd, if_pos hd]
      have hb : (spr d k).testBit (pl k) = false := by rw [spr_at d k k (by omega) (by omega)]; simp
      rw [or_flip hb, synT_flip, if_pos (by omega), ih]
    · rw [if_neg hd, if_neg hd]
      exact ih
theorem u32_set (w k : Nat) (hw : w < 4294967296) (hk : k < 32) : bits .or .u32 (w : Int) (2 ^ k % 4294967296) = ((w ||| 2 ^ k : Nat) : Int) := by
  have h := u32_shl k hk
  rw [← u32_or_nat w (2 ^ k) hw h]
  have e : ((2 : Int) ^ k % 4294967296) = ((2 ^ k : Nat) : Int) := by
    have : ((2 ^ k : Nat) : Int) = (2 : Int) ^ k := by rw [Int.natCast_pow]; rfl
    rw [← this]
    generalize 2 ^ k = x at *
    omega
  rw [e]
theorem and_pow_ne (s j : Nat) : (s &&& 2 ^ j != 0) = s.testBit j := by
  cases h : s.testBit j
  · have e : s &&& 2 ^ j = 0 := by
      apply Nat.eq_of_testBit_eq
      intro i
      rw [Nat.testBit_and, Nat.testBit_two_pow, Nat.zero_testBit]
      by_cases e : j = i
      · subst e; rw [h]; rfl
      · simp [e]
    rw [e]; rfl
  · have : s &&& 2 ^ j ≠ 0 := by
      intro e
      have := congrArg (fun n => n.testBit j) e
      simp [h] at this
    simpa using this
/-- 's & P != 0' as the walk spells it. -/
theorem i64_hit (s j : Nat) (hs : s < 32) (hj : j < 5) : (bits .and .i64 (s : Int) ((2 ^ j : Nat) : Int) != 0) = s.testBit j := by
  have h := two_two j hj
  rw [i64_and_nat s (2 ^ j) (by omega) (by omega), ← and_pow_ne s j]
  generalize s &&& 2 ^ j = x
  rw [Bool.eq_iff_iff, bne_iff_ne, bne_iff_ne]
  omega
/-- What Encode returns, as data. -/
def EncR (d : Int) (W : World) (e : Ending) (W' : World) : Prop :=
  e = .returned (.tuple #[.int .u32 ((if d < 0 ∨ 16777216 ≤ d then 0 else encW d.toNat : Nat) : Int), .int .i64 (if d < 0 ∨ 16777216 ≤ d then 2 else 0)]) ∧ W = W'
theorem encW_def {d w : Nat} (h : chk (synP d 24) (spr d 24) 5 = w) : encW d = if cntT w 32 % 2 = 1 then w ||| 1 else w := by
  unfold encW
  rw [h]
theorem encR_mk {d w : Nat} {W : World} (hd : d < 16777216) (h : encW d = w) : EncR d W (.returned (.tuple #[.int .u32 (w : Int), .int .i64 0])) W := by
  refine ⟨?_, rfl⟩
  have hn : ¬ ((d : Int) < 0 ∨ 16777216 ≤ (d : Int)) := by omega
  rw [if_neg hn, if_neg hn, Int.toNat_natCast, h]
theorem encR_out {d : Int} {W : World} (hd : d < 0 ∨ 16777216 ≤ d) : EncR d W (.returned (.tuple #[.int .u32 0, .int .i64 2])) W := by
  refine ⟨?_, rfl⟩
  rw [if_pos hd, if_pos hd]
  rfl

set_option maxHeartbeats 1600000 in
theorem renc_in (d : Nat) (W : World) (hd : d < 16777216) : Calls Tryd.prog 10 #[.int .i64 (d : Int)] W (EncR d W) := by
  go_enter Tryd.func10, Tryd.ntmps10
  go_wp2
  go_loop [4, 5, 6] (fun w a p => ∃ k : Nat, 3 ≤ k ∧ k ≤ 30 ∧ p = .int .i64 k ∧ a = .int .i64 (atN k : Int) ∧ w = .int .u32 (spr d (atN k) : Int)) (fun _ _ p => 30 - (intOf p).toNat)
  case atStart => exact ⟨3, by omega, by omega, rfl, rfl, rfl⟩
  case round =>
    obtain ⟨k, hk3, hk, rfl, rfl, rfl⟩ := hrel
    by_cases h1 : k < 30
    · have HC := isck_any k W
      rcases atN_facts k h1 hk3 with ⟨e1, e2⟩ | ⟨e1, e2, e3, e4⟩
      · rw [e1] at HC
        have HC := Lib.hid HC
        have HA := Lib.hid e2
        clear e1 e2
        go_wp2_with (go_at_call 23; refine HC.out.mono ?_; rintro e w' ⟨rfl, rfl⟩)
        go_round
        case rel => exact ⟨k + 1, by omega, by omega, by go_num, by rw [HA.out], by rw [HA.out]⟩
        case measure => simp [intOf]; omega
      · rw [e1] at HC
        have HC := Lib.hid HC
        have HA := Lib.hid e4
        have HP := Lib.hid e2
        have hs := spr_lt d (atN k) (by omega)
        have HB := i64_bit d (atN k) (by omega)
        have HS := u32_set (spr d (atN k)) k hs (by omega)
        cases hb : d.testBit (atN k)
        · have HD : Hid (spr d (atN k + 1) = spr d (atN k)) := by
            show _ = _
            rw [spr, hb]; rfl
          rw [hb] at HB
          have HB : bits .and .i64 ((d : Int) / 2 ^ atN k) 1 = 0 := HB
          clear e1 e2 e4 hb HS
          go_wp2_with (go_at_call 23; refine HC.out.mono ?_; rintro e w' ⟨rfl, rfl⟩)
          go_round
          case rel => exact ⟨k + 1, by omega, by omega, by go_num, by rw [HA.out]; go_num, by rw [HA.out, HD.out]⟩
          case measure => simp [intOf]; omega
        · have HD : Hid (spr d (atN k + 1) = spr d (atN k) ||| 2 ^ k) := by
            show _ = _
            rw [spr, hb, e2]; rfl
          rw [hb] at HB
          have HB : bits .and .i64 ((d : Int) / 2 ^ atN k) 1 = 1 := HB
          have HS := Lib.hid HS
          clear e1 e2 e4 hb
          go_wp2_with (go_at_call 23; refine HC.out.mono ?_; rintro e w' ⟨rfl, rfl⟩)
          go_round
          case rel => exact ⟨k + 1, by omega, by omega, by go_num, by rw [HA.out]; go_num, by rw [HA.out, HD.out, ← HS.out]⟩
          case measure => simp [intOf]; omega
    · obtain rfl : k = 30 := by omega
      have e24 : atN 30 = 24 := by decide +kernel
      rw [e24]
      clear e24
      have hs := spr_lt d 24 (by omega)
      have HY := rsyn_any (spr d 24) W hs
      rw [synT_spr d 24 (by omega)] at HY
      have HY := Lib.hid HY
      have hy := synP_lt d 24 (by omega)
      have HW := Lib.hid (fun w (h : chk (synP d 24) (spr d 24) 5 = w) => encW_def h)
      have hck := chk_lt (synP d 24) (spr d 24) hs
      generalize synP d 24 = s at *
      generalize spr d 24 = v at *
      go_wp2_with (go_at_call 24; refine HY.out.mono ?_; rintro e w' ⟨rfl, rfl⟩)
      go_loop [4, 8] (fun w p => ∃ j : Nat, j ≤ 5 ∧ p = .int .i64 ((2 ^ j : Nat) : Int) ∧ w = .int .u32 (chk s v j : Int)) (fun _ p => 33 - (intOf p).toNat)
      case atStart => exact ⟨0, by omega, rfl, rfl⟩
      case round =>
        obtain ⟨j, hj, rfl, rfl⟩ := hrel
        have hc := hck j hj
        by_cases h5 : j < 5
        · have HH := i64_hit s j hy h5
          have h30 := two_two j h5
          have HC : Hid (chk s v (j + 1) = if s.testBit j then chk s v j ||| 2 ^ 2 ^ j else chk s v j) := rfl
          have HPP : Hid (2 ^ (j + 1) = 2 ^ j * 2) := Nat.pow_succ ..
          have hpos : 0 < 2 ^ j := Nat.pow_pos (by omega)
          generalize chk s v j = c at hc HC
          have HS := u32_set c (2 ^ j) hc (by omega)
          generalize 2 ^ j = P at *
          cases hb : s.testBit j
          · rw [hb] at HH HC
            have HC : Hid (chk s v (j + 1) = c) := HC
            clear hb HS hck
            go_wp2
            go_round
            case rel => exact ⟨j + 1, by omega, by rw [HPP.out]; go_num, by rw [HC.out]⟩
            case measure => simp [intOf]; omega
          · rw [hb] at HH HC
            have HC : Hid (chk s v (j + 1) = c ||| 2 ^ P) := HC
            have HS := Lib.hid HS
            clear hb hck
            go_wp2
            go_round
            case rel => exact ⟨j + 1, by omega, by rw [HPP.out]; go_num, by rw [HC.out, ← HS.out]⟩
            case measure => simp [intOf]; omega
        · obtain rfl : j = 5 := by omega
          have HX := HW.out _ rfl
          generalize chk s v 5 = c at *
          have HE := reven_any c W hc
          have h2 : cntT c 32 % 2 = 0 ∨ cntT c 32 % 2 = 1 := by omega
          clear hck HW
          rcases h2 with e | e
          · rw [e] at HE HX
            have HE : Hid (Calls Tryd.prog 25 #[.int .u32 (c : Int)] W fun e W' => e = .returned (.bool true) ∧ W = W') := HE
            have HY1 : Hid (encW d = c) := HX
            clear e HX
            go_wp2_with (go_at_call 25; refine HE.out.mono ?_; rintro e w' ⟨rfl, rfl⟩)
            go_ret2
            exact encR_mk hd HY1.out
          · rw [e] at HE HX
            have HE : Hid (Calls Tryd.prog 25 #[.int .u32 (c : Int)] W fun e W' => e = .returned (.bool false) ∧ W = W') := HE
            have HY1 : Hid (encW d = c ||| 1) := HX
            have HS := Lib.hid (u32_or_nat c 1 hc (by omega))
            clear e HX
            go_wp2_with (go_at_call 25; refine HE.out.mono ?_; rintro e w' ⟨rfl, rfl⟩)
            go_ret2
            have := encR_mk (W := W) hd HY1.out
            rw [← HS.out] at this
            exact this
theorem renc_any (d : Int) (W : World) (h1 : -9223372036854775808 ≤ d) (h2 : d ≤ 9223372036854775807) : Calls Tryd.prog 10 #[.int .i64 d] W (EncR d W) := by
  by_cases h : d < 0 ∨ 16777216 ≤ d
  · have HR := Lib.hid (encR_out (W := W) h)
    rcases h with h | h
    · go_enter Tryd.func10, Tryd.ntmps10
      go_wp2
      go_ret2
      exact HR.out
    · have h' : ¬ d < 0 := by omega
      go_enter Tryd.func10, Tryd.ntmps10
      go_wp2
      go_ret2
      exact HR.out
  · obtain ⟨n, rfl⟩ : ∃ n : Nat, d = n := ⟨d.toNat, by omega⟩
    exact renc_in n W (by omega)
end Go.Proofs.YtcojoohbhkhlnaaDoor
