/-
  The walk of the law EccCorrects.
-/
import Derived.Test.YtcojoohbhkhlnaaDoorEcl
namespace Go.Proofs.YtcojoohbhkhlnaaDoor
set_option linter.unusedVariables false
set_option linter.unusedSimpArgs false
open Go.RowKit

theorem cor0 {d : Nat} (hd : d < 16777216) : decD (encW d) = d ∧ decH (encW d) = 0 := by
  have := dec_good (encW_code d)
  rw [encW_dat d hd] at this
  exact this
theorem cor1 {d i : Nat} (hd : d < 16777216) (hi : i < 32) : decD (encW d ^^^ 2 ^ i) = d ∧ decH (encW d ^^^ 2 ^ i) = 1 := by
  have h := dec1 (encW_code d) hi
  have h1 := isC_flip1 (encW_code d) hi
  unfold decD decH
  rw [h, h1]
  exact ⟨encW_dat d hd, rfl⟩
theorem cor2 {d i k : Nat} (hi : i < 32) (hk : k < 32) (hik : i ≠ k) : decD (encW d ^^^ 2 ^ i ^^^ 2 ^ k) = 0 ∧ decH (encW d ^^^ 2 ^ i ^^^ 2 ^ k) = 2 := by
  have h := dec2 (encW_code d) hi hk hik
  unfold decD decH
  rw [h]
  exact ⟨rfl, rfl⟩

set_option maxRecDepth 100000 in
set_option maxHeartbeats 1600000 in
theorem law_cor_in (d i k : Nat) (w : World) (hd : d < 16777216) (hi : i < 32) (hk : k < 32) (hT : Tb w) :
    Calls Tryd.prog 5 #[.int .i64 (d : Int), .int .i64 (i : Int), .int .i64 (k : Int)] w fun e w' => e = .returned (.bool true) ∧ Below w.heap.size w w' := by
  have hw := encW_lt d
  have H1 := penc_any d w (by omega) (by omega) hT
  unfold PencR at H1
  rw [if_neg (by omega), if_neg (by omega), Int.toNat_natCast] at H1
  have hc0 := cor0 hd
  have hc1 := cor1 hd hi
  have hx : encW d ^^^ 2 ^ i < 4294967296 := Nat.xor_lt_two_pow (n := 32) hw (u32_shl i hi)
  have hy : encW d ^^^ 2 ^ i ^^^ 2 ^ k < 4294967296 := Nat.xor_lt_two_pow (n := 32) hx (u32_shl k hk)
  have hc2 : decD (encW d ^^^ 2 ^ i ^^^ 2 ^ k) = (if i = k then d else 0) ∧ decH (encW d ^^^ 2 ^ i ^^^ 2 ^ k) = if i = k then 0 else 2 := by
    by_cases e : i = k
    · subst e
      rw [xor_self_cancel, if_pos rfl, if_pos rfl]
      exact hc0
    · rw [if_neg e, if_neg e]
      exact cor2 hi hk e
  have HX := u32_flip (encW d) i hw hi
  have HY := u32_flip (encW d ^^^ 2 ^ i) k hx hk
  have HD0 : ∀ W, Tb W → Calls Tryd.prog 12 #[.int .u32 (encW d : Int)] W fun e w' => e = .returned (.tuple #[.int .i64 (d : Int), .int .i64 0]) ∧ ∃ m, w' = W.drewN m := fun W h => by
    have := pdec_any (encW d) W hw h
    unfold PdecR at this
    rw [hc0.1, hc0.2] at this
    exact this
  have HD1 : ∀ W, Tb W → Calls Tryd.prog 12 #[.int .u32 ((encW d ^^^ 2 ^ i : Nat) : Int)] W fun e w' => e = .returned (.tuple #[.int .i64 (d : Int), .int .i64 1]) ∧ ∃ m, w' = W.drewN m := fun W h => by
    have := pdec_any _ W hx h
    unfold PdecR at this
    rw [hc1.1, hc1.2] at this
    exact this
  have HD2 : ∀ W, Tb W → Calls Tryd.prog 12 #[.int .u32 ((encW d ^^^ 2 ^ i ^^^ 2 ^ k : Nat) : Int)] W fun e w' => e = .returned (.tuple #[.int .i64 ((if i = k then d else 0 : Nat) : Int), .int .i64 ((if i = k then 0 else 2 : Nat) : Int)]) ∧ ∃ m, w' = W.drewN m := fun W h => by
    have := pdec_any _ W hy h
    unfold PdecR at this
    rw [hc2.1, hc2.2] at this
    exact this
  obtain ⟨x, ex⟩ : ∃ x, encW d ^^^ 2 ^ i = x := ⟨_, rfl⟩
  rw [ex] at HD1 HD2 HX HY
  obtain ⟨y, ey⟩ : ∃ y, x ^^^ 2 ^ k = y := ⟨_, rfl⟩
  rw [ey] at HD2 HY
  generalize encW d = c at *
  have HD0 := Lib.hid HD0
  have HD1 := Lib.hid HD1
  have H1 := Lib.hid H1
  have HT := Lib.hid hT
  clear hT hc0 hc1 hc2 hx hy ex ey
  by_cases e : i = k
  · subst e
    have HD3 : Hid (∀ W, Tb W → Calls Tryd.prog 12 #[.int .u32 (y : Int)] W fun e w' => e = .returned (.tuple #[.int .i64 (d : Int), .int .i64 0]) ∧ ∃ m, w' = W.drewN m) := fun W h => by
      have := HD2 W h
      rw [if_pos rfl, if_pos rfl] at this
      exact this
    clear HD2
    go_enter Tryd.func5, Tryd.ntmps5
    go_wp2_with fail
    refine H1.out.mono ?_
    rintro e w1 ⟨rfl, n1, rfl⟩
    go_wp2_with fail
    refine (HD0.out _ (HT.out.drewN n1)).mono ?_
    rintro e w2 ⟨rfl, n2, rfl⟩
    rw [World.drewN_drewN]
    go_wp2_with fail
    refine (HD1.out _ (HT.out.drewN _)).mono ?_
    rintro e w3 ⟨rfl, n3, rfl⟩
    rw [World.drewN_drewN]
    generalize n1 + n2 + n3 = n
    have hb0 : Below w.heap.size w (w.drewN n) := drewN_below _ _ _
    have hT1 := HT.out.on hb0
    obtain ⟨W, hW⟩ : ∃ W, w.drewN n = W := ⟨_, rfl⟩
    rw [hW] at hb0 hT1
    rw [hW]
    clear hW
    have HT1 := Lib.hid hT1
    clear hT1
    go_wp2_with fail
    go_quiet ((go_at_call 12; exact Calls.quiet_of (HD3.out _ HT1.out)))
    go_wp2_with fail
    refine (example_any _ (HT1.out.drewN nq)).mono ?_
    rintro e w4 ⟨rfl, hb4⟩
    go_wp2_with fail
    go_ret
    exact ⟨rfl, hb0.trans (((drewN_below W.heap.size W nq).trans hb4).mono hb0.size)⟩
  · have HD3 : Hid (∀ W, Tb W → Calls Tryd.prog 12 #[.int .u32 (y : Int)] W fun e w' => e = .returned (.tuple #[.int .i64 0, .int .i64 2]) ∧ ∃ m, w' = W.drewN m) := fun W h => by
      have := HD2 W h
      rw [if_neg e, if_neg e] at this
      exact this
    clear HD2
    have hik : ((i : Int) == (k : Int)) = false := beq_eq_false_iff_ne.2 (by omega)
    clear e
    go_enter Tryd.func5, Tryd.ntmps5
    go_wp2_with fail
    refine H1.out.mono ?_
    rintro e w1 ⟨rfl, n1, rfl⟩
    go_wp2_with fail
    refine (HD0.out _ (HT.out.drewN n1)).mono ?_
    rintro e w2 ⟨rfl, n2, rfl⟩
    rw [World.drewN_drewN]
    go_wp2_with fail
    refine (HD1.out _ (HT.out.drewN _)).mono ?_
    rintro e w3 ⟨rfl, n3, rfl⟩
    rw [World.drewN_drewN]
    generalize n1 + n2 + n3 = n
    have hb0 : Below w.heap.size w (w.drewN n) := drewN_below _ _ _
    have hT1 := HT.out.on hb0
    obtain ⟨W, hW⟩ : ∃ W, w.drewN n = W := ⟨_, rfl⟩
    rw [hW] at hb0 hT1
    rw [hW]
    clear hW
    have HT1 := Lib.hid hT1
    clear hT1
    go_wp2_with fail
    go_quiet ((go_at_call 12; exact Calls.quiet_of (HD3.out _ HT1.out)))
    go_wp2_with fail
    refine (example_any _ (HT1.out.drewN nq)).mono ?_
    rintro e w4 ⟨rfl, hb4⟩
    go_wp2_with fail
    go_ret
    exact ⟨rfl, hb0.trans (((drewN_below W.heap.size W nq).trans hb4).mono hb0.size)⟩

set_option maxRecDepth 100000 in
set_option maxHeartbeats 1600000 in
theorem law_cor (d i k : Int) (w : World) (hd : -9223372036854775808 ≤ d ∧ d ≤ 9223372036854775807) (hT : Tb w) :
    Calls Tryd.prog 5 #[.int .i64 d, .int .i64 i, .int .i64 k] w fun e w' => e = .returned (.bool true) ∧ Below w.heap.size w w' := by
  have H1 := penc_any d w hd.1 hd.2 hT
  unfold PencR at H1
  by_cases h : d < 0 ∨ 16777216 ≤ d
  · rw [if_pos h, if_pos h] at H1
    have H1 : Hid (Calls Tryd.prog 9 #[.int .i64 d] w fun e w' => e = .returned (.tuple #[.int .u32 0, .int .i64 2]) ∧ ∃ n, w' = w.drewN n) := H1
    have HE := Lib.hid (fun n => example_any (w.drewN n) (hT.drewN n))
    clear h hT hd
    go_enter Tryd.func5, Tryd.ntmps5
    go_wp2_with fail
    refine H1.out.mono ?_
    rintro e w1 ⟨rfl, n1, rfl⟩
    go_wp2_with fail
    refine (HE.out n1).mono ?_
    rintro e w4 ⟨rfl, hb4⟩
    go_wp2_with fail
    go_ret
    exact ⟨rfl, (drewN_below _ _ _).trans hb4⟩
  · obtain ⟨dn, rfl⟩ : ∃ n : Nat, d = n := ⟨d.toNat, by omega⟩
    by_cases hik : (0 ≤ i ∧ i < 32) ∧ 0 ≤ k ∧ k < 32
    · obtain ⟨inn, rfl⟩ : ∃ n : Nat, i = n := ⟨i.toNat, by omega⟩
      obtain ⟨kn, rfl⟩ : ∃ n : Nat, k = n := ⟨k.toNat, by omega⟩
      exact law_cor_in dn inn kn w (by omega) (by omega) (by omega) hT
    · rw [if_neg h, if_neg h, Int.toNat_natCast] at H1
      have hdn : dn < 16777216 := by omega
      have hc0 := cor0 hdn
      have hw := encW_lt dn
      have HD0 : Hid (∀ n, Calls Tryd.prog 12 #[.int .u32 (encW dn : Int)] (w.drewN n) fun e w' => e = .returned (.tuple #[.int .i64 (dn : Int), .int .i64 0]) ∧ ∃ m, w' = (w.drewN n).drewN m) := fun n => by
        have := pdec_any (encW dn) (w.drewN n) hw (hT.drewN n)
        unfold PdecR at this
        rw [hc0.1, hc0.2] at this
        exact this
      have HE := Lib.hid (fun n => example_any (w.drewN n) (hT.drewN n))
      have H1 := Lib.hid H1
      generalize encW dn = c at *
      have hcs : i < 0 ∨ (0 ≤ i ∧ 31 < i) ∨ (0 ≤ i ∧ i ≤ 31 ∧ k < 0) ∨ (0 ≤ i ∧ i ≤ 31 ∧ 0 ≤ k ∧ 31 < k) := by omega
      clear h hd hT hik hc0 hw hdn
      rcases hcs with h | ⟨h, h2⟩ | ⟨h, h2, h3⟩ | ⟨h, h2, h3, h4⟩
      all_goals
        go_enter Tryd.func5, Tryd.ntmps5
        go_wp2_with fail
        refine H1.out.mono ?_
        rintro e w1 ⟨rfl, n1, rfl⟩
        go_wp2_with fail
        refine (HD0.out n1).mono ?_
        rintro e w2 ⟨rfl, n2, rfl⟩
        rw [World.drewN_drewN]
        go_wp2_with fail
        refine (HE.out _).mono ?_
        rintro e w4 ⟨rfl, hb4⟩
        go_wp2_with fail
        go_ret
        exact ⟨rfl, (drewN_below _ _ _).trans hb4⟩
end Go.Proofs.YtcojoohbhkhlnaaDoor
