/-
  The walks of IsCode, data, Decode and Words of the reference.
-/
import Derived.Test.YtcojoohbhkhlnaaDoorEcb
namespace Go.Proofs.YtcojoohbhkhlnaaDoor
set_option linter.unusedVariables false
set_option linter.unusedSimpArgs false
open Go.RowKit

theorem iscode_any (w : Nat) (W : World) (hw : w < 4294967296) : Calls Tryd.prog 28 #[.int .u32 (w : Int)] W fun e W' => e = .returned (.bool (isC w)) ∧ W = W' := by
  have H1 := rsyn_any w W hw
  have H2 := reven_any w W hw
  have H3 := bit_any w 30 W hw (by omega)
  have H4 := bit_any w 31 W hw (by omega)
  have HE : Hid (isC w = (synT w 32 == 0 && cntT w 32 % 2 == 0 && !w.testBit 30 && !w.testBit 31)) := rfl
  by_cases h1 : synT w 32 = 0
  · rw [h1] at H1
    have H1 : Hid (Calls Tryd.prog 24 #[.int .u32 (w : Int)] W fun e W' => e = .returned (.int .i64 0) ∧ W = W') := H1
    have HE : Hid (isC w = (cntT w 32 % 2 == 0 && !w.testBit 30 && !w.testBit 31)) := by show _ = _; rw [HE.out, h1]; rfl
    clear h1
    cases h2 : cntT w 32 % 2 == 0
    · rw [h2] at H2 HE
      have H2 := Lib.hid H2
      have HE : Hid (isC w = false) := HE
      clear h2
      go_enter Tryd.func28, Tryd.ntmps28
      go_wp2_with (first | (go_at_call 24; refine H1.out.mono ?_; rintro e w' ⟨rfl, rfl⟩) | (go_at_call 25; refine H2.out.mono ?_; rintro e w' ⟨rfl, rfl⟩))
      go_ret
      exact ⟨ret_bool HE.out.symm, rfl⟩
    · rw [h2] at H2 HE
      have H2 := Lib.hid H2
      have HE : Hid (isC w = (!w.testBit 30 && !w.testBit 31)) := HE
      clear h2
      cases h3 : w.testBit 30
      · rw [h3] at H3 HE
        have H3 : Hid (Calls Tryd.prog 32 #[.int .u32 (w : Int), .int .i64 30] W fun e W' => e = .returned (.int .i64 0) ∧ W = W') := H3
        have HE : Hid (isC w = (!w.testBit 31)) := HE
        clear h3
        cases h4 : w.testBit 31
        · rw [h4] at H4 HE
          have H4 : Hid (Calls Tryd.prog 32 #[.int .u32 (w : Int), .int .i64 31] W fun e W' => e = .returned (.int .i64 0) ∧ W = W') := H4
          have HE : Hid (isC w = true) := HE
          clear h4
          go_enter Tryd.func28, Tryd.ntmps28
          go_wp2_with (first | (go_at_call 24; refine H1.out.mono ?_; rintro e w' ⟨rfl, rfl⟩) | (go_at_call 25; refine H2.out.mono ?_; rintro e w' ⟨rfl, rfl⟩) | ((with_reducible refine H3.out.mono ?_); rintro e w' ⟨rfl, rfl⟩) | ((with_reducible refine H4.out.mono ?_); rintro e w' ⟨rfl, rfl⟩))
          go_ret
          exact ⟨ret_bool HE.out.symm, rfl⟩
        · rw [h4] at H4 HE
          have H4 : Hid (Calls Tryd.prog 32 #[.int .u32 (w : Int), .int .i64 31] W fun e W' => e = .returned (.int .i64 1) ∧ W = W') := H4
          have HE : Hid (isC w = false) := HE
          clear h4
          go_enter Tryd.func28, Tryd.ntmps28
          go_wp2_with (first | (go_at_call 24; refine H1.out.mono ?_; rintro e w' ⟨rfl, rfl⟩) | (go_at_call 25; refine H2.out.mono ?_; rintro e w' ⟨rfl, rfl⟩) | ((with_reducible refine H3.out.mono ?_); rintro e w' ⟨rfl, rfl⟩) | ((with_reducible refine H4.out.mono ?_); rintro e w' ⟨rfl, rfl⟩))
          go_ret
          exact ⟨ret_bool HE.out.symm, rfl⟩
      · rw [h3] at H3 HE
        have H3 : Hid (Calls Tryd.prog 32 #[.int .u32 (w : Int), .int .i64 30] W fun e W' => e = .returned (.int .i64 1) ∧ W = W') := H3
        have HE : Hid (isC w = false) := HE
        clear h3
        go_enter Tryd.func28, Tryd.ntmps28
        go_wp2_with (first | (go_at_call 24; refine H1.out.mono ?_; rintro e w' ⟨rfl, rfl⟩) | (go_at_call 25; refine H2.out.mono ?_; rintro e w' ⟨rfl, rfl⟩) | ((with_reducible refine H3.out.mono ?_); rintro e w' ⟨rfl, rfl⟩))
        go_ret
        exact ⟨ret_bool HE.out.symm, rfl⟩
  · have HS : Hid (((synT w 32 : Int) == 0) = false) := beq_eq_false_iff_ne.2 (by omega)
    have HE : Hid (isC w = false) := by
      show _ = _
      rw [HE.out, beq_eq_false_iff_ne.2 h1]
      rfl
    clear h1
    generalize synT w 32 = s at H1 HS
    have hs := HS.out
    have H1 := Lib.hid H1
    go_enter Tryd.func28, Tryd.ntmps28
    go_wp2_with (go_at_call 24; refine H1.out.mono ?_; rintro e w' ⟨rfl, rfl⟩)
    go_ret
    exact ⟨ret_bool HE.out.symm, rfl⟩

/-- How many data positions stand below a position. -/
def atN : Nat → Nat
  | 0 => 0
  | k + 1 => atN k + if k < 3 || isCk k then 0 else 1
theorem atN_facts : ∀ k, k < 30 → 3 ≤ k → (isCk k = true ∧ atN (k + 1) = atN k) ∨ (isCk k = false ∧ pl (atN k) = k ∧ atN k < 24 ∧ atN (k + 1) = atN k + 1) := by decide +kernel
theorem datT_small (w k : Nat) (h : k ≤ 24) : datT w k < 16777216 := by
  have h1 := datT_lt w k
  have h2 : 2 ^ k ≤ 2 ^ 24 := Nat.pow_le_pow_right (by omega) h
  omega
theorem pow_small (k : Nat) (h : k < 24) : 2 ^ k ≤ 8388608 := by
  have h2 : 2 ^ k ≤ 2 ^ 23 := Nat.pow_le_pow_right (by omega) (by omega)
  omega

theorem wrap_mulpow (b a d : Nat) (hb : b ≤ 1) (hp : 2 ^ a ≤ 8388608) (hd : d < 16777216) : wrap64 ((d : Int) + wrap64 ((b : Int) * 2 ^ a)) = ((d + b * 2 ^ a : Nat) : Int) := by
  have e : ((b : Int) * 2 ^ a) = ((b * 2 ^ a : Nat) : Int) := by rw [Int.natCast_mul, Int.natCast_pow]; rfl
  have h : b * 2 ^ a ≤ 8388608 := by
    have h2 : b * 2 ^ a ≤ 1 * 2 ^ a := Nat.mul_le_mul_right _ hb
    omega
  rw [e]
  generalize b * 2 ^ a = x at *
  have e1 : wrap64 (x : Int) = x := by unfold wrap64; omega
  rw [e1]
  have e2 : wrap64 ((d : Int) + x) = (d : Int) + x := by unfold wrap64; omega
  rw [e2]
  omega

set_option maxHeartbeats 800000 in
theorem rdata_any (w : Nat) (W : World) (hw : w < 4294967296) : Calls Tryd.prog 29 #[.int .u32 (w : Int)] W fun e W' => e = .returned (.int .i64 (datT w 24 : Int)) ∧ W = W' := by
  go_enter Tryd.func29, Tryd.ntmps29
  go_wp2
  go_loop [3, 4, 5] (fun n a p => ∃ k : Nat, 3 ≤ k ∧ k ≤ 30 ∧ p = .int .i64 k ∧ a = .int .i64 (atN k : Int) ∧ n = .int .i64 (datT w (atN k) : Int)) (fun _ _ p => 30 - (intOf p).toNat)
  case atStart => exact ⟨3, by omega, by omega, rfl, rfl, rfl⟩
  case round =>
    obtain ⟨k, hk3, hk, rfl, rfl, rfl⟩ := hrel
    by_cases h1 : k < 30
    · have HC := isck_any k W
      rcases atN_facts k h1 hk3 with ⟨e1, e2⟩ | ⟨e1, e2, e3, e4⟩
      · rw [e1] at HC
        have HC := Lib.hid HC
        have HA := Lib.hid e2
        clear e1 e2
        go_wp2_with (go_at_call 23; refine HC.out.mono ?_; rintro e w' ⟨rfl, rfl⟩)
        go_round
        case rel => exact ⟨k + 1, by omega, by omega, by go_num, by rw [HA.out], by rw [HA.out]⟩
        case measure => simp [intOf]; omega
      · rw [e1] at HC
        have HC := Lib.hid HC
        have HA := Lib.hid e4
        have HP := Lib.hid e2
        have HB := bit_any w k W hw (by omega)
        have HD : Hid (datT w (atN k + 1) = datT w (atN k) + b2n (w.testBit k) * 2 ^ atN k) := by
          show _ = _
          rw [datT, e2]
        have hd := datT_small w (atN k) (by omega)
        have hp := pow_small (atN k) e3
        have hb := b2n_le (w.testBit k)
        generalize b2n (w.testBit k) = b at *
        have HB := Lib.hid HB
        clear e1 e2 e4
        go_wp2_with (first | (go_at_call 23; refine HC.out.mono ?_; rintro e w' ⟨rfl, rfl⟩) | (go_at_call 32; refine HB.out.mono ?_; rintro e w' ⟨rfl, rfl⟩))
        go_round
        case rel => exact ⟨k + 1, by omega, by omega, by go_num, by rw [HA.out]; go_num, by rw [HA.out, HD.out, wrap_mulpow b (atN k) _ hb hp hd]⟩
        case measure => simp [intOf]; omega
    · obtain rfl : k = 30 := by omega
      go_wp2
      go_ret
      exact ⟨rfl, rfl⟩
/-- The words that n bytes take. -/
def wrdN (n : Int) : Int := if n ≤ 0 then 0 else (n - 1) / 3 + 1
theorem pwords_any (n : Int) (W : World) (hn : n ≤ 9223372036854775807) (hm : -9223372036854775808 ≤ n) : Calls Tryd.prog 14 #[.int .i64 n] W fun e W' => e = .returned (.int .i64 (wrdN n)) ∧ W = W' := by
  by_cases h : n ≤ 0
  · have HW : Hid (wrdN n = 0) := by show _ = _; rw [wrdN, if_pos h]
    go_enter Tryd.func14, Tryd.ntmps14
    go_wp2
    go_ret
    exact ⟨ret_int HW.out.symm, rfl⟩
  · have HW : Hid (wrdN n = (n - 1) / 3 + 1) := by show _ = _; rw [wrdN, if_neg h]
    go_enter Tryd.func14, Tryd.ntmps14
    go_wp2
    go_ret
    exact ⟨ret_int HW.out.symm, rfl⟩
theorem rwords_any (n : Int) (W : World) (hn : n ≤ 9223372036854775807) (hm : -9223372036854775808 ≤ n) : Calls Tryd.prog 15 #[.int .i64 n] W fun e W' => e = .returned (.int .i64 (wrdN n)) ∧ W = W' := by
  by_cases h : n ≤ 0
  · have HW : Hid (wrdN n = 0) := by show _ = _; rw [wrdN, if_pos h]
    go_enter Tryd.func15, Tryd.ntmps15
    go_wp2
    go_ret
    exact ⟨ret_int HW.out.symm, rfl⟩
  · have HW : Hid (wrdN n = (n - 1) / 3 + 1) := by show _ = _; rw [wrdN, if_neg h]
    go_enter Tryd.func15, Tryd.ntmps15
    go_wp2
    go_ret
    exact ⟨ret_int HW.out.symm, rfl⟩

/-! Decode of the reference. -/
def candB (w k : Nat) : Bool := (List.range k).all fun p => !isC (w ^^^ 2 ^ p)
theorem range_find (w : Nat) : ∀ n k, k < n → (∀ j, j < k → isC (w ^^^ 2 ^ j) = false) → isC (w ^^^ 2 ^ k) = true →
    (List.range n).findSome? (fun p => if isC (w ^^^ 2 ^ p) then some (w ^^^ 2 ^ p) else none) = some (w ^^^ 2 ^ k) := by
  intro n
  induction n with
  | zero => intro k hk; omega
  | succ n ih =>
    intro k hk hn hy
    rw [List.range_succ, List.findSome?_append]
    by_cases e : k = n
    · subst e
      have h0 : (List.range k).findSome? (fun p => if isC (w ^^^ 2 ^ p) then some (w ^^^ 2 ^ p) else none) = none := by
        rw [List.findSome?_eq_none_iff]
        intro p hp
        rw [hn p (List.mem_range.1 hp)]
        rfl
      rw [h0]
      simp [hy]
    · rw [ih k (by omega) hn hy]
      rfl
theorem decF_none {w : Nat} (h0 : isC w = false) (h : ∀ j, j < 32 → isC (w ^^^ 2 ^ j) = false) : decF w = none := by
  unfold decF
  rw [h0]
  simp only [Bool.false_eq_true, if_false]
  rw [List.findSome?_eq_none_iff]
  intro p hp
  rw [h p (List.mem_range.1 hp)]
  rfl
theorem decF_at {w k : Nat} (h0 : isC w = false) (hk : k < 32) (h : ∀ j, j < k → isC (w ^^^ 2 ^ j) = false) (hy : isC (w ^^^ 2 ^ k) = true) : decF w = some (w ^^^ 2 ^ k) := by
  unfold decF
  rw [h0]
  simp only [Bool.false_eq_true, if_false]
  exact range_find w 32 k hk h hy
theorem u32_shl (k : Nat) (hk : k < 32) : (2 : Nat) ^ k < 4294967296 := by
  have h2 : 2 ^ k ≤ 2 ^ 31 := Nat.pow_le_pow_right (by omega) (by omega)
  omega

/-- 'w ^ 1<<k' as the walk spells it. -/
theorem u32_flip (w k : Nat) (hw : w < 4294967296) (hk : k < 32) : bits .xor .u32 (w : Int) (2 ^ k % 4294967296) = ((w ^^^ 2 ^ k : Nat) : Int) := by
  have h := u32_shl k hk
  rw [← u32_xor_nat w (2 ^ k) hw h]
  have e : ((2 : Int) ^ k % 4294967296) = ((2 ^ k : Nat) : Int) := by
    have : ((2 ^ k : Nat) : Int) = (2 : Int) ^ k := by rw [Int.natCast_pow]; rfl
    rw [← this]
    generalize 2 ^ k = x at *
    omega
  rw [e]

/-- What Decode returns, as data. -/
def DecR (w : Nat) (W : World) (e : Ending) (W' : World) : Prop := e = .returned (.tuple #[.int .i64 (decD w : Int), .int .i64 (decH w : Int)]) ∧ W = W'
theorem decR_mk {w d h : Nat} {W : World} (h1 : decD w = d) (h2 : decH w = h) : DecR w W (.returned (.tuple #[.int .i64 (d : Int), .int .i64 (h : Int)])) W := ⟨by rw [h1, h2], rfl⟩
theorem dec_good {w : Nat} (h : isC w = true) : decD w = datT w 24 ∧ decH w = 0 := by simp [decD, decH, decF, h]
theorem dec_fixed {w k : Nat} (h0 : isC w = false) (hk : k < 32) (h : ∀ j, j < k → isC (w ^^^ 2 ^ j) = false) (hy : isC (w ^^^ 2 ^ k) = true) : decD w = datT (w ^^^ 2 ^ k) 24 ∧ decH w = 1 := by
  simp [decD, decH, decF_at h0 hk h hy, h0]
theorem dec_bad {w : Nat} (h0 : isC w = false) (h : ∀ j, j < 32 → isC (w ^^^ 2 ^ j) = false) : decD w = 0 ∧ decH w = 2 := by
  simp [decD, decH, decF_none h0 h]

set_option maxHeartbeats 800000 in
theorem rdec_any (w : Nat) (W : World) (hw : w < 4294967296) : Calls Tryd.prog 13 #[.int .u32 (w : Int)] W (DecR w W) := by
  have HC := iscode_any w W hw
  cases h0 : isC w
  · rw [h0] at HC
    have HC := Lib.hid HC
    have H0 := Lib.hid h0
    clear h0
    go_enter Tryd.func13, Tryd.ntmps13
    go_wp2_with (go_at_call 28; refine HC.out.mono ?_; rintro e w' ⟨rfl, rfl⟩)
    go_loop [4] (fun p => ∃ k : Nat, k ≤ 32 ∧ p = .int .i64 k ∧ ∀ j, j < k → isC (w ^^^ 2 ^ j) = false) (fun p => 32 - (intOf p).toNat)
    case atStart => exact ⟨0, by omega, rfl, fun j hj => by omega⟩
    case round =>
      obtain ⟨k, hk, rfl, hn⟩ := hrel
      have HN := Lib.hid hn
      clear hn
      by_cases h1 : k < 32
      · have hs := u32_shl k h1
        have hx : w ^^^ 2 ^ k < 4294967296 := Nat.xor_lt_two_pow (n := 32) hw hs
        have HX := u32_flip w k hw h1
        obtain ⟨x, ex⟩ : ∃ x, x = w ^^^ 2 ^ k := ⟨_, rfl⟩
        rw [← ex] at hx HX
        have HK := iscode_any x W hx
        have HD := Lib.hid (rdata_any x W hx)
        have EX := Lib.hid ex
        cases h2 : isC x
        · rw [h2] at HK
          have HK := Lib.hid HK
          have H2 : Hid (isC (w ^^^ 2 ^ k) = false) := by show _ = _; rw [← ex]; exact h2
          clear h2 ex
          go_wp2_with (go_at_call 28; refine HK.out.mono ?_; rintro e w' ⟨rfl, rfl⟩)
          go_round
          case rel =>
            refine ⟨k + 1, by omega, by go_num, fun j hj => ?_⟩
            by_cases e : j = k
            · subst e; exact H2.out
            · exact HN.out j (by omega)
          case measure => simp [intOf]; omega
        · rw [h2] at HK
          have HK := Lib.hid HK
          have H2 : Hid (isC (w ^^^ 2 ^ k) = true) := by show _ = _; rw [← ex]; exact h2
          have HR := Lib.hid (dec_fixed H0.out h1 HN.out H2.out)
          clear h2 ex
          go_wp2_with (first | (go_at_call 28; refine HK.out.mono ?_; rintro e w' ⟨rfl, rfl⟩) | (go_at_call 29; refine HD.out.mono ?_; rintro e w' ⟨rfl, rfl⟩))
          go_ret2
          exact decR_mk (by rw [HR.out.1, ← EX.out]) HR.out.2
      · obtain rfl : k = 32 := by omega
        go_wp2
        go_ret2
        exact decR_mk (dec_bad H0.out HN.out).1 (dec_bad H0.out HN.out).2
  · rw [h0] at HC
    have HC := Lib.hid HC
    have HR := Lib.hid (dec_good h0)
    have HD := Lib.hid (rdata_any w W hw)
    clear h0
    go_enter Tryd.func13, Tryd.ntmps13
    go_wp2_with (first | (go_at_call 28; refine HC.out.mono ?_; rintro e w' ⟨rfl, rfl⟩) | (go_at_call 29; refine HD.out.mono ?_; rintro e w' ⟨rfl, rfl⟩))
    go_ret2
    exact decR_mk HR.out.1 HR.out.2
end Go.Proofs.YtcojoohbhkhlnaaDoor
