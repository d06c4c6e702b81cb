
/-
  The walks of codeWord and Encode of the program.
-/
import Derived.Test.YtiholfpcndjliaaDoorEcf
namespace Go.Proofs.YtiholfpcndjliaaDoor
set_option linter.unusedVariables false
set_option linter.unusedSimpArgs false
open Go.RowKit

/-- What codeWord returns. -/
def CwR (d : Nat) (W : World) (e : Ending) (W' : World) : Prop := e = .returned (.int .u32 (encW d : Int)) ∧ ∃ n, W' = W.drewN n
theorem cwR_mk {d w n : Nat} {W : World} (h : encW d = w) : CwR d W (.returned (.int .u32 (w : Int))) (W.drewN n) := ⟨by rw [h], n, rfl⟩

set_option maxRecDepth 100000 in
set_option maxHeartbeats 1600000 in
theorem pcw_any (d : Nat) (W : World) (hd : d < 16777216) (hT : Tb W) : Calls Tryd.prog 93 #[.int .i64 (d : Int)] W (CwR d W) := by
  obtain ⟨⟨t, fr, hg⟩, _⟩ := hT
  go_enter Tryd.func93, Tryd.ntmps93
  go_wp2_with (refine wpList_load_row rfl 157 _ rfl 1 rfl t plA fr _ hg Tryd.underlying157 rfl info53 ?_)
  go_loop [3, 4, 9] (fun w s i => ∃ k : Nat, k ≤ 24 ∧ i = .int .i64 k ∧ s = .int .i64 (synP d k : Int) ∧ w = .int .u32 (spr d k : Int)) (fun _ _ i => 24 - (intOf i).toNat)
  case atStart => exact ⟨0, by omega, rfl, rfl, rfl⟩
  case round =>
    obtain ⟨k, hk, rfl, rfl, rfl⟩ := hrel
    by_cases h1 : k < 24
    · have hi := idx_pl k h1
      have hp := (pl_facts k h1).1
      have hs := synP_lt d k (by omega)
      have hw := spr_lt d k (by omega)
      have HB := i64_bit d k (by omega)
      have HW : Hid (spr d (k + 1) = if d.testBit k then spr d k ||| 2 ^ pl k else spr d k) := rfl
      have HS : Hid (synP d (k + 1) = if d.testBit k then synP d k ^^^ pl k else synP d k) := rfl
      generalize pl k = q at *
      have HO := Lib.hid (u32_set (spr d k) q hw (by omega))
      have HX := Lib.hid (i64_xor_nat (synP d k) q (by omega) (by omega))
      generalize spr d k = v at *
      generalize synP d k = s at *
      cases hb : d.testBit k
      · rw [hb] at HB HW HS
        have HB : bits .and .i64 ((d : Int) / 2 ^ k) 1 = 0 := HB
        have HW : Hid (spr d (k + 1) = v) := HW
        have HS : Hid (synP d (k + 1) = s) := HS
        clear hb
        go_wp2
        go_round
        case rel => exact ⟨k + 1, by omega, by go_num, by rw [HS.out], by rw [HW.out]⟩
        case measure => simp [intOf]; omega
      · rw [hb] at HB HW HS
        have HB : bits .and .i64 ((d : Int) / 2 ^ k) 1 = 1 := HB
        have HW : Hid (spr d (k + 1) = v ||| 2 ^ q) := HW
        have HS : Hid (synP d (k + 1) = s ^^^ q) := HS
        clear hb
        go_wp2
        go_round
        case rel => exact ⟨k + 1, by omega, by go_num, by rw [HS.out, ← HX.out], by rw [HW.out, ← HO.out]⟩
        case measure => simp [intOf]; omega
    · obtain rfl : k = 24 := by omega
      have hs := spr_lt d 24 (by omega)
      have hy := synP_lt d 24 (by omega)
      have HW := Lib.hid (fun w (h : chk (synP d 24) (spr d 24) 5 = w) => encW_def h)
      have hck := chk_lt (synP d 24) (spr d 24) hs
      generalize synP d 24 = s at *
      generalize spr d 24 = v at *
      go_wp2
      go_loop [3, 7] (fun w p => ∃ j : Nat, j ≤ 5 ∧ p = .int .i64 ((2 ^ j : Nat) : Int) ∧ w = .int .u32 (chk s v j : Int)) (fun _ p => 33 - (intOf p).toNat)
      case atStart => exact ⟨0, by omega, rfl, rfl⟩
      case round =>
        obtain ⟨j, hj, rfl, rfl⟩ := hrel
        have hc := hck j hj
        by_cases h5 : j < 5
        · have HH := i64_hit s j hy h5
          have h30 := two_two j h5
          have HC : Hid (chk s v (j + 1) = if s.testBit j then chk s v j ||| 2 ^ 2 ^ j else chk s v j) := rfl
          have HPP : Hid (2 ^ (j + 1) = 2 ^ j * 2) := Nat.pow_succ ..
          have hpos : 0 < 2 ^ j := Nat.pow_pos (by omega)
          generalize chk s v j = c at hc HC
          have HS := u32_set c (2 ^ j) hc (by omega)
          generalize 2 ^ j = P at *
          cases hb : s.testBit j
          · rw [hb] at HH HC
            have HC : Hid (chk s v (j + 1) = c) := HC
            clear hb HS hck
            go_wp2
            go_round
            case rel => exact ⟨j + 1, by omega, by rw [HPP.out]; go_num, by rw [HC.out]⟩
            case measure => simp [intOf]; omega
          · rw [hb] at HH HC
            have HC : Hid (chk s v (j + 1) = c ||| 2 ^ P) := HC
            have HS := Lib.hid HS
            clear hb hck
            go_wp2
            go_round
            case rel => exact ⟨j + 1, by omega, by rw [HPP.out]; go_num, by rw [HC.out, ← HS.out]⟩
            case measure => simp [intOf]; omega
        · obtain rfl : j = 5 := by omega
          have HX := HW.out _ rfl
          generalize chk s v 5 = c at *
          have HE := podd_any c W hc
          have h2 : cntT c 32 % 2 = 0 ∨ cntT c 32 % 2 = 1 := by omega
          clear hck HW
          rcases h2 with e | e
          · rw [e] at HE HX
            have HE : Hid (Calls Tryd.prog 101 #[.int .u32 (c : Int)] W fun e W' => e = .returned (.bool false) ∧ ∃ n, W' = W.drewN n) := HE
            have HY1 : Hid (encW d = c) := HX
            clear e HX
            go_wp2_with (go_at_call 101; refine HE.out.mono ?_; rintro e w' ⟨rfl, n, rfl⟩)
            go_ret
            exact cwR_mk HY1.out
          · rw [e] at HE HX
            have HE : Hid (Calls Tryd.prog 101 #[.int .u32 (c : Int)] W fun e W' => e = .returned (.bool true) ∧ ∃ n, W' = W.drewN n) := HE
            have HY1 : Hid (encW d = c ||| 1) := HX
            have HS := Lib.hid (u32_or_nat c 1 hc (by omega))
            clear e HX
            go_wp2_with (go_at_call 101; refine HE.out.mono ?_; rintro e w' ⟨rfl, n, rfl⟩)
            go_ret
            have := cwR_mk (n := n) (W := W) HY1.out
            rw [← HS.out] at this
            exact this
/-- What Encode of the program returns, as data. -/
def PencR (d : Int) (W : World) (e : Ending) (W' : World) : Prop :=
  e = .returned (.tuple #[.int .u32 ((if d < 0 ∨ 16777216 ≤ d then 0 else encW d.toNat : Nat) : Int), .int .i64 (if d < 0 ∨ 16777216 ≤ d then 2 else 0)]) ∧ ∃ n, W' = W.drewN n
theorem pencR_out {d : Int} {W : World} (hd : d < 0 ∨ 16777216 ≤ d) : PencR d W (.returned (.tuple #[.int .u32 0, .int .i64 2])) W := by
  refine ⟨?_, 0, rfl⟩
  rw [if_pos hd, if_pos hd]
  rfl
set_option maxRecDepth 100000 in
theorem penc_any (d : Int) (W : World) (h1 : -9223372036854775808 ≤ d) (h2 : d ≤ 9223372036854775807) (hT : Tb W) : Calls Tryd.prog 97 #[.int .i64 d] W (PencR d W) := by
  by_cases h : d < 0 ∨ 16777216 ≤ d
  · have HR := Lib.hid (pencR_out (W := W) h)
    clear hT
    rcases h with h | h
    · go_enter Tryd.func97, Tryd.ntmps97
      go_wp2
      go_ret2
      exact HR.out
    · have h' : ¬ d < 0 := by omega
      go_enter Tryd.func97, Tryd.ntmps97
      go_wp2
      go_ret2
      exact HR.out
  · obtain ⟨k, rfl⟩ : ∃ n : Nat, d = n := ⟨d.toNat, by omega⟩
    have HC := pcw_any k W (by omega) hT
    have HR : Hid (∀ n, PencR k W (.returned (.tuple #[.int .u32 (encW k : Int), .int .i64 0])) (W.drewN n)) := fun n => by
      refine ⟨?_, n, rfl⟩
      rw [if_neg h, if_neg h, Int.toNat_natCast]
    have hk : k < 16777216 := by omega
    unfold CwR at HC
    generalize encW k = x at *
    have HC := Lib.hid HC
    clear hT h h1 h2
    go_enter Tryd.func97, Tryd.ntmps97
    go_wp2_with (go_at_call 93; refine HC.out.mono ?_; rintro e w' ⟨rfl, n, rfl⟩)
    go_ret2
    exact HR.out n
end Go.Proofs.YtiholfpcndjliaaDoor
