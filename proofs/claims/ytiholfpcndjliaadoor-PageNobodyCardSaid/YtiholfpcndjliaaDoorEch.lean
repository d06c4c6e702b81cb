
/-
  The walk of Decode of the program.
-/
import Derived.Test.YtiholfpcndjliaaDoorEcg
import Derived.WalkMore
import Derived.Deep.LoopGhost
namespace Go.Proofs.YtiholfpcndjliaaDoor
set_option linter.unusedVariables false
set_option linter.unusedSimpArgs false
open Go.RowKit

/-- What Decode of the program returns. -/
def PdecR (w : Nat) (W : World) (e : Ending) (W' : World) : Prop := e = .returned (.tuple #[.int .i64 (decD w : Int), .int .i64 (decH w : Int)]) ∧ ∃ n, W' = W.drewN n
theorem pdecR_mk {w d h n : Nat} {W : World} (h1 : decD w = d) (h2 : decH w = h) : PdecR w W (.returned (.tuple #[.int .i64 (d : Int), .int .i64 (h : Int)])) (W.drewN n) := ⟨by rw [h1, h2], n, rfl⟩
theorem gr_lt : ∀ i, i < 8 → gr i < 4294967296 := by decide +kernel
def stN (k : Nat) : Nat := if k = 0 then 0 else 1

set_option maxRecDepth 100000 in
set_option maxHeartbeats 3200000 in
theorem pdec_any (w : Nat) (W : World) (hw : w < 4294967296) (hT : Tb W) : Calls Tryd.prog 89 #[.int .u32 (w : Int)] W (PdecR w W) := by
  have HT := Lib.hid hT
  obtain ⟨_, t, fr, hg⟩ := hT
  have HG := Lib.hid hg
  clear hg
  go_enter Tryd.func89, Tryd.ntmps89
  go_wp2
  go_step3
  go_wp2
  go_step3
  go_wp2
  go_loopw [4, 5] (fun s p wr => (p = .int .i64 (-1) ∧ s = .int .i64 0 ∧ W = wr) ∨
    ∃ k : Nat, k ≤ 32 ∧ p = .int .i64 k ∧ s = .int .i64 (stN k : Int) ∧ isC w = false ∧ (∀ j, j < k → isC (w ^^^ 2 ^ j) = false) ∧ ∃ n, wr = W.drewN n) (fun _ p _ => (32 - intOf p).toNat)
  case atStart => exact .inl ⟨rfl, rfl, rfl⟩
  case round =>
    rcases hrel with ⟨rfl, rfl, rfl⟩ | ⟨k, hk, rfl, rfl, h0, hn, n, rfl⟩
    · have hg' := HG.out
      obtain ⟨x, ex⟩ : ∃ x, w = x := ⟨_, rfl⟩
      subst ex
      have hx := hw
      go_wp2_with (refine wpList_load_row rfl 153 _ rfl 0 rfl t grA fr _ hg' Tryd.underlying153 rfl info46 ?_)
      go_loopw [21] (fun s wx => ∃ i : Nat, i ≤ 8 ∧ s = .int .i64 i ∧ (∀ j, j < i → oddG w j = false) ∧ ∃ n, wx = W.drewN n) (fun s _ => 8 - (intOf s).toNat)
      case atStart => exact ⟨0, by omega, rfl, fun j hj => absurd hj (by omega), by first | exact ⟨0, rfl⟩ | exact ⟨_, rfl⟩⟩
      case round =>
        obtain ⟨i, hi, rfl, hj, m, rfl⟩ := hrel
        have HJ := Lib.hid hj
        clear hj
        by_cases h8 : i < 8
        · have hix := idx_gr i h8
          have hgl := gr_lt i h8
          have HA := u32_and_nat w (gr i) hx hgl
          have ha : w &&& gr i < 4294967296 := Nat.and_lt_two_pow (n := 32) _ hgl
          have HP := podd_any (w &&& gr i) (W.drewN m) ha
          have HO : Hid ((cntT (w &&& gr i) 32 % 2 == 1) = oddG w i) := rfl
          generalize w &&& gr i = y at HA HP HO
          generalize gr i = g at HA hix
          rw [HO.out] at HP
          cases ho : oddG w i
          · rw [ho] at HP
            have HP := Lib.hid HP
            have H0 := Lib.hid ho
            clear ho
            go_wp2_with (go_at_call 101; refine HP.out.mono ?_; rintro e w' ⟨rfl, n, rfl⟩)
            go_roundw
            case rel =>
              refine ⟨i + 1, by omega, by go_num, fun j hj => ?_, by first | exact ⟨_, rfl⟩ | (simp only [World.drewN_drewN]; exact ⟨_, rfl⟩)⟩
              by_cases e : j = i
              · subst e; exact H0.out
              · exact HJ.out j (by omega)
            case measure => simp [intOf]; omega
          · rw [ho] at HP
            have HP := Lib.hid HP
            have HN : Hid (isC w = false) := by
              show _ = _
              rw [Bool.eq_false_iff]
              intro hc
              have := (isC_groups w).1 hc i h8
              rw [ho] at this
              cases this
            clear ho
            go_wp2_with (go_at_call 101; refine HP.out.mono ?_; rintro e w' ⟨rfl, n, rfl⟩)
            go_roundw
            case rel => exact .inr ⟨0, by omega, rfl, rfl, HN.out, fun j hj => absurd hj (by omega), by first | exact ⟨_, rfl⟩ | (simp only [World.drewN_drewN]; exact ⟨_, rfl⟩)⟩
            case measure => simp [intOf] <;> omega
        · obtain rfl : i = 8 := by omega
          have HY : Hid (isC w = true) := (isC_groups w).2 HJ.out
          have HD := Lib.hid (pcont_any w (W.drewN m) hx (HT.out.drewN m))
          go_wp2_with (go_at_call 102; refine HD.out.mono ?_; rintro e w' ⟨rfl, rfl⟩)
          try rw [Exit.noGoto_ret]
          go_ret2
          exact pdecR_mk (dec_good HY.out).1 (dec_good HY.out).2
    · have H0 := Lib.hid h0
      have HK := Lib.hid hn
      clear h0 hn
      by_cases h32 : k < 32
      · have hg' : (W.drewN n).heap[0]? = some (.cells grA t fr) := HG.out
        have HF := u32_flip w k hw h32
        have hx : w ^^^ 2 ^ k < 4294967296 := Nat.xor_lt_two_pow (n := 32) hw (u32_shl k h32)
        obtain ⟨x, ex⟩ : ∃ x, x = w ^^^ 2 ^ k := ⟨_, rfl⟩
        rw [← ex] at hx HF
        have EX := Lib.hid ex
        clear ex
        generalize stN k = st
        go_wp2_with (refine wpList_load_row rfl 153 _ rfl 0 rfl t grA fr _ hg' Tryd.underlying153 rfl info46 ?_)
        go_loopw [21] (fun s wx => ∃ i : Nat, i ≤ 8 ∧ s = .int .i64 i ∧ (∀ j, j < i → oddG x j = false) ∧ ∃ n, wx = W.drewN n) (fun s _ => 8 - (intOf s).toNat)
        case atStart => exact ⟨0, by omega, rfl, fun j hj => absurd hj (by omega), by first | exact ⟨0, rfl⟩ | exact ⟨_, rfl⟩⟩
        case round =>
          obtain ⟨i, hi, rfl, hj, m, rfl⟩ := hrel
          have HJ := Lib.hid hj
          clear hj
          by_cases h8 : i < 8
          · have hix := idx_gr i h8
            have hgl := gr_lt i h8
            have HA := u32_and_nat x (gr i) hx hgl
            have ha : x &&& gr i < 4294967296 := Nat.and_lt_two_pow (n := 32) _ hgl
            have HP := podd_any (x &&& gr i) (W.drewN m) ha
            have HO : Hid ((cntT (x &&& gr i) 32 % 2 == 1) = oddG x i) := rfl
            generalize x &&& gr i = y at HA HP HO
            generalize gr i = g at HA hix
            rw [HO.out] at HP
            cases ho : oddG x i
            · rw [ho] at HP
              have HP := Lib.hid HP
              have H0 := Lib.hid ho
              clear ho
              go_wp2_with (go_at_call 101; refine HP.out.mono ?_; rintro e w' ⟨rfl, n, rfl⟩)
              go_roundw
              case rel =>
                refine ⟨i + 1, by omega, by go_num, fun j hj => ?_, by first | exact ⟨_, rfl⟩ | (simp only [World.drewN_drewN]; exact ⟨_, rfl⟩)⟩
                by_cases e : j = i
                · subst e; exact H0.out
                · exact HJ.out j (by omega)
              case measure => simp [intOf]; omega
            · rw [ho] at HP
              have HP := Lib.hid HP
              have HN : Hid (isC x = false) := by
                show _ = _
                rw [Bool.eq_false_iff]
                intro hc
                have := (isC_groups x).1 hc i h8
                rw [ho] at this
                cases this
              clear ho
              go_wp2_with (go_at_call 101; refine HP.out.mono ?_; rintro e w' ⟨rfl, n, rfl⟩)
              go_roundw
              case rel => 
                refine .inr ⟨k + 1, by omega, by go_num, rfl, H0.out, fun j hj => ?_, by first | exact ⟨_, rfl⟩ | (simp only [World.drewN_drewN]; exact ⟨_, rfl⟩)⟩
                by_cases e : j = k
                · subst e; rw [← EX.out]; exact HN.out
                · exact HK.out j (by omega)
              case measure => simp [intOf] <;> omega
          · obtain rfl : i = 8 := by omega
            have HY : Hid (isC x = true) := (isC_groups x).2 HJ.out
            have HD := Lib.hid (pcont_any x (W.drewN m) hx (HT.out.drewN m))
            go_wp2_with (go_at_call 102; refine HD.out.mono ?_; rintro e w' ⟨rfl, rfl⟩)
            try rw [Exit.noGoto_ret]
            go_ret2
            exact pdecR_mk (by rw [(dec_fixed H0.out h32 HK.out (by rw [← EX.out]; exact HY.out)).1, ← EX.out]) (dec_fixed H0.out h32 HK.out (by rw [← EX.out]; exact HY.out)).2
      · obtain rfl : k = 32 := by omega
        have HB := Lib.hid (dec_bad H0.out HK.out)
        go_wp2
        try rw [Exit.noGoto_ret]
        go_ret2
        exact pdecR_mk HB.out.1 HB.out.2
end Go.Proofs.YtiholfpcndjliaaDoor
