/-
  The walks of the chapter's example and of the laws CheckSums, CheckAppends, CheckRemoves, CheckRestores.
-/
import Derived.Test.YtjoibonbmalbdaaDoorRem
namespace Go.Proofs.YtjoibonbmalbdaaDoor
open Go.RowKit

def exL : List UInt8 := [49, 50, 51, 52, 53, 54, 55, 56, 57]
theorem ex_sum0 : sumL 0 exL = [49] := by decide +kernel
theorem ex_sum1 : sumL 1 exL = [110, 144] := by decide +kernel

set_option maxRecDepth 100000 in
set_option maxHeartbeats 800000 in
theorem awake_any (w : World) (hT : Tb w) : Calls Tryd.prog 15 #[] w fun e w' => e = .returned (.bool true) ∧ Below w.heap.size w w' := by
  have hs0 := SL.lit' w exL (by decide)
  have hT0 := hT.on (alloc_below w (.cells (exL.map bv).toArray 5))
  have H1 := psum_any 0 exL _ _ hs0 hT0
  unfold SumR at H1
  rw [ex_sum0] at H1
  have H1 : Hid (Calls Tryd.prog 10 #[.int .i64 0, .slice (some ⟨w.heap.size, 0, none⟩) 9 9] (w.alloc (.cells #[.int .u8 49, .int .u8 50, .int .u8 51, .int .u8 52, .int .u8 53, .int .u8 54, .int .u8 55, .int .u8 56, .int .u8 57] 5)) fun e w' => ∃ v', e = .returned (.tuple #[v', .int .i64 0]) ∧ SL w' w'.heap.size v' [49] ∧ Below (w.alloc (.cells (exL.map bv).toArray 5)).heap.size (w.alloc (.cells (exL.map bv).toArray 5)) w') := H1
  have HT0 := Lib.hid hT0
  have HS0 := Lib.hid hs0
  clear hT hT0 hs0
  go_enter Tryd.func15, Tryd.ntmps15
  go_wp2_with fail
  refine H1.out.mono ?_
  rintro e w1 ⟨v1, rfl, hv1, hb1⟩
  have hsl1 := HS0.out.on hb1
  have HT1 := Lib.hid (HT0.out.on hb1)
  have H2 := psum_any 1 exL _ _ hsl1 HT1.out
  unfold SumR at H2
  rw [ex_sum1] at H2
  have H2 := Lib.hid H2
  clear hsl1
  have hw1 : Below w.heap.size w w1 := (alloc_below _ _).trans (hb1.mono (by rw [alloc_size]; omega))
  clear hb1
  go_wp2_with fail
  refine H2.out.mono ?_
  rintro e w2 ⟨v2, rfl, hv2, hb2⟩
  have hv1' := hv1.on hb2
  obtain ⟨A1, c1, rfl, _, _, r1⟩ := hv1'
  obtain ⟨b1, o1, rfl, _, g1⟩ := r1 (by simp)
  obtain ⟨A2, c2, rfl, _, _, r2⟩ := hv2
  obtain ⟨b2, o2, rfl, _, g2⟩ := r2 (by simp)
  have k1 : w2.cell? ⟨b1, o1, none⟩ = some (.int .u8 49) := g1 0 (by simp)
  have k2 : w2.cell? ⟨b2, o2, none⟩ = some (.int .u8 110) := g2 0 (by simp)
  have k3 : w2.cell? ⟨b2, o2 + 1, none⟩ = some (.int .u8 144) := g2 1 (by simp)
  have hw2 : Below w.heap.size w w2 := hw1.trans (hb2.mono hw1.size)
  clear r1 r2 g1 g2 hv1 hw1
  go_wp2_with fail
  go_ret
  exact ⟨rfl, hw2⟩

theorem sl_big {l : List UInt8} {v : Value} {w : World} {B : Nat} (h : SL w B v l) : ∃ A c, v = .slice A l.length c := by
  obtain ⟨A, c, rfl, _⟩ := h
  exact ⟨A, c, rfl⟩

set_option maxRecDepth 100000 in
theorem law_sums (k : Int) (l : List UInt8) (v : Value) (w : World) (hl : SL w w.heap.size v l) (hT : Tb w) :
    Calls Tryd.prog 3 #[.int .i64 k, v] w fun e w' => e = .returned (.bool true) ∧ Below w.heap.size w w' := by
  by_cases h4 : 400 < l.length
  · obtain ⟨A, c, rfl, _, _, _⟩ := hl
    go_enter Tryd.func3, Tryd.ntmps3
    go_wp2_with fail
    go_ret
    exact ⟨rfl, Below.refl _ _⟩
  · have HL := Lib.hid hl
    have HT := Lib.hid hT
    have H1 := Lib.hid (psum_any k l v w hl hT)
    obtain ⟨A, c, rfl, _, _, _⟩ := hl
    clear hT
    go_enter Tryd.func3, Tryd.ntmps3
    go_wp2_with fail
    refine H1.out.mono ?_
    rintro e w1 ⟨v1, rfl, hv1, hb1⟩
    go_wp2_with fail
    refine (rsum_any k l _ _ (HL.out.on hb1)).mono ?_
    rintro e w2 ⟨v2, rfl, hv2, hb2⟩
    have hw2 : Below w.heap.size w w2 := hb1.trans (hb2.mono hb1.size)
    have hv1' := hv1.on hb2
    generalize sumE k = s
    go_wp2_with fail
    refine (psize_any k w2).mono ?_
    rintro e w3 ⟨rfl, rfl⟩
    go_wp2_with fail
    refine (rsize_any k w2).mono ?_
    rintro e w3 ⟨rfl, rfl⟩
    generalize sizeK k = t
    go_wp2_with fail
    refine (same_yes (sumL k l) _ _ w2 _ hv1' hv2).mono ?_
    rintro e w3 ⟨rfl, n, rfl⟩
    have hw3 := below_drewN hw2 n
    go_wp2_with fail
    refine (awake_any _ (HT.out.on hw3)).mono ?_
    rintro e w4 ⟨rfl, hb4⟩
    go_wp2_with fail
    go_ret
    exact ⟨rfl, hw3.trans (hb4.mono hw3.size)⟩

set_option maxRecDepth 100000 in
theorem law_apps (k : Int) (l : List UInt8) (v : Value) (w : World) (hl : SL w w.heap.size v l) (hT : Tb w) :
    Calls Tryd.prog 4 #[.int .i64 k, v] w fun e w' => e = .returned (.bool true) ∧ Below w.heap.size w w' := by
  by_cases h4 : 400 < l.length
  · obtain ⟨A, c, rfl, _, _, _⟩ := hl
    go_enter Tryd.func4, Tryd.ntmps4
    go_wp2_with fail
    go_ret
    exact ⟨rfl, Below.refl _ _⟩
  · have HL := Lib.hid hl
    have HT := Lib.hid hT
    have H1 := Lib.hid (papp_any k l v w hl hT (by omega))
    obtain ⟨A, c, rfl, _, _, _⟩ := hl
    clear hT
    go_enter Tryd.func4, Tryd.ntmps4
    go_wp2_with fail
    refine H1.out.mono ?_
    rintro e w1 ⟨v1, rfl, hv1, hb1⟩
    go_wp2_with fail
    refine (rapp_any k l _ _ (HL.out.on hb1) (by omega)).mono ?_
    rintro e w2 ⟨v2, rfl, hv2, hb2⟩
    have hw2 : Below w.heap.size w w2 := hb1.trans (hb2.mono hb1.size)
    have hv1' := hv1.on hb2
    generalize sumE k = s
    go_wp2_with fail
    refine (same_yes (appL k l) _ _ w2 _ hv1' hv2).mono ?_
    rintro e w3 ⟨rfl, n, rfl⟩
    have hw3 := below_drewN hw2 n
    go_wp2_with fail
    refine (awake_any _ (HT.out.on hw3)).mono ?_
    rintro e w4 ⟨rfl, hb4⟩
    go_wp2_with fail
    go_ret
    exact ⟨rfl, hw3.trans (hb4.mono hw3.size)⟩

set_option maxRecDepth 100000 in
theorem law_rems (k : Int) (l : List UInt8) (v : Value) (w : World) (hl : SL w w.heap.size v l) (hT : Tb w) :
    Calls Tryd.prog 5 #[.int .i64 k, v] w fun e w' => e = .returned (.bool true) ∧ Below w.heap.size w w' := by
  by_cases h4 : 400 < l.length
  · obtain ⟨A, c, rfl, _, _, _⟩ := hl
    go_enter Tryd.func5, Tryd.ntmps5
    go_wp2_with fail
    go_ret
    exact ⟨rfl, Below.refl _ _⟩
  · have HL := Lib.hid hl
    have HT := Lib.hid hT
    have H1 := Lib.hid (prem_any k l v w hl hT (by omega))
    obtain ⟨A, c, rfl, _, _, _⟩ := hl
    clear hT
    go_enter Tryd.func5, Tryd.ntmps5
    go_wp2_with fail
    refine H1.out.mono ?_
    rintro e w1 ⟨v1, rfl, hv1, hb1⟩
    go_wp2_with fail
    refine (rrem_any k l _ _ (HL.out.on hb1) (by omega)).mono ?_
    rintro e w2 ⟨v2, rfl, hv2, hb2⟩
    have hw2 : Below w.heap.size w w2 := hb1.trans (hb2.mono hb1.size)
    have hv1' := hv1.on hb2
    generalize remE k l = s
    go_wp2_with fail
    refine (same_yes (remV k l) _ _ w2 _ hv1' hv2).mono ?_
    rintro e w3 ⟨rfl, n, rfl⟩
    have hw3 := below_drewN hw2 n
    go_wp2_with fail
    refine (awake_any _ (HT.out.on hw3)).mono ?_
    rintro e w4 ⟨rfl, hb4⟩
    go_wp2_with fail
    go_ret
    exact ⟨rfl, hw3.trans (hb4.mono hw3.size)⟩

theorem app_rem (k : Int) (l : List UInt8) (hk : k = 0 ∨ k = 1) : appL k l = l ++ sumL k l ∧ remE k (appL k l) = 0 ∧ remV k (appL k l) = l ∧ sumE k = 0 ∧ (appL k l).length = l.length + sizeK k := by
  have hE : sumE k = 0 := by rcases hk with rfl | rfl <;> rfl
  have hA : appL k l = l ++ sumL k l := by rw [appL, if_pos hE]
  have hz : sizeK k ≠ 0 := by rcases hk with rfl | rfl <;> decide
  have hlen := sumL_len k l
  have hL : (appL k l).length = l.length + sizeK k := by rw [hA, List.length_append, hlen]
  have hOk : remOk k (appL k l) = true := by
    unfold remOk
    rw [hL, Nat.add_sub_cancel, hA, List.take_left, List.drop_left, beq_iff_eq]
  refine ⟨hA, ?_, ?_, hE, hL⟩
  · rw [remE, if_neg hz, if_neg (by omega), if_pos hOk]
  · rw [remV, if_neg hz, if_neg (by omega), if_pos hOk, hL, Nat.add_sub_cancel, hA, List.take_left]

set_option maxRecDepth 100000 in
theorem law_rest (crc : Bool) (l : List UInt8) (v : Value) (w : World) (hl : SL w w.heap.size v l) (hT : Tb w) :
    Calls Tryd.prog 6 #[.bool crc, v] w fun e w' => e = .returned (.bool true) ∧ Below w.heap.size w w' := by
  by_cases h4 : 400 < l.length
  · obtain ⟨A, c, rfl, _, _, _⟩ := hl
    go_enter Tryd.func6, Tryd.ntmps6
    go_wp2_with fail
    go_ret
    exact ⟨rfl, Below.refl _ _⟩
  · have HL := Lib.hid hl
    have HT := Lib.hid hT
    obtain ⟨A, c, rfl, _, _, _⟩ := hl
    obtain ⟨k, hk, hkc⟩ : ∃ k : Int, (k = 0 ∨ k = 1) ∧ k = if crc then 1 else 0 := by cases crc <;> simp
    obtain ⟨a1, a2, a3, a4, a5⟩ := app_rem k l hk
    have H1 := papp_any k l _ w HL.out hT (by omega)
    unfold AppR at H1
    rw [a4] at H1
    have H1 := Lib.hid H1
    have H2 : Hid (∀ (v : Value) (w : World), SL w w.heap.size v (appL k l) → Tb w → Calls Tryd.prog 18 #[.int .i64 k, v] w fun e w' => ∃ v', e = .returned (.tuple #[v', .int .i64 0]) ∧ SL w' w'.heap.size v' l ∧ Below w.heap.size w w') := by
      intro v w h1 h2
      have := prem_any k (appL k l) v w h1 h2 (by have := sizeK_le k; omega)
      unfold RemR at this
      rw [a2, a3] at this
      exact this
    have A5 : Hid ((((appL k l).length : Int) == (l.length : Int) + (sizeK k : Int)) = true) := by
      show _ = _
      rw [beq_iff_eq, a5]
      omega
    have hz := sizeK_le k
    have hal : (appL k l).length ≤ 1000 := by omega
    clear hT hk a1 a2 a3 a4 a5
    cases crc
    all_goals
      simp only [Bool.false_eq_true, if_false, if_true] at hkc
      subst hkc
      go_enter Tryd.func6, Tryd.ntmps6
      go_wp2_with fail
      refine H1.out.mono ?_
      rintro e w1 ⟨v1, rfl, hv1, hb1⟩
      have hw1 := hb1
      go_wp2_with fail
      refine (H2.out _ _ hv1 (HT.out.on hb1)).mono ?_
      rintro e w2 ⟨v2, rfl, hv2, hb2⟩
      have hw2 : Below w.heap.size w w2 := hb1.trans (hb2.mono hb1.size)
      have hv1' := hv1.on hb2
      obtain ⟨A1, c1, rfl, _, _, _⟩ := hv1'
      have hq := A5.out
      have hs := HL.out.on hw2
      clear hv1
      go_wp2_with fail
      refine (psize_any _ w2).mono ?_
      rintro e w3 ⟨rfl, rfl⟩
      go_wp2_with fail
      refine (same_yes l _ _ w2 _ hv2 hs).mono ?_
      rintro e w3 ⟨rfl, n, rfl⟩
      have hw3 := below_drewN hw2 n
      go_wp2_with fail
      refine (awake_any _ (HT.out.on hw3)).mono ?_
      rintro e w4 ⟨rfl, hb4⟩
      go_wp2_with fail
      go_ret
      exact ⟨rfl, hw3.trans (hb4.mono hw3.size)⟩
end Go.Proofs.YtjoibonbmalbdaaDoor
