/-
  The walk of the reference's Write.
-/
import Derived.Test.YtcojoohbhkhlnaaCep
namespace Go.Proofs.Ytcojoohbhkhlnaa
set_option linter.unusedVariables false
set_option linter.unusedSimpArgs false
open Go.RowKit

theorem bitI_any (a : Nat) (W : World) : Calls Try.prog 37 #[.int .i64 ((a : Int) % 32)] W fun e w' => e = .returned (.int .u32 ((2 ^ (a % 32) : Nat) : Int)) ∧ w' = W := by
  have e : ((a % 32 : Nat) : Int) = (a : Int) % 32 := by omega
  rw [← e]
  exact bit_any (a % 32) W (by omega)

theorem rwrite_no {w : World} {X : Nat → Prop} {s : St} {v1 v2 : Value} (h : RV w X s v1 v2) (a : Int) (v : Nat) (ha : -9223372036854775808 ≤ a ∧ a < 9223372036854775808) (hn : s.ws.length ≤ 65536) (hz : accE s a ≠ 0) :
    Calls Try.prog 26 #[.agg (rrow v1 v2 s), .int .i64 a, .int .u32 (v : Int)] w (RefR X (wrS s a v) (wrE s a) w) := by
  have HR : Hid (∀ o o', RV ((w.alloc o).alloc o') X s v1 v2) := fun o o' => h.below (below_new2 w o o')
  obtain ⟨g1, c1, rfl, h1, h2, _⟩ := h.ws
  obtain ⟨g2, c2, rfl, _⟩ := h.we
  unfold maxLen at h2
  clear h
  have HE : Hid (wrE s a = accE s a) := if_neg hz
  have HS : Hid (wrS s a v = s) := if_neg hz
  have HA : Hid (accE s a = if s.on = false then 7 else if 0 ≤ a ∧ a < (s.ws.length : Int) then 0 else 2) := rfl
  rw [HE.out, HS.out]
  by_cases hon : s.on = false
  · have HA : Hid (accE s a = 7) := by show _ = _; rw [HA.out, if_pos hon]
    rw [HA.out]
    have HO := Lib.hid hon
    unfold rrow
    rw [hon]
    clear hz hon
    go_enter Try.func26, Try.ntmps26
    go_wp2
    exact bodyPost_ret (results_cell2 rfl _ _ (w.heap.size + 1) 29 _ (0, 0) _ rfl (heap_new2 ..) Try.underlying29 rfl (by kernel_rfl)) rfl ⟨_, _, by rw [rrow, HO.out]; rfl, HR.out _ _, below_new2 ..⟩
  · have hon' : s.on = true := by simpa using hon
    have hin : ¬ (0 ≤ a ∧ a < (s.ws.length : Int)) := fun hi => hz (by rw [HA.out, if_neg hon, if_pos hi])
    have HA : Hid (accE s a = 2) := by show _ = _; rw [HA.out, if_neg hon, if_neg hin]
    rw [HA.out]
    have HO := Lib.hid hon'
    unfold rrow
    rw [hon']
    clear hz hon hon'
    by_cases q1 : a < 0
    · clear hin
      go_enter Try.func26, Try.ntmps26
      go_wp2
      exact bodyPost_ret (results_cell2 rfl _ _ (w.heap.size + 1) 29 _ (0, 0) _ rfl (heap_new2 ..) Try.underlying29 rfl (by kernel_rfl)) rfl ⟨_, _, by rw [rrow, HO.out]; rfl, HR.out _ _, below_new2 ..⟩
    · have q2 : (s.ws.length : Int) ≤ a := by omega
      clear hin
      go_enter Try.func26, Try.ntmps26
      go_wp2
      exact bodyPost_ret (results_cell2 rfl _ _ (w.heap.size + 1) 29 _ (0, 0) _ rfl (heap_new2 ..) Try.underlying29 rfl (by kernel_rfl)) rfl ⟨_, _, by rw [rrow, HO.out]; rfl, HR.out _ _, below_new2 ..⟩

theorem rwrite_cut {w : World} {X : Nat → Prop} {s : St} {v1 v2 : Value} (h : RV w X s v1 v2) (i v : Nat) (hi : i < s.ws.length) (hn : s.ws.length ≤ 65536) (hon : s.on = true) (hc : s.cut = some 0) (hcu : s.cu < 1000000) :
    Calls Try.prog 26 #[.agg (rrow v1 v2 s), .int .i64 (i : Int), .int .u32 (v : Int)] w (RefR X { s with on := false, cu := s.cu + 1 } 7 w) := by
  have HR : Hid (∀ o o', RV ((w.alloc o).alloc o') X { s with on := false, cu := s.cu + 1 } v1 v2) := fun o o' => ⟨h.ws.below (below_new2 w o o'), h.we.below (below_new2 w o o')⟩
  obtain ⟨g1, c1, rfl, h1, h2, _⟩ := h.ws
  obtain ⟨g2, c2, rfl, _⟩ := h.we
  unfold maxLen at h2
  clear h
  have hki : (i : Int) < (s.ws.length : Int) := by omega
  have hk0 : ¬ (i : Int) < 0 := by omega
  have HI : Hid (cutI s = 0) := by show _ = _; rw [cutI, hc]; rfl
  have HI2 : Hid (cutI { s with on := false, cu := s.cu + 1 } = 0) := HI.out
  unfold rrow
  rw [HI.out, hon]
  clear hon hc
  go_enter Try.func26, Try.ntmps26
  go_wp2
  exact bodyPost_ret (results_cell2 rfl _ _ (w.heap.size + 1) 29 _ (0, 0) _ rfl (heap_new2 ..) Try.underlying29 rfl (by kernel_rfl)) rfl ⟨_, _, by rw [rrow, HI2.out]; rfl, HR.out _ _, below_new2 ..⟩

set_option maxRecDepth 100000 in
set_option maxHeartbeats 3200000 in
theorem rwrite_none {w : World} {X : Nat → Prop} {s : St} {v1 v2 : Value} (h : RV w X s v1 v2) (hX : ∀ k, X k → k < w.heap.size) (i v : Nat) (hi : i < s.ws.length) (hwl : s.wear.length = s.ws.length) (hn : s.ws.length ≤ 65536) (hon : s.on = true) (hc : s.cut = none) (hv : v < 4294967296) (hwr : s.wr < 1000000) (hwe : s.wear.getD i 0 < 1000000) (hen : s.en < 9223372036854775808) :
    Calls Try.prog 26 #[.agg (rrow v1 v2 s), .int .i64 (i : Int), .int .u32 (v : Int)] w (RefR X (putS { s with cut := none } i v) 0 w) := by
  have HW0 := Lib.hid h.ws
  have HI0 := Lib.hid h.we
  obtain ⟨g1, c1, rfl, h1, h2, _⟩ := h.ws
  obtain ⟨g2, c2, rfl, _⟩ := h.we
  unfold maxLen at h2
  clear h
  have hki : (i : Int) < (s.ws.length : Int) := by omega
  have hk0 : ¬ (i : Int) < 0 := by omega
  have hk1 : (0 : Int) ≤ (i : Int) := by omega
  have HI : Hid (cutI s = -1) := by show _ = _; simp [cutI, hc]
  have HB1 := Lib.hid (below_new2 w (.cells #[.slice (some ⟨g1, 0, none⟩) s.ws.length c1, .slice (some ⟨g2, 0, none⟩) s.wear.length c2, .int .i64 (s.en : Int), .int .i64 ((s.wr : Int) + 1), .int .i64 (s.cu : Int), .bool true, .int .i64 (-1)] 29) (.cells #[.slice none 0 0, .slice none 0 0, .int .i64 0, .int .i64 0, .int .i64 0, .bool false, .int .i64 0] 29))
  have RA := Lib.hid (heap_new1 w #[.slice (some ⟨g1, 0, none⟩) s.ws.length c1, .slice (some ⟨g2, 0, none⟩) s.wear.length c2, .int .i64 (s.en : Int), .int .i64 ((s.wr : Int) + 1), .int .i64 (s.cu : Int), .bool true, .int .i64 (-1)] 29 (.cells #[.slice none 0 0, .slice none 0 0, .int .i64 0, .int .i64 0, .int .i64 0, .bool false, .int .i64 0] 29))
  have RB := Lib.hid (heap_new2 w (.cells #[.slice (some ⟨g1, 0, none⟩) s.ws.length c1, .slice (some ⟨g2, 0, none⟩) s.wear.length c2, .int .i64 (s.en : Int), .int .i64 ((s.wr : Int) + 1), .int .i64 (s.cu : Int), .bool true, .int .i64 (-1)] 29) #[.slice none 0 0, .slice none 0 0, .int .i64 0, .int .i64 0, .int .i64 0, .bool false, .int .i64 0] 29)
  have hiw : i < s.wear.length := by omega
  have hnw : s.wear.length ≤ 65536 := by omega
  unfold rrow
  rw [HI.out, hon]
  clear hc hon hwl
  go_enter Try.func26, Try.ntmps26
  go_wp2_with fail
  generalize (w.alloc (.cells #[.slice (some ⟨g1, 0, none⟩) s.ws.length c1, .slice (some ⟨g2, 0, none⟩) s.wear.length c2, .int .i64 (s.en : Int), .int .i64 ((s.wr : Int) + 1), .int .i64 (s.cu : Int), .bool true, .int .i64 (-1)] 29)).alloc (.cells #[.slice none 0 0, .slice none 0 0, .int .i64 0, .int .i64 0, .int .i64 0, .bool false, .int .i64 0] 29) = w1 at *
  have HLT : Hid (w.heap.size + 2 ≤ w1.heap.size) := (Array.getElem?_eq_some_iff.1 RB.out).1
  refine (more1_any (X := X2 X w.heap.size) s.wear _ w1 i (HI0.out.lift HB1.out) hiw hnw hwe (fun k hk => by
      have h1 := HLT.out
      rcases hk with hk | hk | hk
      · have := hX k hk; omega
      · omega
      · omega)).mono ?_
  rintro e w2 ⟨g3, c3, rfl, how, hb2⟩
  have HRA2 := Lib.hid ((hb2.block w.heap.size (by have := HLT.out; omega)).trans RA.out)
  have HRB2 := Lib.hid ((hb2.block (w.heap.size + 1) (by have := HLT.out; omega)).trans RB.out)
  have HWS2 := Lib.hid ((HW0.out.lift HB1.out).below hb2)
  have HB2 := Lib.hid (HB1.out.trans (hb2.mono HB1.out.size))
  have HLT2 : Hid (w.heap.size + 2 ≤ w2.heap.size) := by have h1 := HLT.out; have h2 := hb2.size; show _ ≤ _; omega
  have HWE2 := Lib.hid how
  have hgA : g3 ≠ w.heap.size := by
    obtain ⟨g', c', e1, _, _, hx, _⟩ := how
    simp only [Value.slice.injEq, Option.some.injEq, Addr.mk.injEq, and_true] at e1
    obtain ⟨rfl, _⟩ := e1
    exact fun e => hx (e ▸ X2.a)
  have hgA' := Ne.symm hgA
  have hwc : w2.cell? ⟨g3, i, none⟩ = some (.int .i64 ((s.wear.getD i 0 + 1 : Nat) : Int)) := by
    obtain ⟨g', c', e1, _, _, hx, _, hcc⟩ := how
    simp only [Value.slice.injEq, Option.some.injEq, Addr.mk.injEq, and_true] at e1
    obtain ⟨rfl, _⟩ := e1
    have := hcc i (by rw [List.length_set]; omega)
    rw [List.getD_eq_getElem?_getD, List.getElem?_set_self (by omega)] at this
    exact this
  have x0 := cell_of_row _ _ 0 _ _ _ HRA2.out
  have x1 := cell_of_row _ _ 1 _ _ _ HRA2.out
  have x2 := cell_of_row _ _ 2 _ _ _ HRA2.out
  have x3 := cell_of_row _ _ 3 _ _ _ HRA2.out
  have x4 := cell_of_row _ _ 4 _ _ _ HRA2.out
  have x5 := cell_of_row _ _ 5 _ _ _ HRA2.out
  have x6 := cell_of_row _ _ 6 _ _ _ HRA2.out
  have xz1 := frozen_of_row _ _ 1 _ _ HRA2.out
  have hki2 : (i : Int) < (s.wear.length : Int) := by omega
  obtain ⟨r, hr⟩ : ∃ r, s.wear.getD i 0 = r := ⟨_, rfl⟩
  rw [hr] at hwc hwe HWE2
  have HX := Lib.hid hr
  clear how hb2 hr
  by_cases h5 : s.en < r + 1
  · have HPV : Hid (putV { s with cut := none } i v = (v ^^^ 2 ^ (i % 32))) := if_pos (by show s.en < s.wear.getD i 0 + 1; rw [HX.out]; exact h5)
    have HP : Hid (∀ m, Calls Try.prog 38 #[.slice (some ⟨g1, 0, none⟩) s.ws.length c1, .int .i64 (i : Int), .int .u32 ((v ^^^ 2 ^ (i % 32)) : Nat)] ((w2.setCell ⟨w.heap.size, 1, none⟩ (.slice (some ⟨g3, 0, none⟩) s.wear.length c3)).drewN m) fun e w' => ∃ g c, e = .returned (.slice (some ⟨g, 0, none⟩) s.ws.length c) ∧ WX w' (X2 X w.heap.size) (.slice (some ⟨g, 0, none⟩) s.ws.length c) (s.ws.set i (v ^^^ 2 ^ (i % 32))) ∧ Below ((w2.setCell ⟨w.heap.size, 1, none⟩ (.slice (some ⟨g3, 0, none⟩) s.wear.length c3)).drewN m).heap.size ((w2.setCell ⟨w.heap.size, 1, none⟩ (.slice (some ⟨g3, 0, none⟩) s.wear.length c3)).drewN m) w') := fun m =>
      put1_any s.ws _ _ i _ ((HWS2.out.set ⟨w.heap.size, 1, none⟩ _ X2.a).below (below_drewN (Below.refl _ _) m)) hi hn (fun k hk => by
        have h1 := HLT2.out
        have h2 : ((w2.setCell ⟨w.heap.size, 1, none⟩ (.slice (some ⟨g3, 0, none⟩) s.wear.length c3)).drewN m).heap.size = w2.heap.size := by simp
        rw [h2]
        rcases hk with hk | hk | hk
        · have := hX k hk; omega
        · omega
        · omega)
    have HXY := u32_xor_nat v (2 ^ (i % 32)) hv (u32_shl _ (by omega))
    generalize v ^^^ 2 ^ (i % 32) = y at *
    have HBIT := Lib.hid (fun W => bitI_any i W)
    generalize 2 ^ (i % 32) = p at *
    go_wp2_with fail
    go_quiet (fail)
    rename_i nq
    go_wp2_with (first
      | (go_at_call 37; refine (HBIT.out _).mono ?_; rintro e w9 ⟨rfl, e⟩; have e := e.symm; subst e)
      | (
        go_at_call 38
        refine (HP.out _).mono ?_
        rintro e w3 ⟨g4, c4, rfl, how, hb3⟩
        have hszz : ((w2.setCell ⟨w.heap.size, 1, none⟩ (.slice (some ⟨g3, 0, none⟩) s.wear.length c3)).drewN nq).heap.size = w2.heap.size := by simp
        have r3 : w3.heap[w.heap.size]? = some (.cells #[.slice (some ⟨g1, 0, none⟩) s.ws.length c1, .slice (some ⟨g3, 0, none⟩) s.wear.length c3, .int .i64 (s.en : Int), .int .i64 ((s.wr : Int) + 1), .int .i64 (s.cu : Int), .bool true, .int .i64 (-1)] 29 (0, 0)) := (hb3.block w.heap.size (by rw [hszz]; have := HLT2.out; omega)).trans (heap_set_row (i := 1) (u := .slice (some ⟨g3, 0, none⟩) s.wear.length c3) HRA2.out)
        have rb : w3.heap[w.heap.size + 1]? = some (.cells #[.slice none 0 0, .slice none 0 0, .int .i64 0, .int .i64 0, .int .i64 0, .bool false, .int .i64 0] 29 (0, 0)) := (hb3.block (w.heap.size + 1) (by rw [hszz]; have := HLT2.out; omega)).trans ((set_blk (by show w.heap.size + 1 ≠ w.heap.size; omega)).trans HRB2.out)
        have HWS3 := Lib.hid how
        have HWE3 := Lib.hid (((HWE2.out.set ⟨w.heap.size, 1, none⟩ (.slice (some ⟨g3, 0, none⟩) s.wear.length c3) X2.a).below (below_drewN (Below.refl _ _) nq)).below hb3)
        have HB3 := Lib.hid ((below_drewN (HB2.out.setCell (p := ⟨w.heap.size, 1, none⟩) (Nat.le_refl _) (.slice (some ⟨g3, 0, none⟩) s.wear.length c3)) nq).trans (hb3.mono (by rw [hszz]; have := HLT2.out; omega)))
        have HRB := Lib.hid rb
        have d0 := cell_of_row _ _ 0 _ _ _ r3
        have d1 := cell_of_row _ _ 1 _ _ _ r3
        have d2 := cell_of_row _ _ 2 _ _ _ r3
        have d3 := cell_of_row _ _ 3 _ _ _ r3
        have d4 := cell_of_row _ _ 4 _ _ _ r3
        have d5 := cell_of_row _ _ 5 _ _ _ r3
        have d6 := cell_of_row _ _ 6 _ _ _ r3
        have z0 := frozen_of_row _ _ 0 _ _ r3
        have e0 := cell_of_row _ _ 0 _ _ _ rb
        have y0 := frozen_of_row _ _ 0 _ _ rb
        have e1 := cell_of_row _ _ 1 _ _ _ rb
        have y1 := frozen_of_row _ _ 1 _ _ rb
        have e2 := cell_of_row _ _ 2 _ _ _ rb
        have y2 := frozen_of_row _ _ 2 _ _ rb
        have e3 := cell_of_row _ _ 3 _ _ _ rb
        have y3 := frozen_of_row _ _ 3 _ _ rb
        have e4 := cell_of_row _ _ 4 _ _ _ rb
        have y4 := frozen_of_row _ _ 4 _ _ rb
        have e5 := cell_of_row _ _ 5 _ _ _ rb
        have y5 := frozen_of_row _ _ 5 _ _ rb
        have e6 := cell_of_row _ _ 6 _ _ _ rb
        have y6 := frozen_of_row _ _ 6 _ _ rb
        clear how hb3 r3 rb x0 x1 x2 x3 x4 x5 x6 xz1 hwc))
    exact bodyPost_ret (results_cell2 rfl _ _ (w.heap.size + 1) 29 _ (0, 0) _ rfl (row7_set _ _ _ _ _ _ _ _ _ _ _ _ _ _ _ _ _ (by rw [set_blk (by simp)]; exact HRB.out)) Try.underlying29 rfl (by kernel_rfl)) rfl
      ⟨.slice (some ⟨g4, 0, none⟩) s.ws.length c4, .slice (some ⟨g3, 0, none⟩) s.wear.length c3, by simp [rrow, putS, cutI], ⟨by change WX _ _ _ (s.ws.set i (putV { s with cut := none } i v)); rw [HPV.out]; exact ((HWS3.out.set ⟨w.heap.size, 0, none⟩ _ X2.a).set7 X2.b ..).drop, by show IX _ _ _ (s.wear.set i (s.wear.getD i 0 + 1)); rw [HX.out]; exact ((HWE3.out.set ⟨w.heap.size, 0, none⟩ _ X2.a).set7 X2.b ..).drop⟩, below_set7 (HB3.out.setCell (p := ⟨w.heap.size, 0, none⟩) (Nat.le_refl _) _) (by omega) ..⟩
  · have HPV : Hid (putV { s with cut := none } i v = v) := if_neg (by show ¬ s.en < s.wear.getD i 0 + 1; rw [HX.out]; exact h5)
    have HP : Hid (∀ m, Calls Try.prog 38 #[.slice (some ⟨g1, 0, none⟩) s.ws.length c1, .int .i64 (i : Int), .int .u32 (v : Nat)] ((w2.setCell ⟨w.heap.size, 1, none⟩ (.slice (some ⟨g3, 0, none⟩) s.wear.length c3)).drewN m) fun e w' => ∃ g c, e = .returned (.slice (some ⟨g, 0, none⟩) s.ws.length c) ∧ WX w' (X2 X w.heap.size) (.slice (some ⟨g, 0, none⟩) s.ws.length c) (s.ws.set i v) ∧ Below ((w2.setCell ⟨w.heap.size, 1, none⟩ (.slice (some ⟨g3, 0, none⟩) s.wear.length c3)).drewN m).heap.size ((w2.setCell ⟨w.heap.size, 1, none⟩ (.slice (some ⟨g3, 0, none⟩) s.wear.length c3)).drewN m) w') := fun m =>
      put1_any s.ws _ _ i _ ((HWS2.out.set ⟨w.heap.size, 1, none⟩ _ X2.a).below (below_drewN (Below.refl _ _) m)) hi hn (fun k hk => by
        have h1 := HLT2.out
        have h2 : ((w2.setCell ⟨w.heap.size, 1, none⟩ (.slice (some ⟨g3, 0, none⟩) s.wear.length c3)).drewN m).heap.size = w2.heap.size := by simp
        rw [h2]
        rcases hk with hk | hk | hk
        · have := hX k hk; omega
        · omega
        · omega)
    go_wp2_with fail
    go_quiet (fail)
    rename_i nq
    go_wp2_with (first
      | fail
      | (
        go_at_call 38
        refine (HP.out _).mono ?_
        rintro e w3 ⟨g4, c4, rfl, how, hb3⟩
        have hszz : ((w2.setCell ⟨w.heap.size, 1, none⟩ (.slice (some ⟨g3, 0, none⟩) s.wear.length c3)).drewN nq).heap.size = w2.heap.size := by simp
        have r3 : w3.heap[w.heap.size]? = some (.cells #[.slice (some ⟨g1, 0, none⟩) s.ws.length c1, .slice (some ⟨g3, 0, none⟩) s.wear.length c3, .int .i64 (s.en : Int), .int .i64 ((s.wr : Int) + 1), .int .i64 (s.cu : Int), .bool true, .int .i64 (-1)] 29 (0, 0)) := (hb3.block w.heap.size (by rw [hszz]; have := HLT2.out; omega)).trans (heap_set_row (i := 1) (u := .slice (some ⟨g3, 0, none⟩) s.wear.length c3) HRA2.out)
        have rb : w3.heap[w.heap.size + 1]? = some (.cells #[.slice none 0 0, .slice none 0 0, .int .i64 0, .int .i64 0, .int .i64 0, .bool false, .int .i64 0] 29 (0, 0)) := (hb3.block (w.heap.size + 1) (by rw [hszz]; have := HLT2.out; omega)).trans ((set_blk (by show w.heap.size + 1 ≠ w.heap.size; omega)).trans HRB2.out)
        have HWS3 := Lib.hid how
        have HWE3 := Lib.hid (((HWE2.out.set ⟨w.heap.size, 1, none⟩ (.slice (some ⟨g3, 0, none⟩) s.wear.length c3) X2.a).below (below_drewN (Below.refl _ _) nq)).below hb3)
        have HB3 := Lib.hid ((below_drewN (HB2.out.setCell (p := ⟨w.heap.size, 1, none⟩) (Nat.le_refl _) (.slice (some ⟨g3, 0, none⟩) s.wear.length c3)) nq).trans (hb3.mono (by rw [hszz]; have := HLT2.out; omega)))
        have HRB := Lib.hid rb
        have d0 := cell_of_row _ _ 0 _ _ _ r3
        have d1 := cell_of_row _ _ 1 _ _ _ r3
        have d2 := cell_of_row _ _ 2 _ _ _ r3
        have d3 := cell_of_row _ _ 3 _ _ _ r3
        have d4 := cell_of_row _ _ 4 _ _ _ r3
        have d5 := cell_of_row _ _ 5 _ _ _ r3
        have d6 := cell_of_row _ _ 6 _ _ _ r3
        have z0 := frozen_of_row _ _ 0 _ _ r3
        have e0 := cell_of_row _ _ 0 _ _ _ rb
        have y0 := frozen_of_row _ _ 0 _ _ rb
        have e1 := cell_of_row _ _ 1 _ _ _ rb
        have y1 := frozen_of_row _ _ 1 _ _ rb
        have e2 := cell_of_row _ _ 2 _ _ _ rb
        have y2 := frozen_of_row _ _ 2 _ _ rb
        have e3 := cell_of_row _ _ 3 _ _ _ rb
        have y3 := frozen_of_row _ _ 3 _ _ rb
        have e4 := cell_of_row _ _ 4 _ _ _ rb
        have y4 := frozen_of_row _ _ 4 _ _ rb
        have e5 := cell_of_row _ _ 5 _ _ _ rb
        have y5 := frozen_of_row _ _ 5 _ _ rb
        have e6 := cell_of_row _ _ 6 _ _ _ rb
        have y6 := frozen_of_row _ _ 6 _ _ rb
        clear how hb3 r3 rb x0 x1 x2 x3 x4 x5 x6 xz1 hwc))
    exact bodyPost_ret (results_cell2 rfl _ _ (w.heap.size + 1) 29 _ (0, 0) _ rfl (row7_set _ _ _ _ _ _ _ _ _ _ _ _ _ _ _ _ _ (by rw [set_blk (by simp)]; exact HRB.out)) Try.underlying29 rfl (by kernel_rfl)) rfl
      ⟨.slice (some ⟨g4, 0, none⟩) s.ws.length c4, .slice (some ⟨g3, 0, none⟩) s.wear.length c3, by simp [rrow, putS, cutI], ⟨by change WX _ _ _ (s.ws.set i (putV { s with cut := none } i v)); rw [HPV.out]; exact ((HWS3.out.set ⟨w.heap.size, 0, none⟩ _ X2.a).set7 X2.b ..).drop, by show IX _ _ _ (s.wear.set i (s.wear.getD i 0 + 1)); rw [HX.out]; exact ((HWE3.out.set ⟨w.heap.size, 0, none⟩ _ X2.a).set7 X2.b ..).drop⟩, below_set7 (HB3.out.setCell (p := ⟨w.heap.size, 0, none⟩) (Nat.le_refl _) _) (by omega) ..⟩

set_option maxRecDepth 100000 in
set_option maxHeartbeats 3200000 in
theorem rwrite_some {w : World} {X : Nat → Prop} {s : St} {v1 v2 : Value} (h : RV w X s v1 v2) (hX : ∀ k, X k → k < w.heap.size) (i v : Nat) (hi : i < s.ws.length) (hwl : s.wear.length = s.ws.length) (hn : s.ws.length ≤ 65536) (hon : s.on = true) {k : Nat} (hc : s.cut = some (k + 1)) (hk9 : k + 1 < 9223372036854775808) (hv : v < 4294967296) (hwr : s.wr < 1000000) (hwe : s.wear.getD i 0 < 1000000) (hen : s.en < 9223372036854775808) :
    Calls Try.prog 26 #[.agg (rrow v1 v2 s), .int .i64 (i : Int), .int .u32 (v : Int)] w (RefR X (putS { s with cut := some k } i v) 0 w) := by
  have HW0 := Lib.hid h.ws
  have HI0 := Lib.hid h.we
  obtain ⟨g1, c1, rfl, h1, h2, _⟩ := h.ws
  obtain ⟨g2, c2, rfl, _⟩ := h.we
  unfold maxLen at h2
  clear h
  have hki : (i : Int) < (s.ws.length : Int) := by omega
  have hk0 : ¬ (i : Int) < 0 := by omega
  have hk1 : (0 : Int) ≤ (i : Int) := by omega
  have HI : Hid (cutI s = ((k : Int) + 1)) := by show _ = _; simp [cutI, hc]
  have HB1 := Lib.hid (below_new2 w (.cells #[.slice (some ⟨g1, 0, none⟩) s.ws.length c1, .slice (some ⟨g2, 0, none⟩) s.wear.length c2, .int .i64 (s.en : Int), .int .i64 ((s.wr : Int) + 1), .int .i64 (s.cu : Int), .bool true, .int .i64 (k : Int)] 29) (.cells #[.slice none 0 0, .slice none 0 0, .int .i64 0, .int .i64 0, .int .i64 0, .bool false, .int .i64 0] 29))
  have RA := Lib.hid (heap_new1 w #[.slice (some ⟨g1, 0, none⟩) s.ws.length c1, .slice (some ⟨g2, 0, none⟩) s.wear.length c2, .int .i64 (s.en : Int), .int .i64 ((s.wr : Int) + 1), .int .i64 (s.cu : Int), .bool true, .int .i64 (k : Int)] 29 (.cells #[.slice none 0 0, .slice none 0 0, .int .i64 0, .int .i64 0, .int .i64 0, .bool false, .int .i64 0] 29))
  have RB := Lib.hid (heap_new2 w (.cells #[.slice (some ⟨g1, 0, none⟩) s.ws.length c1, .slice (some ⟨g2, 0, none⟩) s.wear.length c2, .int .i64 (s.en : Int), .int .i64 ((s.wr : Int) + 1), .int .i64 (s.cu : Int), .bool true, .int .i64 (k : Int)] 29) #[.slice none 0 0, .slice none 0 0, .int .i64 0, .int .i64 0, .int .i64 0, .bool false, .int .i64 0] 29)
  have hiw : i < s.wear.length := by omega
  have hnw : s.wear.length ≤ 65536 := by omega
  unfold rrow
  rw [HI.out, hon]
  clear hc hon hwl
  go_enter Try.func26, Try.ntmps26
  go_wp2_with fail
  generalize (w.alloc (.cells #[.slice (some ⟨g1, 0, none⟩) s.ws.length c1, .slice (some ⟨g2, 0, none⟩) s.wear.length c2, .int .i64 (s.en : Int), .int .i64 ((s.wr : Int) + 1), .int .i64 (s.cu : Int), .bool true, .int .i64 (k : Int)] 29)).alloc (.cells #[.slice none 0 0, .slice none 0 0, .int .i64 0, .int .i64 0, .int .i64 0, .bool false, .int .i64 0] 29) = w1 at *
  have HLT : Hid (w.heap.size + 2 ≤ w1.heap.size) := (Array.getElem?_eq_some_iff.1 RB.out).1
  refine (more1_any (X := X2 X w.heap.size) s.wear _ w1 i (HI0.out.lift HB1.out) hiw hnw hwe (fun k hk => by
      have h1 := HLT.out
      rcases hk with hk | hk | hk
      · have := hX k hk; omega
      · omega
      · omega)).mono ?_
  rintro e w2 ⟨g3, c3, rfl, how, hb2⟩
  have HRA2 := Lib.hid ((hb2.block w.heap.size (by have := HLT.out; omega)).trans RA.out)
  have HRB2 := Lib.hid ((hb2.block (w.heap.size + 1) (by have := HLT.out; omega)).trans RB.out)
  have HWS2 := Lib.hid ((HW0.out.lift HB1.out).below hb2)
  have HB2 := Lib.hid (HB1.out.trans (hb2.mono HB1.out.size))
  have HLT2 : Hid (w.heap.size + 2 ≤ w2.heap.size) := by have h1 := HLT.out; have h2 := hb2.size; show _ ≤ _; omega
  have HWE2 := Lib.hid how
  have hgA : g3 ≠ w.heap.size := by
    obtain ⟨g', c', e1, _, _, hx, _⟩ := how
    simp only [Value.slice.injEq, Option.some.injEq, Addr.mk.injEq, and_true] at e1
    obtain ⟨rfl, _⟩ := e1
    exact fun e => hx (e ▸ X2.a)
  have hgA' := Ne.symm hgA
  have hwc : w2.cell? ⟨g3, i, none⟩ = some (.int .i64 ((s.wear.getD i 0 + 1 : Nat) : Int)) := by
    obtain ⟨g', c', e1, _, _, hx, _, hcc⟩ := how
    simp only [Value.slice.injEq, Option.some.injEq, Addr.mk.injEq, and_true] at e1
    obtain ⟨rfl, _⟩ := e1
    have := hcc i (by rw [List.length_set]; omega)
    rw [List.getD_eq_getElem?_getD, List.getElem?_set_self (by omega)] at this
    exact this
  have x0 := cell_of_row _ _ 0 _ _ _ HRA2.out
  have x1 := cell_of_row _ _ 1 _ _ _ HRA2.out
  have x2 := cell_of_row _ _ 2 _ _ _ HRA2.out
  have x3 := cell_of_row _ _ 3 _ _ _ HRA2.out
  have x4 := cell_of_row _ _ 4 _ _ _ HRA2.out
  have x5 := cell_of_row _ _ 5 _ _ _ HRA2.out
  have x6 := cell_of_row _ _ 6 _ _ _ HRA2.out
  have xz1 := frozen_of_row _ _ 1 _ _ HRA2.out
  have hki2 : (i : Int) < (s.wear.length : Int) := by omega
  obtain ⟨r, hr⟩ : ∃ r, s.wear.getD i 0 = r := ⟨_, rfl⟩
  rw [hr] at hwc hwe HWE2
  have HX := Lib.hid hr
  clear how hb2 hr
  by_cases h5 : s.en < r + 1
  · have HPV : Hid (putV { s with cut := some k } i v = (v ^^^ 2 ^ (i % 32))) := if_pos (by show s.en < s.wear.getD i 0 + 1; rw [HX.out]; exact h5)
    have HP : Hid (∀ m, Calls Try.prog 38 #[.slice (some ⟨g1, 0, none⟩) s.ws.length c1, .int .i64 (i : Int), .int .u32 ((v ^^^ 2 ^ (i % 32)) : Nat)] ((w2.setCell ⟨w.heap.size, 1, none⟩ (.slice (some ⟨g3, 0, none⟩) s.wear.length c3)).drewN m) fun e w' => ∃ g c, e = .returned (.slice (some ⟨g, 0, none⟩) s.ws.length c) ∧ WX w' (X2 X w.heap.size) (.slice (some ⟨g, 0, none⟩) s.ws.length c) (s.ws.set i (v ^^^ 2 ^ (i % 32))) ∧ Below ((w2.setCell ⟨w.heap.size, 1, none⟩ (.slice (some ⟨g3, 0, none⟩) s.wear.length c3)).drewN m).heap.size ((w2.setCell ⟨w.heap.size, 1, none⟩ (.slice (some ⟨g3, 0, none⟩) s.wear.length c3)).drewN m) w') := fun m =>
      put1_any s.ws _ _ i _ ((HWS2.out.set ⟨w.heap.size, 1, none⟩ _ X2.a).below (below_drewN (Below.refl _ _) m)) hi hn (fun k hk => by
        have h1 := HLT2.out
        have h2 : ((w2.setCell ⟨w.heap.size, 1, none⟩ (.slice (some ⟨g3, 0, none⟩) s.wear.length c3)).drewN m).heap.size = w2.heap.size := by simp
        rw [h2]
        rcases hk with hk | hk | hk
        · have := hX k hk; omega
        · omega
        · omega)
    have HXY := u32_xor_nat v (2 ^ (i % 32)) hv (u32_shl _ (by omega))
    generalize v ^^^ 2 ^ (i % 32) = y at *
    have HBIT := Lib.hid (fun W => bitI_any i W)
    generalize 2 ^ (i % 32) = p at *
    go_wp2_with fail
    go_quiet (fail)
    rename_i nq
    go_wp2_with (first
      | (go_at_call 37; refine (HBIT.out _).mono ?_; rintro e w9 ⟨rfl, e⟩; have e := e.symm; subst e)
      | (
        go_at_call 38
        refine (HP.out _).mono ?_
        rintro e w3 ⟨g4, c4, rfl, how, hb3⟩
        have hszz : ((w2.setCell ⟨w.heap.size, 1, none⟩ (.slice (some ⟨g3, 0, none⟩) s.wear.length c3)).drewN nq).heap.size = w2.heap.size := by simp
        have r3 : w3.heap[w.heap.size]? = some (.cells #[.slice (some ⟨g1, 0, none⟩) s.ws.length c1, .slice (some ⟨g3, 0, none⟩) s.wear.length c3, .int .i64 (s.en : Int), .int .i64 ((s.wr : Int) + 1), .int .i64 (s.cu : Int), .bool true, .int .i64 (k : Int)] 29 (0, 0)) := (hb3.block w.heap.size (by rw [hszz]; have := HLT2.out; omega)).trans (heap_set_row (i := 1) (u := .slice (some ⟨g3, 0, none⟩) s.wear.length c3) HRA2.out)
        have rb : w3.heap[w.heap.size + 1]? = some (.cells #[.slice none 0 0, .slice none 0 0, .int .i64 0, .int .i64 0, .int .i64 0, .bool false, .int .i64 0] 29 (0, 0)) := (hb3.block (w.heap.size + 1) (by rw [hszz]; have := HLT2.out; omega)).trans ((set_blk (by show w.heap.size + 1 ≠ w.heap.size; omega)).trans HRB2.out)
        have HWS3 := Lib.hid how
        have HWE3 := Lib.hid (((HWE2.out.set ⟨w.heap.size, 1, none⟩ (.slice (some ⟨g3, 0, none⟩) s.wear.length c3) X2.a).below (below_drewN (Below.refl _ _) nq)).below hb3)
        have HB3 := Lib.hid ((below_drewN (HB2.out.setCell (p := ⟨w.heap.size, 1, none⟩) (Nat.le_refl _) (.slice (some ⟨g3, 0, none⟩) s.wear.length c3)) nq).trans (hb3.mono (by rw [hszz]; have := HLT2.out; omega)))
        have HRB := Lib.hid rb
        have d0 := cell_of_row _ _ 0 _ _ _ r3
        have d1 := cell_of_row _ _ 1 _ _ _ r3
        have d2 := cell_of_row _ _ 2 _ _ _ r3
        have d3 := cell_of_row _ _ 3 _ _ _ r3
        have d4 := cell_of_row _ _ 4 _ _ _ r3
        have d5 := cell_of_row _ _ 5 _ _ _ r3
        have d6 := cell_of_row _ _ 6 _ _ _ r3
        have z0 := frozen_of_row _ _ 0 _ _ r3
        have e0 := cell_of_row _ _ 0 _ _ _ rb
        have y0 := frozen_of_row _ _ 0 _ _ rb
        have e1 := cell_of_row _ _ 1 _ _ _ rb
        have y1 := frozen_of_row _ _ 1 _ _ rb
        have e2 := cell_of_row _ _ 2 _ _ _ rb
        have y2 := frozen_of_row _ _ 2 _ _ rb
        have e3 := cell_of_row _ _ 3 _ _ _ rb
        have y3 := frozen_of_row _ _ 3 _ _ rb
        have e4 := cell_of_row _ _ 4 _ _ _ rb
        have y4 := frozen_of_row _ _ 4 _ _ rb
        have e5 := cell_of_row _ _ 5 _ _ _ rb
        have y5 := frozen_of_row _ _ 5 _ _ rb
        have e6 := cell_of_row _ _ 6 _ _ _ rb
        have y6 := frozen_of_row _ _ 6 _ _ rb
        clear how hb3 r3 rb x0 x1 x2 x3 x4 x5 x6 xz1 hwc))
    exact bodyPost_ret (results_cell2 rfl _ _ (w.heap.size + 1) 29 _ (0, 0) _ rfl (row7_set _ _ _ _ _ _ _ _ _ _ _ _ _ _ _ _ _ (by rw [set_blk (by simp)]; exact HRB.out)) Try.underlying29 rfl (by kernel_rfl)) rfl
      ⟨.slice (some ⟨g4, 0, none⟩) s.ws.length c4, .slice (some ⟨g3, 0, none⟩) s.wear.length c3, by simp [rrow, putS, cutI], ⟨by change WX _ _ _ (s.ws.set i (putV { s with cut := some k } i v)); rw [HPV.out]; exact ((HWS3.out.set ⟨w.heap.size, 0, none⟩ _ X2.a).set7 X2.b ..).drop, by show IX _ _ _ (s.wear.set i (s.wear.getD i 0 + 1)); rw [HX.out]; exact ((HWE3.out.set ⟨w.heap.size, 0, none⟩ _ X2.a).set7 X2.b ..).drop⟩, below_set7 (HB3.out.setCell (p := ⟨w.heap.size, 0, none⟩) (Nat.le_refl _) _) (by omega) ..⟩
  · have HPV : Hid (putV { s with cut := some k } i v = v) := if_neg (by show ¬ s.en < s.wear.getD i 0 + 1; rw [HX.out]; exact h5)
    have HP : Hid (∀ m, Calls Try.prog 38 #[.slice (some ⟨g1, 0, none⟩) s.ws.length c1, .int .i64 (i : Int), .int .u32 (v : Nat)] ((w2.setCell ⟨w.heap.size, 1, none⟩ (.slice (some ⟨g3, 0, none⟩) s.wear.length c3)).drewN m) fun e w' => ∃ g c, e = .returned (.slice (some ⟨g, 0, none⟩) s.ws.length c) ∧ WX w' (X2 X w.heap.size) (.slice (some ⟨g, 0, none⟩) s.ws.length c) (s.ws.set i v) ∧ Below ((w2.setCell ⟨w.heap.size, 1, none⟩ (.slice (some ⟨g3, 0, none⟩) s.wear.length c3)).drewN m).heap.size ((w2.setCell ⟨w.heap.size, 1, none⟩ (.slice (some ⟨g3, 0, none⟩) s.wear.length c3)).drewN m) w') := fun m =>
      put1_any s.ws _ _ i _ ((HWS2.out.set ⟨w.heap.size, 1, none⟩ _ X2.a).below (below_drewN (Below.refl _ _) m)) hi hn (fun k hk => by
        have h1 := HLT2.out
        have h2 : ((w2.setCell ⟨w.heap.size, 1, none⟩ (.slice (some ⟨g3, 0, none⟩) s.wear.length c3)).drewN m).heap.size = w2.heap.size := by simp
        rw [h2]
        rcases hk with hk | hk | hk
        · have := hX k hk; omega
        · omega
        · omega)
    go_wp2_with fail
    go_quiet (fail)
    rename_i nq
    go_wp2_with (first
      | fail
      | (
        go_at_call 38
        refine (HP.out _).mono ?_
        rintro e w3 ⟨g4, c4, rfl, how, hb3⟩
        have hszz : ((w2.setCell ⟨w.heap.size, 1, none⟩ (.slice (some ⟨g3, 0, none⟩) s.wear.length c3)).drewN nq).heap.size = w2.heap.size := by simp
        have r3 : w3.heap[w.heap.size]? = some (.cells #[.slice (some ⟨g1, 0, none⟩) s.ws.length c1, .slice (some ⟨g3, 0, none⟩) s.wear.length c3, .int .i64 (s.en : Int), .int .i64 ((s.wr : Int) + 1), .int .i64 (s.cu : Int), .bool true, .int .i64 (k : Int)] 29 (0, 0)) := (hb3.block w.heap.size (by rw [hszz]; have := HLT2.out; omega)).trans (heap_set_row (i := 1) (u := .slice (some ⟨g3, 0, none⟩) s.wear.length c3) HRA2.out)
        have rb : w3.heap[w.heap.size + 1]? = some (.cells #[.slice none 0 0, .slice none 0 0, .int .i64 0, .int .i64 0, .int .i64 0, .bool false, .int .i64 0] 29 (0, 0)) := (hb3.block (w.heap.size + 1) (by rw [hszz]; have := HLT2.out; omega)).trans ((set_blk (by show w.heap.size + 1 ≠ w.heap.size; omega)).trans HRB2.out)
        have HWS3 := Lib.hid how
        have HWE3 := Lib.hid (((HWE2.out.set ⟨w.heap.size, 1, none⟩ (.slice (some ⟨g3, 0, none⟩) s.wear.length c3) X2.a).below (below_drewN (Below.refl _ _) nq)).below hb3)
        have HB3 := Lib.hid ((below_drewN (HB2.out.setCell (p := ⟨w.heap.size, 1, none⟩) (Nat.le_refl _) (.slice (some ⟨g3, 0, none⟩) s.wear.length c3)) nq).trans (hb3.mono (by rw [hszz]; have := HLT2.out; omega)))
        have HRB := Lib.hid rb
        have d0 := cell_of_row _ _ 0 _ _ _ r3
        have d1 := cell_of_row _ _ 1 _ _ _ r3
        have d2 := cell_of_row _ _ 2 _ _ _ r3
        have d3 := cell_of_row _ _ 3 _ _ _ r3
        have d4 := cell_of_row _ _ 4 _ _ _ r3
        have d5 := cell_of_row _ _ 5 _ _ _ r3
        have d6 := cell_of_row _ _ 6 _ _ _ r3
        have z0 := frozen_of_row _ _ 0 _ _ r3
        have e0 := cell_of_row _ _ 0 _ _ _ rb
        have y0 := frozen_of_row _ _ 0 _ _ rb
        have e1 := cell_of_row _ _ 1 _ _ _ rb
        have y1 := frozen_of_row _ _ 1 _ _ rb
        have e2 := cell_of_row _ _ 2 _ _ _ rb
        have y2 := frozen_of_row _ _ 2 _ _ rb
        have e3 := cell_of_row _ _ 3 _ _ _ rb
        have y3 := frozen_of_row _ _ 3 _ _ rb
        have e4 := cell_of_row _ _ 4 _ _ _ rb
        have y4 := frozen_of_row _ _ 4 _ _ rb
        have e5 := cell_of_row _ _ 5 _ _ _ rb
        have y5 := frozen_of_row _ _ 5 _ _ rb
        have e6 := cell_of_row _ _ 6 _ _ _ rb
        have y6 := frozen_of_row _ _ 6 _ _ rb
        clear how hb3 r3 rb x0 x1 x2 x3 x4 x5 x6 xz1 hwc))
    exact bodyPost_ret (results_cell2 rfl _ _ (w.heap.size + 1) 29 _ (0, 0) _ rfl (row7_set _ _ _ _ _ _ _ _ _ _ _ _ _ _ _ _ _ (by rw [set_blk (by simp)]; exact HRB.out)) Try.underlying29 rfl (by kernel_rfl)) rfl
      ⟨.slice (some ⟨g4, 0, none⟩) s.ws.length c4, .slice (some ⟨g3, 0, none⟩) s.wear.length c3, by simp [rrow, putS, cutI], ⟨by change WX _ _ _ (s.ws.set i (putV { s with cut := some k } i v)); rw [HPV.out]; exact ((HWS3.out.set ⟨w.heap.size, 0, none⟩ _ X2.a).set7 X2.b ..).drop, by show IX _ _ _ (s.wear.set i (s.wear.getD i 0 + 1)); rw [HX.out]; exact ((HWE3.out.set ⟨w.heap.size, 0, none⟩ _ X2.a).set7 X2.b ..).drop⟩, below_set7 (HB3.out.setCell (p := ⟨w.heap.size, 0, none⟩) (Nat.le_refl _) _) (by omega) ..⟩
end Go.Proofs.Ytcojoohbhkhlnaa
