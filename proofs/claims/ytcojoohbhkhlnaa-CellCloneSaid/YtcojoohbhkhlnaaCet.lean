/-
  The walk of open where New refuses.
-/
import Derived.Test.YtcojoohbhkhlnaaCes
namespace Go.Proofs.Ytcojoohbhkhlnaa
set_option linter.unusedVariables false
set_option linter.unusedSimpArgs false
open Go.RowKit

set_option maxRecDepth 100000 in
set_option maxHeartbeats 1600000 in
theorem open_bad (W E : Int) (w : World) (h : ¬ (1 ≤ W ∧ W ≤ 65536 ∧ 1 ≤ E)) : Calls Try.prog 8 #[.agg #[.int .i64 W, .int .i64 E]] w fun e w' => e = .returned (.tuple #[.pointer none, .agg #[.slice none 0 0, .slice none 0 0, .int .i64 0, .int .i64 0, .int .i64 0, .bool false, .int .i64 0], .bool true]) ∧ Below w.heap.size w w' := by
  have HB1 := Lib.hid (below_new2 w (.cells #[.int .i64 W, .int .i64 E] 23) (.cells #[.slice none 0 0, .slice none 0 0, .int .i64 0, .int .i64 0, .int .i64 0, .bool false, .int .i64 0] 29))
  have RA := Lib.hid (heap_new1 w #[.int .i64 W, .int .i64 E] 23 (.cells #[.slice none 0 0, .slice none 0 0, .int .i64 0, .int .i64 0, .int .i64 0, .bool false, .int .i64 0] 29))
  have RB := Lib.hid (heap_new2 w (.cells #[.int .i64 W, .int .i64 E] 23) #[.slice none 0 0, .slice none 0 0, .int .i64 0, .int .i64 0, .int .i64 0, .bool false, .int .i64 0] 29)
  have HNW := Lib.hid (fun w => new_bad W E w h)
  have HFI := Lib.hid (fun w => first_bad W E w h)
  clear h
  go_enter Try.func8, Try.ntmps8
  go_wp2_with fail
  generalize (w.alloc (.cells #[.int .i64 W, .int .i64 E] 23)).alloc (.cells #[.slice none 0 0, .slice none 0 0, .int .i64 0, .int .i64 0, .int .i64 0, .bool false, .int .i64 0] 29) = w1 at *
  have HLT : Hid (w.heap.size + 2 ≤ w1.heap.size) := (Array.getElem?_eq_some_iff.1 RB.out).1
  refine (HNW.out w1).mono ?_
  rintro e w2 ⟨rfl, hb2⟩
  have HB2 := Lib.hid hb2
  have a0 := cell_of_row _ _ 0 _ _ _ ((hb2.block w.heap.size (by have := HLT.out; omega)).trans RA.out)
  have a1 := cell_of_row _ _ 1 _ _ _ ((hb2.block w.heap.size (by have := HLT.out; omega)).trans RA.out)
  clear hb2
  go_wp2_with fail
  refine (HFI.out w2).mono ?_
  rintro e w3 ⟨rfl, hb3⟩
  have hb13 := HB2.out.trans (hb3.mono HB2.out.size)
  have HRB := Lib.hid ((hb13.block (w.heap.size + 1) HLT.out).trans RB.out)
  have HB13 := Lib.hid (HB1.out.trans (hb13.mono HB1.out.size))
  have hlt3 : w.heap.size + 1 < w3.heap.size := by have := HLT.out; have := hb13.size; omega
  have hb34 := alloc_below w3 (.cells #[.slice none 0 0, .slice none 0 0, .int .i64 0, .int .i64 0, .int .i64 0, .bool false, .int .i64 0] 29)
  have rt := heap_alloc_new w3 (.cells #[.slice none 0 0, .slice none 0 0, .int .i64 0, .int .i64 0, .int .i64 0, .bool false, .int .i64 0] 29)
  have HB14 := Lib.hid (HB13.out.trans (hb34.mono HB13.out.size))
  have rb := (hb34.block (w.heap.size + 1) hlt3).trans HRB.out
  have HRB4 := Lib.hid rb
  have HRT := Lib.hid rt
  clear hb3 hb13 rb a0 a1 hb34 rt
  go_wp2_with fail
  generalize w3.alloc (.cells #[.slice none 0 0, .slice none 0 0, .int .i64 0, .int .i64 0, .int .i64 0, .bool false, .int .i64 0] 29) = w4 at *
  obtain ⟨T, hT⟩ : ∃ T, w3.heap.size = T := ⟨_, rfl⟩
  rw [hT] at hlt3 HRT
  simp only [hT]
  have rb := HRB4.out
  have rt := HRT.out
  have hne1 : w.heap.size + 1 ≠ T := by omega
  have hne2 : T ≠ w.heap.size + 1 := by omega
  have e0 := cell_of_row _ _ 0 _ _ _ rb
  have y0 := frozen_of_row _ _ 0 _ _ rb
  have t0 := cell_of_row _ _ 0 _ _ _ rt
  have e1 := cell_of_row _ _ 1 _ _ _ rb
  have y1 := frozen_of_row _ _ 1 _ _ rb
  have t1 := cell_of_row _ _ 1 _ _ _ rt
  have e2 := cell_of_row _ _ 2 _ _ _ rb
  have y2 := frozen_of_row _ _ 2 _ _ rb
  have t2 := cell_of_row _ _ 2 _ _ _ rt
  have e3 := cell_of_row _ _ 3 _ _ _ rb
  have y3 := frozen_of_row _ _ 3 _ _ rb
  have t3 := cell_of_row _ _ 3 _ _ _ rt
  have e4 := cell_of_row _ _ 4 _ _ _ rb
  have y4 := frozen_of_row _ _ 4 _ _ rb
  have t4 := cell_of_row _ _ 4 _ _ _ rt
  have e5 := cell_of_row _ _ 5 _ _ _ rb
  have y5 := frozen_of_row _ _ 5 _ _ rb
  have t5 := cell_of_row _ _ 5 _ _ _ rt
  have e6 := cell_of_row _ _ 6 _ _ _ rb
  have y6 := frozen_of_row _ _ 6 _ _ rb
  have t6 := cell_of_row _ _ 6 _ _ _ rt
  clear rb rt hT
  go_region_held3 (fun w' => w'.cell? ⟨T, 0, none⟩ = some (.slice none 0 0) ∧ w'.cell? ⟨T, 1, none⟩ = some (.slice none 0 0) ∧ w'.cell? ⟨T, 2, none⟩ = some (.int .i64 0) ∧ w'.cell? ⟨T, 3, none⟩ = some (.int .i64 0) ∧ w'.cell? ⟨T, 4, none⟩ = some (.int .i64 0) ∧ w'.cell? ⟨T, 5, none⟩ = some (.bool false) ∧ w'.cell? ⟨T, 6, none⟩ = some (.int .i64 0))
    (first | (go_keep; done) | exact ⟨t0, t1, t2, t3, t4, t5, t6⟩)
    (fail)
  go_wp2
  have hB := (below_set7 HB14.out (show w.heap.size ≤ w.heap.size + 1 by omega) (.slice none 0 0) (.slice none 0 0) (.int .i64 0) (.int .i64 0) (.int .i64 0) (.bool false) (.int .i64 0)).drew
  have hR := row7_set w4 (w.heap.size + 1) 29 _ _ _ _ _ _ _ (.slice none 0 0) (.slice none 0 0) (.int .i64 0) (.int .i64 0) (.int .i64 0) (.bool false) (.int .i64 0) HRB4.out
  clear HB14 HRB4 HNW HFI HB2 HB13 HRB HB1 RA RB
  generalize ((((((w4.setCell ⟨w.heap.size + 1, 0, none⟩ (.slice none 0 0)).setCell ⟨w.heap.size + 1, 1, none⟩ (.slice none 0 0)).setCell ⟨w.heap.size + 1, 2, none⟩ (.int .i64 0)).setCell ⟨w.heap.size + 1, 3, none⟩ (.int .i64 0)).setCell ⟨w.heap.size + 1, 4, none⟩ (.int .i64 0)).setCell ⟨w.heap.size + 1, 5, none⟩ (.bool false)).setCell ⟨w.heap.size + 1, 6, none⟩ (.int .i64 0) = w5 at *
  exact bodyPost_ret (results_tct rfl _ _ (w.heap.size + 1) 29 _ (0, 0) _ rfl hR Try.underlying29 rfl (by kernel_rfl)) rfl ⟨rfl, hB⟩
end Go.Proofs.Ytcojoohbhkhlnaa
