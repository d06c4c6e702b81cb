/-
  few, the chapter's examples, and the law AtrRequests: the walks.
-/
import Derived.Test.YtnbggokmiokhlaaDoorAvy
import Derived.Test.YtnbggokmiokhlaaDoorAuc
namespace Go.Proofs.YtnbggokmiokhlaaDoor
set_option linter.unusedVariables false
set_option linter.unusedSimpArgs false
open Go.RowKit

theorem row_lt {W : World} {g : Nat} {o : Obj} (h : W.heap[g]? = some o) : g < W.heap.size := by
  rcases Nat.lt_or_ge g W.heap.size with hlt | hge
  · exact hlt
  · rw [Array.getElem?_eq_none hge] at h; cases h
theorem NL.one {W : World} {g : Nat} {x : Int} (h : W.heap[g]? = some (.cells #[.int .i64 x] 3 (0, 0))) : NL W W.heap.size (.slice (some ⟨g, 0, none⟩) 1 1) [x] := by
  refine ⟨some ⟨g, 0, none⟩, 1, rfl, Nat.le_refl _, by unfold maxLen; omega, fun _ => ⟨g, 0, rfl, row_lt h, fun k hk => ?_⟩⟩
  have hk0 : k = 0 := by simpa using hk
  subst hk0
  exact cell_of_row W g 0 _ 3 (0, 0) h
theorem NL.two {W : World} {g : Nat} {x y : Int} (h : W.heap[g]? = some (.cells #[.int .i64 x, .int .i64 y] 3 (0, 0))) : NL W W.heap.size (.slice (some ⟨g, 0, none⟩) 2 2) [x, y] := by
  refine ⟨some ⟨g, 0, none⟩, 2, rfl, Nat.le_refl _, by unfold maxLen; omega, fun _ => ⟨g, 0, rfl, row_lt h, fun k hk => ?_⟩⟩
  have hk0 : k = 0 ∨ k = 1 := by simp at hk; omega
  rcases hk0 with rfl | rfl
  · exact cell_of_row W g 0 _ 3 (0, 0) h
  · exact cell_of_row W g 1 _ 3 (0, 0) h
theorem IL.one {W : World} {g : Nat} {x : Ib} (h : W.heap[g]? = some (.cells #[.int .i64 x.g, .int .i64 x.k, .int .i64 x.v, .int .i64 x.p] 60 (0, 0))) : IL W W.heap.size (.slice (some ⟨g, 0, none⟩) 1 1) [x] := by
  refine ⟨some ⟨g, 0, none⟩, 1, rfl, Nat.le_refl _, by unfold maxLen; omega, fun _ => ⟨g, 0, rfl, row_lt h, fun k hk => ?_⟩⟩
  have hk0 : k = 0 := by simpa using hk
  subst hk0
  exact ⟨cell_of_row W g 0 _ 60 (0, 0) h, cell_of_row W g 1 _ 60 (0, 0) h, cell_of_row W g 2 _ 60 (0, 0) h, cell_of_row W g 3 _ 60 (0, 0) h⟩
theorem below_al2 {w w1 : World} {o : Obj} (h : Below (w.alloc o).heap.size (w.alloc o) w1) : Below w.heap.size w w1 := (alloc_below w o).trans (h.mono (by rw [alloc_size]; omega))
def exa1 : At := ⟨false, [], [0], []⟩
def exa2 : At := ⟨false, [⟨3, 0, 254, 1⟩], [1], []⟩
def exa3 : At := ⟨false, [], [0, 1], []⟩
theorem exa1_ok : chkE exa1 = 0 ∧ encV exa1 = [59, 0] := by decide +kernel
theorem exa2_ok : chkE exa2 = 0 ∧ encV exa2 = [59, 128, 129, 17, 254, 238] := by decide +kernel
theorem exa3_ok : chkE exa3 = 0 ∧ encV exa3 = [59, 128, 128, 1, 1] := by decide +kernel
theorem exr_ok : reqE 1 = 0 ∧ reqV 1 = [255, 1, 254] := by decide +kernel

set_option maxRecDepth 100000 in
set_option maxHeartbeats 1600000 in
theorem works_any (w : World) (hT : Tb w) : Calls Tryd.prog 20 #[] w fun e w' => e = .returned (.bool true) ∧ Below w.heap.size w w' := by
  have HT := Lib.hid hT
  have H1 : Hid (∀ W, Tb W → Calls Tryd.prog 21 #[.agg #[.bool false, .slice none 0 0, .slice (some ⟨W.heap.size, 0, none⟩) 1 1, .slice none 0 0]] (W.alloc (.cells #[.int .i64 0] 3)) fun e w' => ∃ v', e = .returned (.tuple #[v', .int .i64 0]) ∧ SL w' w'.heap.size v' [59, 0] ∧ Below (W.alloc (.cells #[.int .i64 0] 3)).heap.size (W.alloc (.cells #[.int .i64 0] 3)) w') := fun W hW => by
    have h := penca_any exa1 (.agg #[.bool false, .slice none 0 0, .slice (some ⟨W.heap.size, 0, none⟩) 1 1, .slice none 0 0]) (W.alloc (.cells #[.int .i64 0] 3)) ⟨_, _, _, rfl, IL.nil _ _ _ _ (Nat.zero_le _), NL.one (heap_alloc_new _ _), SL.nil _ _ _ _ (Nat.zero_le _)⟩ (by decide) (by decide) (hW.on (alloc_below _ _))
    unfold EnaR at h
    rw [exa1_ok.1, exa1_ok.2] at h
    exact h
  have H2 : Hid (∀ W, Tb W → Calls Tryd.prog 21 #[.agg #[.bool false, .slice (some ⟨W.heap.size + 1, 0, none⟩) 1 1, .slice (some ⟨W.heap.size, 0, none⟩) 1 1, .slice none 0 0]] ((W.alloc (.cells #[.int .i64 1] 3)).alloc (.cells #[.int .i64 3, .int .i64 0, .int .i64 254, .int .i64 1] 60)) fun e w' => ∃ v', e = .returned (.tuple #[v', .int .i64 0]) ∧ SL w' w'.heap.size v' [59, 128, 129, 17, 254, 238] ∧ Below ((W.alloc (.cells #[.int .i64 1] 3)).alloc (.cells #[.int .i64 3, .int .i64 0, .int .i64 254, .int .i64 1] 60)).heap.size ((W.alloc (.cells #[.int .i64 1] 3)).alloc (.cells #[.int .i64 3, .int .i64 0, .int .i64 254, .int .i64 1] 60)) w') := fun W hW => by
    have h := penca_any exa2 (.agg #[.bool false, .slice (some ⟨W.heap.size + 1, 0, none⟩) 1 1, .slice (some ⟨W.heap.size, 0, none⟩) 1 1, .slice none 0 0]) ((W.alloc (.cells #[.int .i64 1] 3)).alloc (.cells #[.int .i64 3, .int .i64 0, .int .i64 254, .int .i64 1] 60)) ⟨_, _, _, rfl, IL.one (x := ⟨3, 0, 254, 1⟩) (heap_alloc2_new _ _ _), NL.one (heap_alloc2_old _ _ _), SL.nil _ _ _ _ (Nat.zero_le _)⟩ (by decide) (by decide) (hW.on (two_alloc _ _ _))
    unfold EnaR at h
    rw [exa2_ok.1, exa2_ok.2] at h
    exact h
  have H3 : Hid (∀ W, Tb W → Calls Tryd.prog 21 #[.agg #[.bool false, .slice none 0 0, .slice (some ⟨W.heap.size, 0, none⟩) 2 2, .slice none 0 0]] (W.alloc (.cells #[.int .i64 0, .int .i64 1] 3)) fun e w' => ∃ v', e = .returned (.tuple #[v', .int .i64 0]) ∧ SL w' w'.heap.size v' [59, 128, 128, 1, 1] ∧ Below (W.alloc (.cells #[.int .i64 0, .int .i64 1] 3)).heap.size (W.alloc (.cells #[.int .i64 0, .int .i64 1] 3)) w') := fun W hW => by
    have h := penca_any exa3 (.agg #[.bool false, .slice none 0 0, .slice (some ⟨W.heap.size, 0, none⟩) 2 2, .slice none 0 0]) (W.alloc (.cells #[.int .i64 0, .int .i64 1] 3)) ⟨_, _, _, rfl, IL.nil _ _ _ _ (Nat.zero_le _), NL.two (heap_alloc_new _ _), SL.nil _ _ _ _ (Nat.zero_le _)⟩ (by decide) (by decide) (hW.on (alloc_below _ _))
    unfold EnaR at h
    rw [exa3_ok.1, exa3_ok.2] at h
    exact h
  have H4 : Hid (∀ W, Tb W → Calls Tryd.prog 31 #[.int .i64 1] W fun e w' => ∃ v', e = .returned (.tuple #[v', .int .i64 0]) ∧ SL w' w'.heap.size v' [255, 1, 254] ∧ Below W.heap.size W w') := fun W hW => by
    have h := preq_any 1 W hW
    unfold ReqR at h
    rw [exr_ok.1, exr_ok.2] at h
    exact h
  clear hT
  go_enter Tryd.func20, Tryd.ntmps20
  go_wp2_with fail
  refine (H1.out _ HT.out).mono ?_
  rintro e w1 ⟨v1, rfl, hv1, hb1⟩
  have HW1 := Lib.hid (below_al2 hb1)
  have HV1 := Lib.hid hv1
  obtain ⟨A1, c1, e1, _⟩ := id hv1
  subst e1
  clear hb1 hv1
  go_wp2_with fail
  refine (H2.out _ (HT.out.on HW1.out)).mono ?_
  rintro e w2 ⟨v2, rfl, hv2, hb2⟩
  have hw2 : Below w1.heap.size w1 w2 := (two_alloc _ _ _).trans (hb2.mono (two_alloc _ _ _).size)
  have HV1' := Lib.hid (HV1.out.on hw2)
  have HW2 := Lib.hid (HW1.out.trans (hw2.mono HW1.out.size))
  have HV2 := Lib.hid hv2
  obtain ⟨A2, c2, e2, _⟩ := id hv2
  subst e2
  clear hb2 hv2 hw2 HV1
  go_wp2_with fail
  refine (H3.out _ (HT.out.on HW2.out)).mono ?_
  rintro e w3 ⟨v3, rfl, hv3, hb3⟩
  have hw3 : Below w2.heap.size w2 w3 := below_al2 hb3
  have HV1'' := Lib.hid (HV1'.out.on hw3)
  have HV2'' := Lib.hid (HV2.out.on hw3)
  have HW3 := Lib.hid (HW2.out.trans (hw3.mono HW2.out.size))
  have HV3 := Lib.hid hv3
  obtain ⟨A3, c3, e3, _⟩ := id hv3
  subst e3
  clear hb3 hv3 hw3 HV1' HV2
  go_wp2_with fail
  refine (H4.out _ (HT.out.on HW3.out)).mono ?_
  rintro e w4 ⟨v4, rfl, hv4, hb4⟩
  have s1 := (HV1''.out.on hb4).convert
  have s2 := (HV2''.out.on hb4).convert
  have s3 := (HV3.out.on hb4).convert
  have s4 := hv4.convert
  have HW4 := Lib.hid (HW3.out.trans (hb4.mono HW3.out.size))
  obtain ⟨A4, c4, e4, _⟩ := id hv4
  subst e4
  clear hb4 hv4 HV1'' HV2'' HV3
  simp only [List.length_cons, List.length_nil, Nat.zero_add, Nat.reduceAdd] at s1 s2 s3 s4
  go_wp2_with fail
  go_ret
  exact ⟨rfl, HW4.out⟩

def fewB (a : At) : Bool := decide (a.ibs.length ≤ 100) && decide (a.prs.length ≤ 20) && decide (a.his.length ≤ 100)
set_option maxRecDepth 100000 in
theorem fewa_any (a : At) (v : Value) (w : World) (h : AT w v a) : Calls Tryd.prog 19 #[v] w fun e w' => e = .returned (.bool (fewB a)) ∧ Below w.heap.size w w' := by
  obtain ⟨v1, v2, v3, rfl, h1, h2, h3⟩ := h
  obtain ⟨A1, c1, rfl, a1, b1, d1⟩ := h1
  obtain ⟨A2, c2, rfl, a2, b2, d2⟩ := h2
  obtain ⟨A3, c3, rfl, a3, b3, d3⟩ := h3
  have HF : Hid (fewB a = (decide (a.ibs.length ≤ 100) && decide (a.prs.length ≤ 20) && decide (a.his.length ≤ 100))) := rfl
  unfold maxLen at b1 b2 b3
  clear d1 d2 d3
  have hal := Lib.hid (alloc_below w (.cells #[.bool a.inv, .slice A1 a.ibs.length c1, .slice A2 a.prs.length c2, .slice A3 a.his.length c3] 26))
  by_cases x1 : a.ibs.length ≤ 100 <;> by_cases x2 : a.prs.length ≤ 20 <;> by_cases x3 : a.his.length ≤ 100 <;>
    (have y1 : decide ((a.ibs.length : Int) ≤ 100) = decide (a.ibs.length ≤ 100) := by rw [Bool.eq_iff_iff]; simp; omega
     have y2 : decide ((a.prs.length : Int) ≤ 20) = decide (a.prs.length ≤ 20) := by rw [Bool.eq_iff_iff]; simp; omega
     have y3 : decide ((a.his.length : Int) ≤ 100) = decide (a.his.length ≤ 100) := by rw [Bool.eq_iff_iff]; simp; omega
     simp only [x1, x2, x3, decide_true, decide_false, Bool.and_true, Bool.and_false, Bool.true_and, Bool.false_and] at y1 y2 y3 HF
     go_enter Tryd.func19, Tryd.ntmps19
     go_wp2_with fail
     go_ret
     exact ⟨ret_bool HF.out.symm, hal.out⟩)

set_option maxRecDepth 100000 in
set_option maxHeartbeats 1600000 in
theorem law_reqs (n : Int) (w : World) (hT : Tb w) : Calls Tryd.prog 6 #[.int .i64 n] w fun e w' => e = .returned (.bool true) ∧ Below w.heap.size w w' := by
  have HT := Lib.hid hT
  have HP := fun (W : World) (hW : Below w.heap.size w W) => preq_any n W (hT.on hW)
  have HR := fun (W : World) => rreq_any n W
  have HA := Lib.hid (fun (W : World) (hW : Below w.heap.size w W) => works_any W (HT.out.on hW))
  unfold ReqR at HP HR
  generalize reqE n = E at *
  generalize reqV n = V at *
  have HP := Lib.hid HP
  have HR := Lib.hid HR
  clear hT
  go_enter Tryd.func6, Tryd.ntmps6
  go_wp2_with fail
  refine (HP.out _ (Below.refl _ _)).mono ?_
  rintro e w1 ⟨v1, rfl, hv1, hb1⟩
  go_wp2_with fail
  refine (HR.out _).mono ?_
  rintro e w2 ⟨v2, rfl, hv2, hb2⟩
  have s1 := (hv1.on hb2).convert
  have s2 := hv2.convert
  have HW2 := Lib.hid (hb1.trans (hb2.mono hb1.size))
  obtain ⟨A1, c1, e1, _⟩ := id hv1
  subst e1
  obtain ⟨A2, c2, e2, _⟩ := id hv2
  subst e2
  clear hb1 hb2 hv1 hv2
  go_wp2_with fail
  refine (HA.out _ HW2.out).mono ?_
  rintro e w3 ⟨rfl, hb3⟩
  go_wp2_with fail
  go_ret
  exact ⟨rfl, HW2.out.trans (hb3.mono HW2.out.size)⟩
end Go.Proofs.YtnbggokmiokhlaaDoor
