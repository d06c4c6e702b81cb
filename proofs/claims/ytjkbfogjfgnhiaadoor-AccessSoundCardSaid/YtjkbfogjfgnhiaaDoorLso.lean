/-
  The walk of the law AccessSound.
-/
import Derived.Test.YtjkbfogjfgnhiaaDoorLim
namespace Go.Proofs.YtjkbfogjfgnhiaaDoor
set_option linter.unusedVariables false
set_option linter.unusedSimpArgs false
open Go.RowKit

theorem heap3_size (w : World) (X Y Z : Obj) : (((w.alloc X).alloc Y).alloc Z).heap.size = w.heap.size + 1 + 1 + 1 := by rw [alloc_size, alloc_size, alloc_size]
set_option maxRecDepth 100000 in
set_option maxHeartbeats 6400000 in
theorem law_sound (a b : Cn) (s : Sc) (va vb : Value) (w : World) (hka : KL w w.heap.size va a.kids) (hkb : KL w w.heap.size vb b.kids) (hT : Tb w) :
    Calls Tryd.prog 7 #[.agg #[.int .i64 a.op, .int .i64 a.n, va], .agg #[.int .i64 b.op, .int .i64 b.n, vb], .agg #[.int .i64 s.pins, .int .i64 s.keys, .int .i64 s.state, .int .i64 s.level]] w fun e w' => e = .returned (.bool true) ∧ Below w.heap.size w w' := by
  obtain ⟨A1, c1, rfl, _, _, _⟩ := id hka
  obtain ⟨A2, c2, rfl, _, _, _⟩ := id hkb
  have hr3 := Rows3.start w (bx a.op a.n A1 a.kids.length c1) (bx b.op b.n A2 b.kids.length c2) s.row
  have hsz := heap3_size w (bx a.op a.n A1 a.kids.length c1) (bx b.op b.n A2 b.kids.length c2) s.row
  have hk2 := KL.two _ a b A1 A2 c1 c2 (hka.on hr3.bel) (hkb.on hr3.bel)
  have hb3 := alloc_below (((w.alloc (bx a.op a.n A1 a.kids.length c1)).alloc (bx b.op b.n A2 b.kids.length c2)).alloc s.row) (bx2 a b A1 c1 A2 c2)
  have htw := hr3.on hb3
  have hf := few_any [a, b] _ _ hk2
  rw [hsz] at hf
  have HF := Lib.hid hf
  have HFE : Hid (([a, b] : List Cn).all fewB = (fewB a && fewB b)) := by show _ = _; simp
  rw [HFE.out] at HF
  have HFA := Lib.hid (few_cnt a)
  have HFB := Lib.hid (few_cnt b)
  have HTW := Lib.hid htw
  have HAT := Lib.hid fun (W : World) (hW : Below w.heap.size w W) (h1 : a.cnt ≤ 400) (h2 : b.cnt ≤ 400) => atoms_any a b _ _ W (hka.on hW) (hkb.on hW) (by omega) (by omega)
  have HP1 := Lib.hid fun (W : World) (hW : Below w.heap.size w W) (h1 : a.cnt ≤ 400) (h2 : b.cnt ≤ 400) => pimp_any a b _ _ W (hka.on hW) (hkb.on hW) (hT.on hW) h1 h2
  have HC1 := Lib.hid fun (W : World) (hW : Below w.heap.size w W) (h1 : a.cnt ≤ 400) => pchk_any a _ W (hka.on hW) (hT.on hW) h1
  have HC2 := Lib.hid fun (W : World) (hW : Below w.heap.size w W) (h1 : b.cnt ≤ 400) => pchk_any b _ W (hkb.on hW) (hT.on hW) h1
  have HH1 := Lib.hid fun (W : World) (hW : Below w.heap.size w W) (h1 : a.cnt ≤ 400) => pholds_any a s _ W (hka.on hW) (hT.on hW) h1
  have HH2 := Lib.hid fun (W : World) (hW : Below w.heap.size w W) (h1 : b.cnt ≤ 400) => pholds_any b s _ W (hkb.on hW) (hT.on hW) h1
  have HA := Lib.hid fun (W : World) (hW : Below w.heap.size w W) => works_any W (hT.on hW)
  have HS : Hid (∀ W, Rows3 w W (bx a.op a.n A1 a.kids.length c1) (bx b.op b.n A2 b.kids.length c2) s.row → W.cell? ⟨w.heap.size, 0, none⟩ = some (.int .i64 a.op) ∧ W.cell? ⟨w.heap.size, 1, none⟩ = some (.int .i64 a.n) ∧ W.cell? ⟨w.heap.size, 2, none⟩ = some (.slice A1 a.kids.length c1) ∧ W.cell? ⟨w.heap.size + 1, 0, none⟩ = some (.int .i64 b.op) ∧ W.cell? ⟨w.heap.size + 1, 1, none⟩ = some (.int .i64 b.n) ∧ W.cell? ⟨w.heap.size + 1, 2, none⟩ = some (.slice A2 b.kids.length c2) ∧ W.cell? ⟨w.heap.size + 1 + 1, 0, none⟩ = some (.int .i64 s.pins) ∧ W.cell? ⟨w.heap.size + 1 + 1, 1, none⟩ = some (.int .i64 s.keys) ∧ W.cell? ⟨w.heap.size + 1 + 1, 2, none⟩ = some (.int .i64 s.state) ∧ W.cell? ⟨w.heap.size + 1 + 1, 3, none⟩ = some (.int .i64 s.level)) := fun W hW =>
    ⟨cell_of_row _ _ 0 _ _ _ hW.r0, cell_of_row _ _ 1 _ _ _ hW.r0, cell_of_row _ _ 2 _ _ _ hW.r0, cell_of_row _ _ 0 _ _ _ hW.r1, cell_of_row _ _ 1 _ _ _ hW.r1, cell_of_row _ _ 2 _ _ _ hW.r1, cell_of_row _ _ 0 _ _ _ hW.r2, cell_of_row _ _ 1 _ _ _ hW.r2, cell_of_row _ _ 2 _ _ _ hW.r2, cell_of_row _ _ 3 _ _ _ hW.r2⟩
  have HIM := Lib.hid fun (h : impB a b = true) => (impB_iff a b).1 h
  have HHA : Hid (chkC 1 3 a = 0 → holdB s a = a.sat s) := fun h => by unfold holdB; rw [decide_eq_true h, Bool.true_and]
  have HHB : Hid (chkC 1 3 b = 0 → holdB s b = b.sat s) := fun h => by unfold holdB; rw [decide_eq_true h, Bool.true_and]
  clear hka hkb hT hr3 hsz hk2 hb3 htw hf HFE
  generalize impB a b = X at *
  generalize ((b.atm (a.atm [])).length : Int) = N at *
  generalize hfa : fewB a = FA at *
  generalize hfb : fewB b = FB at *
  clear hfa hfb
  obtain ⟨F, hF⟩ : ∃ F, F = (FA && FB) := ⟨_, rfl⟩
  rw [← hF] at HF
  have HFF := Lib.hid hF
  clear hF
  go_enter Tryd.func7, Tryd.ntmps7
  go_wp2_with fail
  refine HF.out.mono ?_
  rintro e w1 ⟨rfl, hb1⟩
  have ht1 := HTW.out.on hb1
  obtain ⟨p0, p1, p2, p3, p4, p5, p6, p7, p8, p9⟩ := HS.out _ ht1
  have HT1 := Lib.hid ht1
  clear hb1 ht1
  cases F with
  | false =>
    go_wp2_with fail
    refine (HA.out _ HT1.out.bel).mono ?_
    rintro e w2 ⟨rfl, hb2⟩
    go_wp2_with fail
    go_ret
    exact ⟨rfl, (HT1.out.on hb2).bel⟩
  | true =>
    have hff : FA = true ∧ FB = true := by have := HFF.out; simpa using this.symm
    have hca : a.cnt ≤ 400 := by have := HFA.out hff.1; omega
    have hcb : b.cnt ≤ 400 := by have := HFB.out hff.2; omega
    clear hff
    go_wp2_with fail
    refine (HAT.out _ HT1.out.bel hca hcb).mono ?_
    rintro e w2 ⟨rfl, hb2⟩
    have ht2 := HT1.out.on hb2
    have HT2 := Lib.hid ht2
    clear hb2 p0 p1 p2 p3 p4 p5 p6 p7 p8 p9
    obtain ⟨p0, p1, p2, p3, p4, p5, p6, p7, p8, p9⟩ := HS.out _ ht2
    clear ht2
    by_cases hN : 16 < N
    · go_wp2_with fail
      refine (HA.out _ HT2.out.bel).mono ?_
      rintro e w3 ⟨rfl, hb3⟩
      go_wp2_with fail
      go_ret
      exact ⟨rfl, (HT2.out.on hb3).bel⟩
    · have hN2 : decide (16 < N) = false := decide_eq_false hN
      go_wp2_with fail
      refine (HP1.out _ HT2.out.bel hca hcb).mono ?_
      rintro e w3 ⟨rfl, hb3⟩
      have ht3 := HT2.out.on hb3
      have HT3 := Lib.hid ht3
      clear hb3 p0 p1 p2 p3 p4 p5 p6 p7 p8 p9
      obtain ⟨p0, p1, p2, p3, p4, p5, p6, p7, p8, p9⟩ := HS.out _ ht3
      clear ht3
      cases X with
      | false =>
        go_wp2_with fail
        refine (HA.out _ HT3.out.bel).mono ?_
        rintro e w4 ⟨rfl, hb4⟩
        go_wp2_with fail
        go_ret
        exact ⟨rfl, (HT3.out.on hb4).bel⟩
      | true =>
        obtain ⟨z1, z2, z3⟩ := HIM.out (by first | exact trivial | rfl)
        have hz1 := HHA.out z1
        have hz2 := HHB.out z2
        rw [z1] at HC1
        rw [z2] at HC2
        rw [hz1] at HH1
        rw [hz2] at HH2
        have HZ3 := Lib.hid (z3 s)
        clear z1 z2 z3 hz1 hz2 HIM HHA HHB
        generalize a.sat s = Y at *
        generalize b.sat s = Z at *
        go_wp2_with fail
        refine (HC1.out _ HT3.out.bel hca).mono ?_
        rintro e w4 ⟨rfl, hb4⟩
        have ht4 := HT3.out.on hb4
        have HT4 := Lib.hid ht4
        clear hb4 p0 p1 p2 p3 p4 p5 p6 p7 p8 p9
        obtain ⟨p0, p1, p2, p3, p4, p5, p6, p7, p8, p9⟩ := HS.out _ ht4
        clear ht4
        go_wp2_with fail
        refine (HC2.out _ HT4.out.bel hcb).mono ?_
        rintro e w5 ⟨rfl, hb5⟩
        have ht5 := HT4.out.on hb5
        have HT5 := Lib.hid ht5
        clear hb5 p0 p1 p2 p3 p4 p5 p6 p7 p8 p9
        obtain ⟨p0, p1, p2, p3, p4, p5, p6, p7, p8, p9⟩ := HS.out _ ht5
        clear ht5
        go_wp2_with fail
        refine (HH1.out _ HT5.out.bel hca).mono ?_
        rintro e w6 ⟨rfl, hb6⟩
        have ht6 := HT5.out.on hb6
        have HT6 := Lib.hid ht6
        clear hb6 p0 p1 p2 p3 p4 p5 p6 p7 p8 p9
        obtain ⟨p0, p1, p2, p3, p4, p5, p6, p7, p8, p9⟩ := HS.out _ ht6
        clear ht6
        cases Y with
        | false =>
          go_wp2_with fail
          refine (HA.out _ HT6.out.bel).mono ?_
          rintro e w7 ⟨rfl, hb7⟩
          go_wp2_with fail
          go_ret
          exact ⟨rfl, (HT6.out.on hb7).bel⟩
        | true =>
          obtain rfl : Z = true := HZ3.out (by first | exact trivial | rfl)
          go_wp2_with fail
          refine (HH2.out _ HT6.out.bel hcb).mono ?_
          rintro e w7 ⟨rfl, hb7⟩
          have HT7 := Lib.hid (HT6.out.on hb7)
          clear hb7
          go_wp2_with fail
          refine (HA.out _ HT7.out.bel).mono ?_
          rintro e w8 ⟨rfl, hb8⟩
          go_wp2_with fail
          go_ret
          exact ⟨rfl, (HT7.out.on hb8).bel⟩
end Go.Proofs.YtjkbfogjfgnhiaaDoor
