/-
  The walk of the law AccessImplies.
-/
import Derived.Test.YtjkbfogjfgnhiaaDoorAtz
namespace Go.Proofs.YtjkbfogjfgnhiaaDoor
set_option linter.unusedVariables false
set_option linter.unusedSimpArgs false
open Go.RowKit

set_option maxRecDepth 100000 in
set_option maxHeartbeats 6400000 in
theorem law_implies (a b : Cn) (va vb : Value) (w : World) (hka : KL w w.heap.size va a.kids) (hkb : KL w w.heap.size vb b.kids) (hT : Tb w) :
    Calls Tryd.prog 6 #[.agg #[.int .i64 a.op, .int .i64 a.n, va], .agg #[.int .i64 b.op, .int .i64 b.n, vb]] w fun e w' => e = .returned (.bool true) ∧ Below w.heap.size w w' := by
  obtain ⟨A1, c1, rfl, _, _, _⟩ := id hka
  obtain ⟨A2, c2, rfl, _, _, _⟩ := id hkb
  have hb0 := alloc2_below w (bx a.op a.n A1 a.kids.length c1) (bx b.op b.n A2 b.kids.length c2)
  have hsz0 : ((w.alloc (bx a.op a.n A1 a.kids.length c1)).alloc (bx b.op b.n A2 b.kids.length c2)).heap.size = w.heap.size + 1 + 1 := by rw [alloc_size, alloc_size]
  have hk2 := KL.two _ a b A1 A2 c1 c2 (hka.on hb0) (hkb.on hb0)
  have hb3 := alloc_below ((w.alloc (bx a.op a.n A1 a.kids.length c1)).alloc (bx b.op b.n A2 b.kids.length c2)) (bx2 a b A1 c1 A2 c2)
  have htw := (TwoB.start w (bx a.op a.n A1 a.kids.length c1) (bx b.op b.n A2 b.kids.length c2)).on hb3
  have hf := few_any [a, b] _ _ hk2
  rw [hsz0] at hf
  have HF := Lib.hid hf
  have HFE : Hid (([a, b] : List Cn).all fewB = (fewB a && fewB b)) := by show _ = _; simp
  rw [HFE.out] at HF
  have HFA := Lib.hid (few_cnt a)
  have HFB := Lib.hid (few_cnt b)
  have HTW := Lib.hid htw
  have HAT := Lib.hid fun (W : World) (hW : Below w.heap.size w W) (h1 : a.cnt ≤ 400) (h2 : b.cnt ≤ 400) => atoms_any a b _ _ W (hka.on hW) (hkb.on hW) (by omega) (by omega)
  have HP1 := Lib.hid fun (W : World) (hW : Below w.heap.size w W) (h1 : a.cnt ≤ 400) (h2 : b.cnt ≤ 400) => pimp_any a b _ _ W (hka.on hW) (hkb.on hW) (hT.on hW) h1 h2
  have HR1 := Lib.hid fun (W : World) (hW : Below w.heap.size w W) (h1 : a.cnt ≤ 400) (h2 : b.cnt ≤ 400) => rimp_any a b _ _ W (hka.on hW) (hkb.on hW) h1 h2
  have HA := Lib.hid fun (W : World) (hW : Below w.heap.size w W) => works_any W (hT.on hW)
  have HS : Hid (∀ W, TwoB w W (bx a.op a.n A1 a.kids.length c1) (bx b.op b.n A2 b.kids.length c2) → W.cell? ⟨w.heap.size, 0, none⟩ = some (.int .i64 a.op) ∧ W.cell? ⟨w.heap.size, 1, none⟩ = some (.int .i64 a.n) ∧ W.cell? ⟨w.heap.size, 2, none⟩ = some (.slice A1 a.kids.length c1) ∧ W.cell? ⟨w.heap.size + 1, 0, none⟩ = some (.int .i64 b.op) ∧ W.cell? ⟨w.heap.size + 1, 1, none⟩ = some (.int .i64 b.n) ∧ W.cell? ⟨w.heap.size + 1, 2, none⟩ = some (.slice A2 b.kids.length c2)) := fun W hW =>
    ⟨cell_of_row _ _ 0 _ _ _ hW.r0, cell_of_row _ _ 1 _ _ _ hW.r0, cell_of_row _ _ 2 _ _ _ hW.r0, cell_of_row _ _ 0 _ _ _ hW.r1, cell_of_row _ _ 1 _ _ _ hW.r1, cell_of_row _ _ 2 _ _ _ hW.r1⟩
  clear hka hkb hT hb0 hsz0 hk2 hb3 htw hf HFE
  generalize impB a b = X at *
  generalize ((b.atm (a.atm [])).length : Int) = N at *
  generalize hfa : fewB a = FA at *
  generalize hfb : fewB b = FB at *
  clear hfa hfb
  obtain ⟨F, hF⟩ : ∃ F, F = (FA && FB) := ⟨_, rfl⟩
  rw [← hF] at HF
  have HFF := Lib.hid hF
  clear hF
  go_enter Tryd.func6, Tryd.ntmps6
  go_wp2_with fail
  refine HF.out.mono ?_
  rintro e w1 ⟨rfl, hb1⟩
  have ht1 := HTW.out.on hb1
  obtain ⟨p0, p1, p2, p3, p4, p5⟩ := HS.out _ ht1
  have HT1 := Lib.hid ht1
  clear hb1 ht1
  cases F with
  | false =>
    go_wp2_with fail
    refine (HA.out _ HT1.out.bel).mono ?_
    rintro e w2 ⟨rfl, hb2⟩
    go_wp2_with fail
    go_ret
    exact ⟨rfl, (HT1.out.on hb2).bel⟩
  | true =>
    have hff : FA = true ∧ FB = true := by have := HFF.out; simpa using this.symm
    have hca : a.cnt ≤ 400 := by have := HFA.out hff.1; omega
    have hcb : b.cnt ≤ 400 := by have := HFB.out hff.2; omega
    clear hff
    go_wp2_with fail
    refine (HAT.out _ HT1.out.bel hca hcb).mono ?_
    rintro e w2 ⟨rfl, hb2⟩
    have ht2 := HT1.out.on hb2
    have HT2 := Lib.hid ht2
    clear hb2 p0 p1 p2 p3 p4 p5
    by_cases hN : 12 < N
    · clear ht2
      go_wp2_with fail
      refine (HA.out _ HT2.out.bel).mono ?_
      rintro e w3 ⟨rfl, hb3⟩
      go_wp2_with fail
      go_ret
      exact ⟨rfl, (HT2.out.on hb3).bel⟩
    · have hN2 : decide (12 < N) = false := decide_eq_false hN
      have htd := ht2.drew
      clear ht2
      cases X <;> (
        go_wp2_with fail
        go_region_held3 (fun w' => w'.cell? ⟨w.heap.size, 0, none⟩ = some (.int .i64 a.op) ∧ w'.cell? ⟨w.heap.size, 1, none⟩ = some (.int .i64 a.n) ∧ w'.cell? ⟨w.heap.size, 2, none⟩ = some (.slice A1 a.kids.length c1) ∧ w'.cell? ⟨w.heap.size + 1, 0, none⟩ = some (.int .i64 b.op) ∧ w'.cell? ⟨w.heap.size + 1, 1, none⟩ = some (.int .i64 b.n) ∧ w'.cell? ⟨w.heap.size + 1, 2, none⟩ = some (.slice A2 b.kids.length c2))
          (first
            | (go_keep; done)
            | exact HS.out _ htd
            | exact HS.out _ ht3
            | exact HS.out _ ht4
            | exact HS.out _ ht5)
          (first
            | (go_at_call 27; (with_reducible refine (HP1.out _ htd.bel hca hcb).mono ?_); rintro e w3 ⟨rfl, hb3⟩; have ht3 := htd.on hb3; clear hb3)
            | (go_at_call 28; (with_reducible refine (HR1.out _ ht3.bel hca hcb).mono ?_); rintro e w4 ⟨rfl, hb4⟩; have ht4 := ht3.on hb4; clear hb4)
            | (go_at_call 16; (with_reducible refine (HA.out _ ht4.bel).mono ?_); rintro e w5 ⟨rfl, hb5⟩; have ht5 := ht4.on hb5; clear hb5))
        go_wp2_with fail
        go_ret
        exact ⟨rfl, ht5.bel⟩)
end Go.Proofs.YtjkbfogjfgnhiaaDoor
