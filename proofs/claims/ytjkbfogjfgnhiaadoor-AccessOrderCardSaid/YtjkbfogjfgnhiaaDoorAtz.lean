/-
  The walk of the reference's Implies; Implies of both is the same.
-/
import Derived.Test.YtjkbfogjfgnhiaaDoorAty
namespace Go.Proofs.YtjkbfogjfgnhiaaDoor
set_option linter.unusedVariables false
set_option linter.unusedSimpArgs false
open Go.RowKit

set_option maxRecDepth 100000 in
set_option maxHeartbeats 3200000 in
theorem rimp_no1 (a b : Cn) (va vb : Value) (w : World) (ha : KL w w.heap.size va a.kids) (hb : KL w w.heap.size vb b.kids) (hc : a.cnt ≤ 400) (hca : chkC 1 3 a ≠ 0) :
    Calls Tryd.prog 28 #[.agg #[.int .i64 a.op, .int .i64 a.n, va], .agg #[.int .i64 b.op, .int .i64 b.n, vb]] w fun e w' => e = .returned (.bool false) ∧ Below w.heap.size w w' := by
  obtain ⟨A1, c1, rfl, _, _, _⟩ := id ha
  obtain ⟨A2, c2, rfl, _, _, _⟩ := id hb
  have h2 := alloc2_below w (bx a.op a.n A1 a.kids.length c1) (bx b.op b.n A2 b.kids.length c2)
  have HQ1 := Lib.hid (rchk_any a _ _ (ha.on h2) hc)
  have HA2 := Lib.hid h2
  have hv := chk_vals a
  clear h2 ha hb
  generalize chkC 1 3 a = X at *
  rcases hv with rfl | rfl | rfl
  · exact absurd rfl hca
  all_goals
    clear hca
    go_enter Tryd.func28, Tryd.ntmps28
    go_wp2_with fail
    refine HQ1.out.mono ?_
    rintro e w1 ⟨rfl, hb1⟩
    go_wp2_with fail
    go_ret
    exact ⟨rfl, HA2.out.trans (hb1.mono HA2.out.size)⟩

set_option maxRecDepth 100000 in
set_option maxHeartbeats 3200000 in
theorem rimp_no2 (a b : Cn) (va vb : Value) (w : World) (ha : KL w w.heap.size va a.kids) (hb : KL w w.heap.size vb b.kids) (hc : b.cnt ≤ 400) (hca : chkC 1 3 a = 0) (hcb : chkC 1 3 b ≠ 0) :
    Calls Tryd.prog 28 #[.agg #[.int .i64 a.op, .int .i64 a.n, va], .agg #[.int .i64 b.op, .int .i64 b.n, vb]] w fun e w' => e = .returned (.bool false) ∧ Below w.heap.size w w' := by
  have hla := chk_len hca
  obtain ⟨A1, c1, rfl, _, _, _⟩ := id ha
  obtain ⟨A2, c2, rfl, _, _, _⟩ := id hb
  have h2 := alloc2_below w (bx a.op a.n A1 a.kids.length c1) (bx b.op b.n A2 b.kids.length c2)
  have hn0 := heap_alloc_new (w.alloc (bx a.op a.n A1 a.kids.length c1)) (bx b.op b.n A2 b.kids.length c2)
  rw [alloc_size] at hn0
  have hsz : ((w.alloc (bx a.op a.n A1 a.kids.length c1)).alloc (bx b.op b.n A2 b.kids.length c2)).heap.size = w.heap.size + 2 := by rw [alloc_size, alloc_size]
  have HQ1 := Lib.hid (rchk_any a _ _ (ha.on h2) (by omega))
  rw [hca] at HQ1
  have HA2 := Lib.hid h2
  have HN0 := Lib.hid hn0
  have HKB := Lib.hid (hb.on h2)
  have HLT1 := Lib.hid (show w.heap.size + 1 < ((w.alloc (bx a.op a.n A1 a.kids.length c1)).alloc (bx b.op b.n A2 b.kids.length c2)).heap.size by rw [hsz]; omega)
  have HCK := Lib.hid fun (W : World) (hk : KL W W.heap.size (.slice A2 b.kids.length c2) b.kids) => rchk_any b _ W hk hc
  have hv := chk_vals b
  clear h2 hn0 hsz ha hb hca hla
  generalize chkC 1 3 b = X at *
  rcases hv with rfl | rfl | rfl
  · exact absurd rfl hcb
  all_goals
    clear hcb
    go_enter Tryd.func28, Tryd.ntmps28
    go_wp2_with fail
    refine HQ1.out.mono ?_
    rintro e w1 ⟨rfl, hb1⟩
    have k0 := (hb1.block (w.heap.size + 1) HLT1.out).trans HN0.out
    have p0 := cell_of_row _ _ 0 _ _ _ k0
    have p1 := cell_of_row _ _ 1 _ _ _ k0
    have p2 := cell_of_row _ _ 2 _ _ _ k0
    have HQ2 := Lib.hid (HCK.out w1 (HKB.out.on hb1))
    have HB1 := Lib.hid hb1
    clear hb1 k0
    go_wp2_with fail
    refine HQ2.out.mono ?_
    rintro e w2 ⟨rfl, hb2⟩
    go_wp2_with fail
    go_ret
    exact ⟨rfl, HA2.out.trans ((HB1.out.trans (hb2.mono HB1.out.size)).mono HA2.out.size)⟩


theorem impRef_yes {a b : Cn} (h1 : chkC 1 3 a = 0) (h2 : chkC 1 3 b = 0) : impB a b = impR a b (b.atm (a.atm [])) Sc.zero := by
  rw [imp_ref]; unfold impRef; rw [decide_eq_true h1, decide_eq_true h2, Bool.true_and, Bool.true_and]
set_option maxRecDepth 100000 in
set_option maxHeartbeats 6400000 in
theorem rimp_yes (a b : Cn) (va vb : Value) (w : World) (ha : KL w w.heap.size va a.kids) (hb : KL w w.heap.size vb b.kids) (hca : chkC 1 3 a = 0) (hcb : chkC 1 3 b = 0) :
    Calls Tryd.prog 28 #[.agg #[.int .i64 a.op, .int .i64 a.n, va], .agg #[.int .i64 b.op, .int .i64 b.n, vb]] w fun e w' => e = .returned (.bool (impB a b)) ∧ Below w.heap.size w w' := by
  rw [impRef_yes hca hcb]
  have hla := chk_len hca
  have hlb := chk_len hcb
  have hoa := chk_ok hca
  have hob := chk_ok hcb
  obtain ⟨A1, c1, rfl, _, _, _⟩ := id ha
  obtain ⟨A2, c2, rfl, _, _, _⟩ := id hb
  have hl1 := Cn.atm_len a []
  have hl2 := Cn.atm_len b (a.atm [])
  have hao := Cn.atm_ok b _ hob (Cn.atm_ok a [] hoa ⟨by simp, List.nodup_nil⟩)
  have htw := (TwoB.start w (bx a.op a.n A1 a.kids.length c1) (bx b.op b.n A2 b.kids.length c2))
  have HK1 := Lib.hid fun (W : World) (hW : Below w.heap.size w W) => rchk_any a (.slice A1 a.kids.length c1) W (ha.on hW) (by omega)
  rw [hca] at HK1
  have HK2 := Lib.hid fun (W : World) (hW : Below w.heap.size w W) => rchk_any b (.slice A2 b.kids.length c2) W (hb.on hW) (by omega)
  rw [hcb] at HK2
  have HQ1 := Lib.hid fun (W : World) (hW : Below w.heap.size w W) => atm_any (a.dep + 1) a (by omega) [] (.slice A1 a.kids.length c1) (.slice none 0 0) w.heap.size W (ha.below hW) (OAt.nil _ _) hW.size (by simp; omega)
  have HQ2 := Lib.hid fun (W : World) (hW : Below w.heap.size w W) (v : Value) (ho : OAt W w.heap.size v (a.atm [])) => atm_any (b.dep + 1) b (by omega) (a.atm []) (.slice A2 b.kids.length c2) v w.heap.size W (hb.below hW) ho hW.size (by simp at hl1; omega)
  have HQ3 := Lib.hid fun (W : World) (hW : Below w.heap.size w W) (v : Value) (ho : OAt W w.heap.size v (b.atm (a.atm []))) => impd_any a b hoa hob (b.atm (a.atm [])) Sc.zero (.slice A1 a.kids.length c1) (.slice A2 b.kids.length c2) v W hao.1 (by unfold Sc.bd Sc.zero; simp at hl1; simp only; omega) (ha.on hW) (hb.on hW) ho.al
  have hz0 : Sc.zero.pins = 0 := rfl
  have hz1 : Sc.zero.keys = 0 := rfl
  have hz2 : Sc.zero.state = 0 := rfl
  have hz3 : Sc.zero.level = 0 := rfl
  simp only [hz0, hz1, hz2, hz3] at HQ3
  clear hz0 hz1 hz2 hz3
  have HS : Hid (∀ W, TwoB w W (bx a.op a.n A1 a.kids.length c1) (bx b.op b.n A2 b.kids.length c2) → W.cell? ⟨w.heap.size, 0, none⟩ = some (.int .i64 a.op) ∧ W.cell? ⟨w.heap.size, 1, none⟩ = some (.int .i64 a.n) ∧ W.cell? ⟨w.heap.size, 2, none⟩ = some (.slice A1 a.kids.length c1) ∧ W.cell? ⟨w.heap.size + 1, 0, none⟩ = some (.int .i64 b.op) ∧ W.cell? ⟨w.heap.size + 1, 1, none⟩ = some (.int .i64 b.n) ∧ W.cell? ⟨w.heap.size + 1, 2, none⟩ = some (.slice A2 b.kids.length c2)) := fun W hW =>
    ⟨cell_of_row _ _ 0 _ _ _ hW.r0, cell_of_row _ _ 1 _ _ _ hW.r0, cell_of_row _ _ 2 _ _ _ hW.r0, cell_of_row _ _ 0 _ _ _ hW.r1, cell_of_row _ _ 1 _ _ _ hW.r1, cell_of_row _ _ 2 _ _ _ hW.r1⟩
  have HNV : Hid (∀ m, (Value.slice none 0 0).ownBlock = some m → w.heap.size + 2 ≤ m) := fun m hm => by cases hm
  have HTW := Lib.hid htw
  clear ha hb hl1 hl2 htw hla hlb hoa hob hao hca hcb
  generalize impR a b (b.atm (a.atm [])) Sc.zero = X at *
  generalize b.atm (a.atm []) = L2 at *
  generalize a.atm [] = L1 at *
  go_enter Tryd.func28, Tryd.ntmps28
  go_wp2_with fail
  refine (HK1.out _ HTW.out.bel).mono ?_
  rintro e w1 ⟨rfl, hb1⟩
  have ht1 := HTW.out.on hb1
  obtain ⟨p0, p1, p2, p3, p4, p5⟩ := HS.out _ ht1
  have HT1 := Lib.hid ht1
  clear hb1 ht1
  go_wp2_with fail
  refine (HK2.out _ HT1.out.bel).mono ?_
  rintro e w2 ⟨rfl, hb2⟩
  have ht2 := HT1.out.on hb2
  clear hb2 p0 p1 p2 p3 p4 p5
  have htd := ht2.drew
  go_wp2_with fail
  go_region_held3 (fun w' => w'.cell? ⟨w.heap.size, 0, none⟩ = some (.int .i64 a.op) ∧ w'.cell? ⟨w.heap.size, 1, none⟩ = some (.int .i64 a.n) ∧ w'.cell? ⟨w.heap.size, 2, none⟩ = some (.slice A1 a.kids.length c1) ∧ w'.cell? ⟨w.heap.size + 1, 0, none⟩ = some (.int .i64 b.op) ∧ w'.cell? ⟨w.heap.size + 1, 1, none⟩ = some (.int .i64 b.n) ∧ w'.cell? ⟨w.heap.size + 1, 2, none⟩ = some (.slice A2 b.kids.length c2))
    (first
      | (go_keep; done)
      | exact HS.out _ htd
      | exact HS.out _ ht3
      | exact HS.out _ ht4
      | exact HS.out _ ht5)
    (first
      | (go_at_call 48; (with_reducible refine (HQ1.out _ htd.bel).mono ?_); rintro e w3 ⟨v3, rfl, ho3, hb3, hk3⟩; obtain ⟨A3, c3, rfl⟩ := ho3.value; have ht3 := htd.step hb3 hk3 HNV.out; have hn3 := htd.own hk3 HNV.out; have HO3 := Lib.hid ho3; have HN3 := Lib.hid hn3; clear hb3 hk3 ho3 hn3)
      | (go_at_call 48; (with_reducible refine (HQ2.out _ ht3.bel _ HO3.out).mono ?_); rintro e w4 ⟨v4, rfl, ho4, hb4, hk4⟩; obtain ⟨A4, c4, rfl⟩ := ho4.value; have ht4 := ht3.step hb4 hk4 HN3.out; have HO4 := Lib.hid ho4; clear hb4 hk4 ho4)
      | (go_at_call 52; (with_reducible refine (HQ3.out _ ht4.bel _ HO4.out).mono ?_); rintro e w5 ⟨rfl, hb5⟩; have ht5 := ht4.on hb5; clear hb5))
  go_wp2_with fail
  go_ret
  exact ⟨rfl, ht5.bel⟩

/-- Implies of the reference. -/
theorem rimp_any (a b : Cn) (va vb : Value) (w : World) (ha : KL w w.heap.size va a.kids) (hb : KL w w.heap.size vb b.kids) (hca : a.cnt ≤ 400) (hcb : b.cnt ≤ 400) :
    Calls Tryd.prog 28 #[.agg #[.int .i64 a.op, .int .i64 a.n, va], .agg #[.int .i64 b.op, .int .i64 b.n, vb]] w fun e w' => e = .returned (.bool (impB a b)) ∧ Below w.heap.size w w' := by
  by_cases h1 : chkC 1 3 a = 0
  · by_cases h2 : chkC 1 3 b = 0
    · exact rimp_yes a b va vb w ha hb h1 h2
    · rw [impB_no2 h2]; exact rimp_no2 a b va vb w ha hb hcb h1 h2
  · rw [impB_no1 h1]; exact rimp_no1 a b va vb w ha hb hca h1
end Go.Proofs.YtjkbfogjfgnhiaaDoor
