
/-
  The walk of the program's Decode.
-/
import Derived.Test.YtijiggfeamibkaaDoorPar
namespace Go.Proofs.YtijiggfeamibkaaDoor
set_option linter.unusedVariables false
set_option linter.unusedSimpArgs false
open Go.RowKit

/-- What Decode returns. -/
def BdeR (k : Int) (l : List UInt8) (w : World) (e : Ending) (w' : World) : Prop :=
  ∃ v', e = .returned (.tuple #[(bdeV k l).val v', .int .i64 (bdeE k l)]) ∧ SL w' w'.heap.size v' (bdeV k l).inf ∧ Below w.heap.size w w'
theorem results_cell2 {P : Program} {fn : Func} {p u : Tmp} {ty : TypeId} (h : fn.results = #[.cell p ty, .tmp u]) (tmps : Array Value) (w : World) (g : Nat) (t : TypeId) (cs : Array Value) (fr : Nat × Nat) (d : TypeDesc)
    (hp : tmps.getD p undef = .pointer (some ⟨g, 0, none⟩)) (hg : w.heap[g]? = some (.cells cs t fr))
    (hu : P.underlying ty = some d) (hd : (match d with | .struct _ | .array _ _ => true | _ => false) = true) (hi : (P.info? ty).map (·.size) = some cs.size) :
    (results fn tmps).run P w = .ok (.tuple #[.agg cs, tmps.getD u undef]) w := by
  have hp' : tmps[p]?.getD undef = .pointer (some ⟨g, 0, none⟩) := by simpa using hp
  simp [results, h, hp', asAddr, run_loadVar_row w g t ty cs fr d hg hu hd hi]
theorem row7_set (w : World) (g : Nat) (ty : TypeId) (a0 a1 a2 a3 a4 a5 a6 x0 x1 x2 x3 x4 x5 x6 : Value) (hg : w.heap[g]? = some (.cells #[a0, a1, a2, a3, a4, a5, a6] ty (0, 0))) :
    (((((((w.setCell ⟨g, 0, none⟩ x0).setCell ⟨g, 1, none⟩ x1).setCell ⟨g, 2, none⟩ x2).setCell ⟨g, 3, none⟩ x3).setCell ⟨g, 4, none⟩ x4).setCell ⟨g, 5, none⟩ x5).setCell ⟨g, 6, none⟩ x6).heap[g]? = some (.cells #[x0, x1, x2, x3, x4, x5, x6] ty (0, 0)) := by
  have h0 := heap_setCell_same w g 0 _ ty x0 hg
  have h1 := heap_setCell_same _ g 1 _ ty x1 h0
  have h2 := heap_setCell_same _ g 2 _ ty x2 h1
  have h3 := heap_setCell_same _ g 3 _ ty x3 h2
  have h4 := heap_setCell_same _ g 4 _ ty x4 h3
  have h5 := heap_setCell_same _ g 5 _ ty x5 h4
  have h6 := heap_setCell_same _ g 6 _ ty x6 h5
  rw [h6]
  simp
theorem below7 {w w' : World} (h : Below w.heap.size w w') (x0 x1 x2 x3 x4 x5 x6 : Value) :
    Below w.heap.size w (((((((w'.setCell ⟨w.heap.size, 0, none⟩ x0).setCell ⟨w.heap.size, 1, none⟩ x1).setCell ⟨w.heap.size, 2, none⟩ x2).setCell ⟨w.heap.size, 3, none⟩ x3).setCell ⟨w.heap.size, 4, none⟩ x4).setCell ⟨w.heap.size, 5, none⟩ x5).setCell ⟨w.heap.size, 6, none⟩ x6) :=
  ((((((h.setCell (p := ⟨w.heap.size, 0, none⟩) (Nat.le_refl _) _).setCell (p := ⟨w.heap.size, 1, none⟩) (Nat.le_refl _) _).setCell (p := ⟨w.heap.size, 2, none⟩) (Nat.le_refl _) _).setCell (p := ⟨w.heap.size, 3, none⟩) (Nat.le_refl _) _).setCell (p := ⟨w.heap.size, 4, none⟩) (Nat.le_refl _) _).setCell (p := ⟨w.heap.size, 5, none⟩) (Nat.le_refl _) _).setCell (p := ⟨w.heap.size, 6, none⟩) (Nat.le_refl _) _
/-- Seven cells set in a block that does not hold what a slice reads. -/
theorem sl_set7 {w : World} {g : Nat} {v : Value} {l : List UInt8} (x0 x1 x2 x3 x4 x5 x6 : Value) (h : SL w w.heap.size v l) (hfar : 0 < l.length → ∀ b o n c, v = .slice (some ⟨b, o, none⟩) n c → b ≠ g) :
    SL (((((((w.setCell ⟨g, 0, none⟩ x0).setCell ⟨g, 1, none⟩ x1).setCell ⟨g, 2, none⟩ x2).setCell ⟨g, 3, none⟩ x3).setCell ⟨g, 4, none⟩ x4).setCell ⟨g, 5, none⟩ x5).setCell ⟨g, 6, none⟩ x6) w.heap.size v l := by
  obtain ⟨A, c, rfl, h1, h2, h3⟩ := h
  refine ⟨A, c, rfl, h1, h2, fun hp => ?_⟩
  obtain ⟨b, o, rfl, hb, hc⟩ := h3 hp
  have hne := hfar hp b o _ _ rfl
  refine ⟨b, o, rfl, hb, fun k hk => ?_⟩
  rw [far_set _ _ hne, far_set _ _ hne, far_set _ _ hne, far_set _ _ hne, far_set _ _ hne, far_set _ _ hne, far_set _ _ hne]
  exact hc k hk
theorem size_set7 (w : World) (g : Nat) (x0 x1 x2 x3 x4 x5 x6 : Value) : (((((((w.setCell ⟨g, 0, none⟩ x0).setCell ⟨g, 1, none⟩ x1).setCell ⟨g, 2, none⟩ x2).setCell ⟨g, 3, none⟩ x3).setCell ⟨g, 4, none⟩ x4).setCell ⟨g, 5, none⟩ x5).setCell ⟨g, 6, none⟩ x6).heap.size = w.heap.size := by simp
theorem pcomp_any (n : Int) (K : Kd) (A : Option Addr) (k c : Nat) (l : List UInt8) (w : World) : Calls Tryd.prog 19 #[.int .i64 n, K.val, .slice A k c] w fun e w' => e = .returned ((compB n K l).val (.slice A k c)) ∧ Below w.heap.size w w' := by
  cases K with
  | inf s m => exact pcomp_inf n s m A k c l w
  | rdy s t => exact pcomp_rdy n s t A k c l w
  | sup t a => exact pcomp_sup n t a A k c l w
theorem comp_nad (n : Int) (K : Kd) (l : List UInt8) : (compB n K l).nad = n := by cases K <;> rfl
theorem not_zero_block {W : World} {g b o : Nat} {n : Int} (hz : W.heap[g]? = some (.cells #[.int .i64 0, .int .i64 0, .int .i64 0, .bool false, .int .i64 0, .bool false, .slice none 0 0] 24 (0, 0))) (hc : W.cell? ⟨b, o, none⟩ = some (.int .u8 n)) : b ≠ g := by
  rintro rfl
  rw [cell_of_row W b o _ 24 (0, 0) hz] at hc
  match o, hc with
  | 0, h | 1, h | 2, h | 3, h | 4, h | 5, h | 6, h => simp at h
  | o + 7, h => simp at h
theorem comp_inf (n : Int) (K : Kd) (l : List UInt8) : (compB n K l).inf = l := by cases K <;> rfl

theorem bdeV_no {k : Int} {l : List UInt8} (h : bdeE k l ≠ 0) : bdeV k l = zeroB := by rw [bdeV, if_neg h]
set_option maxRecDepth 100000 in
set_option maxHeartbeats 1600000 in
theorem pbde_1 (k : Int) (l : List UInt8) (v : Value) (w : World) (hv : SL w w.heap.size v l) (hk : sizeK k = 0) : Calls Tryd.prog 17 #[v, .int .i64 k] w (BdeR k l w) := by
  have HE : Hid (bdeE k l = 1) := by show _ = _; rw [bdeE, if_pos hk]
  have HVV : Hid (bdeV k l = zeroB) := bdeV_no (by rw [HE.out]; decide)
  have HS := psize_any k
  rw [hk] at HS
  have HS := Lib.hid HS
  obtain ⟨A, c, rfl, _, _, _⟩ := hv
  clear hk
  go_enter Tryd.func17, Tryd.ntmps17
  go_wp2_with fail
  refine (HS.out _).mono ?_
  rintro e w1 ⟨rfl, rfl⟩
  go_wp2_with fail
  exact bodyPost_ret (results_cell2 rfl _ _ w.heap.size 24 _ (0, 0) _ rfl (heap_alloc_new w _) Tryd.underlying24 rfl (by kernel_rfl)) rfl ⟨.slice none 0 0, by rw [HE.out, HVV.out]; rfl, by rw [HVV.out]; exact SL.nil _ _ _ _ (Nat.zero_le _), alloc_below _ _⟩
set_option maxRecDepth 100000 in
set_option maxHeartbeats 1600000 in
theorem pbde_2 (k : Int) (l : List UInt8) (v : Value) (w : World) (hv : SL w w.heap.size v l) (hk : sizeK k ≠ 0) (h3 : l.length < 3 + sizeK k) : Calls Tryd.prog 17 #[v, .int .i64 k] w (BdeR k l w) := by
  have HE : Hid (bdeE k l = 5) := by show _ = _; rw [bdeE, if_neg hk, if_pos h3]
  have HVV : Hid (bdeV k l = zeroB) := bdeV_no (by rw [HE.out]; decide)
  have HS := psize_any k
  have hk0 : ((sizeK k : Int) == 0) = false := by rw [beq_eq_false_iff_ne]; omega
  have hs2 := sizeK_le k
  have hlt : decide ((l.length : Int) < 3 + (sizeK k : Int)) = true := by rw [decide_eq_true_iff]; omega
  generalize sizeK k = sz at *
  have HS := Lib.hid HS
  obtain ⟨A, c, rfl, _, _, _⟩ := hv
  clear hk h3
  go_enter Tryd.func17, Tryd.ntmps17
  go_wp2_with fail
  refine (HS.out _).mono ?_
  rintro e w1 ⟨rfl, rfl⟩
  go_wp2_with fail
  exact bodyPost_ret (results_cell2 rfl _ _ w.heap.size 24 _ (0, 0) _ rfl (heap_alloc_new w _) Tryd.underlying24 rfl (by kernel_rfl)) rfl ⟨.slice none 0 0, by rw [HE.out, HVV.out]; rfl, by rw [HVV.out]; exact SL.nil _ _ _ _ (Nat.zero_le _), alloc_below _ _⟩

set_option maxRecDepth 100000 in
set_option maxHeartbeats 1600000 in
theorem pbde_3 (k : Int) (l : List UInt8) (v : Value) (w : World) (hv : SL w w.heap.size v l) (hT : Tb w) (hl : l.length ≤ 1000) (hk : sizeK k ≠ 0) (h3 : ¬ l.length < 3 + sizeK k) (hr : remE k l ≠ 0) : Calls Tryd.prog 17 #[v, .int .i64 k] w (BdeR k l w) := by
  have HE : Hid (bdeE k l = remE k l) := by show _ = _; rw [bdeE, if_neg hk, if_neg h3, if_pos hr]
  have HVV : Hid (bdeV k l = zeroB) := bdeV_no (by rw [HE.out]; exact hr)
  have HS := psize_any k
  have HV := Lib.hid hv
  have HRM := fun (W : World) (hW : Below w.heap.size w W) => prem_any k l _ W (HV.out.on hW) (hT.on hW) hl
  unfold RemR at HRM
  have hk0 : ((sizeK k : Int) == 0) = false := by rw [beq_eq_false_iff_ne]; omega
  have hs2 := sizeK_le k
  have hlt : decide ((l.length : Int) < 3 + (sizeK k : Int)) = false := by rw [decide_eq_false_iff_not]; omega
  have hr0 : (remE k l != 0) = true := by rw [bne_iff_ne]; exact hr
  generalize remE k l = re at *
  have HRM := Lib.hid HRM
  generalize sizeK k = sz at *
  have HS := Lib.hid HS
  have HT := Lib.hid hT
  obtain ⟨A, c, rfl, _, _, _⟩ := hv
  clear hk hT hr h3
  go_enter Tryd.func17, Tryd.ntmps17
  go_wp2_with fail
  refine (HS.out _).mono ?_
  rintro e w1 ⟨rfl, rfl⟩
  go_wp2_with fail
  refine (HRM.out _ (alloc_below _ _)).mono ?_
  rintro e w1 ⟨v1, rfl, hv1, hb1⟩
  have hz1 := (hb1.block _ (by rw [alloc_size]; omega)).trans (heap_alloc_new w _)
  have hw1 := below_alloc2 hb1
  have q0 := cell_of_row _ _ 0 _ _ _ hz1
  have q1 := cell_of_row _ _ 1 _ _ _ hz1
  have q2 := cell_of_row _ _ 2 _ _ _ hz1
  have q3 := cell_of_row _ _ 3 _ _ _ hz1
  have q4 := cell_of_row _ _ 4 _ _ _ hz1
  have q5 := cell_of_row _ _ 5 _ _ _ hz1
  have q6 := cell_of_row _ _ 6 _ _ _ hz1
  have r0 := frozen_of_row _ _ 0 _ _ hz1
  have r1 := frozen_of_row _ _ 1 _ _ hz1
  have r2 := frozen_of_row _ _ 2 _ _ hz1
  have r3 := frozen_of_row _ _ 3 _ _ hz1
  have r4 := frozen_of_row _ _ 4 _ _ hz1
  have r5 := frozen_of_row _ _ 5 _ _ hz1
  have r6 := frozen_of_row _ _ 6 _ _ hz1
  have HZ1 := Lib.hid hz1
  clear hz1 hb1
  go_wp2_with fail
  exact bodyPost_ret (results_cell2 rfl _ _ w.heap.size 24 _ (0, 0) _ rfl (row7_set _ _ _ _ _ _ _ _ _ _ _ _ _ _ _ _ _ HZ1.out) Tryd.underlying24 rfl (by kernel_rfl)) rfl ⟨.slice none 0 0, by rw [HE.out, HVV.out]; rfl, by rw [HVV.out]; exact SL.nil _ _ _ _ (Nat.zero_le _), below7 hw1 _ _ _ _ _ _ _⟩

set_option maxRecDepth 100000 in
set_option maxHeartbeats 1600000 in
theorem pbde_4 (k : Int) (l : List UInt8) (v : Value) (w : World) (hv : SL w w.heap.size v l) (hT : Tb w) (hl : l.length ≤ 1000) (hk : sizeK k ≠ 0) (h3 : ¬ l.length < 3 + sizeK k) (d : List UInt8) (n : Nat) (hn : d.length = n + 3) (hr : remE k l = 0) (hd : remV k l = d) : Calls Tryd.prog 17 #[v, .int .i64 k] w (BdeR k l w) := by
  have HCE0 : bdeE k l = if okC (d.getD 1 0).toNat = true ∧ (d.getD 2 0).toNat = n then chkB (compB ((d.getD 0 0).toNat : Int) (kdC (d.getD 1 0).toNat) (d.drop 3)) else 4 := by
    rw [bdeE, if_neg hk, if_neg h3, if_neg (by omega), hd, cutE, hn, Nat.add_sub_cancel]; rfl
  have HCV0 : bdeE k l = 0 → bdeV k l = compB ((d.getD 0 0).toNat : Int) (kdC (d.getD 1 0).toNat) (d.drop 3) := fun h => by rw [bdeV, if_pos h, hd]; rfl
  have HS := psize_any k
  have HV := Lib.hid hv
  have HRM := fun (W : World) (hW : Below w.heap.size w W) => prem_any k l _ W (HV.out.on hW) (hT.on hW) hl
  unfold RemR at HRM
  have hk0 : ((sizeK k : Int) == 0) = false := by rw [beq_eq_false_iff_ne]; omega
  have hs2 := sizeK_le k
  have hlt : decide ((l.length : Int) < 3 + (sizeK k : Int)) = false := by rw [decide_eq_false_iff_not]; omega
  rw [hr, hd] at HRM
  have HRM := Lib.hid HRM
  generalize sizeK k = sz at *
  have HS := Lib.hid HS
  have HT := Lib.hid hT
  obtain ⟨A, c, rfl, _, _, _⟩ := hv
  clear hk hT hr h3
  go_enter Tryd.func17, Tryd.ntmps17
  go_wp2_with fail
  refine (HS.out _).mono ?_
  rintro e w1 ⟨rfl, rfl⟩
  go_wp2_with fail
  refine (HRM.out _ (alloc_below _ _)).mono ?_
  rintro e w1 ⟨v1, rfl, hv1, hb1⟩
  have HZ1 := Lib.hid ((hb1.block _ (by rw [alloc_size]; omega)).trans (heap_alloc_new w _))
  have HW1 := Lib.hid (below_alloc2 hb1)
  have hs1 : w.heap.size < w1.heap.size := by have := hb1.size; rw [alloc_size] at this; omega
  clear hb1
  obtain ⟨A1, c1, rfl, e1, e2, e3⟩ := hv1
  unfold maxLen at e2
  obtain ⟨b1, o1, rfl, eb, ec⟩ := e3 (by omega)
  have g0 : w1.cell? ⟨b1, o1, none⟩ = some (.int .u8 ((d.getD 0 0).toNat : Int)) := ec 0 (by omega)
  have g1 : w1.cell? ⟨b1, o1 + 1, none⟩ = some (.int .u8 ((d.getD 1 0).toNat : Int)) := ec 1 (by omega)
  have g2 : w1.cell? ⟨b1, o1 + 2, none⟩ = some (.int .u8 ((d.getD 2 0).toNat : Int)) := ec 2 (by omega)
  obtain ⟨cc, rfl⟩ : ∃ cc, c1 = cc + 3 := ⟨c1 - 3, by omega⟩
  have HINF : Hid (SL w1 w1.heap.size (.slice (some ⟨b1, if cc = 0 then o1 else o1 + 3, none⟩) n cc) (d.drop 3)) := by
    refine ⟨_, cc, by rw [List.length_drop]; congr 1; omega, by rw [List.length_drop]; omega, by unfold maxLen; omega, fun hp => ?_⟩
    rw [List.length_drop] at hp
    rw [if_neg (show ¬ cc = 0 by omega)]
    refine ⟨b1, o1 + 3, rfl, eb, fun j hj => ?_⟩
    rw [List.length_drop] at hj
    rw [Nat.add_assoc, ec _ (by omega)]
    simp [List.getD, List.getElem?_drop]
  have HLEN := Lib.hid hn
  rw [hn]
  have hn3 : n ≤ cc := by omega
  clear e1 e2 e3 ec hn
  generalize d.getD 0 0 = x0 at *
  generalize d.getD 1 0 = x1 at *
  generalize d.getD 2 0 = x2 at *
  have hx0 := x0.toNat_lt
  have hx2 := x2.toNat_lt
  have HCE := Lib.hid HCE0
  have HCV := Lib.hid HCV0
  clear HCE0 HCV0
  by_cases hcc : cc = 0
  · subst hcc
    obtain rfl : n = 0 := by omega
    have HI := HINF.out
    rw [if_pos rfl] at HI
    have HI := Lib.hid HI
    clear HINF
    go_wp2_with fail
    refine (ppar_any x1 w1).mono ?_
    rintro e w2 ⟨rfl, hb2⟩
    have hi2 := HI.out.on hb2
    have g0' := (hb2.cell (p := ⟨b1, o1, none⟩) eb).trans g0
    have g2' := (hb2.cell (p := ⟨b1, o1 + 2, none⟩) eb).trans g2
    have HZ2 := Lib.hid ((hb2.block _ hs1).trans HZ1.out)
    have HW2 := Lib.hid (HW1.out.trans (hb2.mono HW1.out.size))
    have hs2 : w.heap.size < w2.heap.size := by have := hb2.size; omega
    have eb2 : b1 < w2.heap.size := by have := hb2.size; omega
    have HFAR := Lib.hid (not_zero_block HZ2.out g0')
    have HI2 := Lib.hid hi2
    clear hb2 hi2 g0 g1 g2 hs1 eb
    cases hok : okC x1.toNat
    · have HE : Hid (bdeE k l = 4) := by show _ = _; rw [HCE.out, if_neg (by rw [hok]; simp)]
      have HVV : Hid (bdeV k l = zeroB) := bdeV_no (by rw [HE.out]; decide)
      clear hok
      have q0 := cell_of_row _ _ 0 _ _ _ HZ2.out
      have q1 := cell_of_row _ _ 1 _ _ _ HZ2.out
      have q2 := cell_of_row _ _ 2 _ _ _ HZ2.out
      have q3 := cell_of_row _ _ 3 _ _ _ HZ2.out
      have q4 := cell_of_row _ _ 4 _ _ _ HZ2.out
      have q5 := cell_of_row _ _ 5 _ _ _ HZ2.out
      have q6 := cell_of_row _ _ 6 _ _ _ HZ2.out
      have r0 := frozen_of_row _ _ 0 _ _ HZ2.out
      have r1 := frozen_of_row _ _ 1 _ _ HZ2.out
      have r2 := frozen_of_row _ _ 2 _ _ HZ2.out
      have r3 := frozen_of_row _ _ 3 _ _ HZ2.out
      have r4 := frozen_of_row _ _ 4 _ _ HZ2.out
      have r5 := frozen_of_row _ _ 5 _ _ HZ2.out
      have r6 := frozen_of_row _ _ 6 _ _ HZ2.out
      go_wp2_with fail
      exact bodyPost_ret (results_cell2 rfl _ _ w.heap.size 24 _ (0, 0) _ rfl (row7_set _ _ _ _ _ _ _ _ _ _ _ _ _ _ _ _ _ HZ2.out) Tryd.underlying24 rfl (by kernel_rfl)) rfl ⟨.slice none 0 0, by rw [HE.out, HVV.out]; rfl, by rw [HVV.out]; exact SL.nil _ _ _ _ (Nat.zero_le _), below7 HW2.out _ _ _ _ _ _ _⟩
    by_cases hq : x2.toNat = 0
    case neg =>
      have HE : Hid (bdeE k l = 4) := by show _ = _; rw [HCE.out, if_neg (by rw [hok]; simp [hq])]
      have HVV : Hid (bdeV k l = zeroB) := bdeV_no (by rw [HE.out]; decide)
      have hq1 : ((x2.toNat : Int) != 0) = true := by rw [bne_iff_ne]; omega
      clear hok hq
      have q0 := cell_of_row _ _ 0 _ _ _ HZ2.out
      have q1 := cell_of_row _ _ 1 _ _ _ HZ2.out
      have q2 := cell_of_row _ _ 2 _ _ _ HZ2.out
      have q3 := cell_of_row _ _ 3 _ _ _ HZ2.out
      have q4 := cell_of_row _ _ 4 _ _ _ HZ2.out
      have q5 := cell_of_row _ _ 5 _ _ _ HZ2.out
      have q6 := cell_of_row _ _ 6 _ _ _ HZ2.out
      have r0 := frozen_of_row _ _ 0 _ _ HZ2.out
      have r1 := frozen_of_row _ _ 1 _ _ HZ2.out
      have r2 := frozen_of_row _ _ 2 _ _ HZ2.out
      have r3 := frozen_of_row _ _ 3 _ _ HZ2.out
      have r4 := frozen_of_row _ _ 4 _ _ HZ2.out
      have r5 := frozen_of_row _ _ 5 _ _ HZ2.out
      have r6 := frozen_of_row _ _ 6 _ _ HZ2.out
      go_wp2_with fail
      exact bodyPost_ret (results_cell2 rfl _ _ w.heap.size 24 _ (0, 0) _ rfl (row7_set _ _ _ _ _ _ _ _ _ _ _ _ _ _ _ _ _ HZ2.out) Tryd.underlying24 rfl (by kernel_rfl)) rfl ⟨.slice none 0 0, by rw [HE.out, HVV.out]; rfl, by rw [HVV.out]; exact SL.nil _ _ _ _ (Nat.zero_le _), below7 HW2.out _ _ _ _ _ _ _⟩
    case pos =>
      have HE0 : Hid (bdeE k l = chkB (compB (x0.toNat : Int) (kdC x1.toNat) (d.drop 3))) := by show _ = _; rw [HCE.out, if_pos ⟨hok, hq⟩]
      have hq1 : ((x2.toNat : Int) != 0) = false := by rw [bne_eq_false_iff_eq]; omega
      have hq2 : (x2.toNat != 0) = false := by rw [bne_eq_false_iff_eq]; omega
      have HCO := fun (A : Option Addr) (W : World) => pcomp_any (x0.toNat : Int) (kdC x1.toNat) A 0 0 (d.drop 3) W
      have HCK := fun (W : World) (hW : Below w2.heap.size w2 W) => pchk_any (compB (x0.toNat : Int) (kdC x1.toNat) (d.drop 3)) _ W (by rw [comp_inf]; exact HI2.out.on hW)
      have hinf := comp_inf (x0.toNat : Int) (kdC x1.toNat) (d.drop 3)
      have HCV2 := HCV.out
      generalize compB (x0.toNat : Int) (kdC x1.toNat) (d.drop 3) = bb at *
      generalize (kdC x1.toNat).val = kv at *
      generalize chkB bb = ce at *
      obtain ⟨n0, k0, s0, m0, c0, a0, i0⟩ := bb
      have hinf' : i0 = d.drop 3 := hinf
      subst hinf'
      have HCV2 := Lib.hid HCV2
      simp only [Bk.val] at HCO HCK
      have HCO := Lib.hid HCO
      have HCK := Lib.hid HCK
      clear hok hq hq2
      go_wp2_with fail
      refine (HCO.out _ _).mono ?_
      rintro e w3 ⟨rfl, hb3⟩
      have HZ3 := Lib.hid ((hb3.block _ hs2).trans HZ2.out)
      have HW3 := Lib.hid (HW2.out.trans (hb3.mono HW2.out.size))
      have hs3 : w.heap.size < w3.heap.size := by have := hb3.size; omega
      have HB23 := Lib.hid hb3
      clear hb3
      go_wp2_with fail
      refine (HCK.out _ (HB23.out.trans ((alloc_below _ _).mono HB23.out.size))).mono ?_
      rintro e w5 ⟨rfl, hb5⟩
      have hal : w3.heap.size < (w3.alloc (.cells #[.int .i64 n0, .int .i64 k0, .int .i64 s0, .bool m0, .int .i64 c0, .bool a0, .slice (some ⟨b1, o1, none⟩) 0 0] 24)).heap.size := by rw [alloc_size]; omega
      have hz5 := (hb5.block _ (Nat.lt_trans hs3 hal)).trans (((alloc_below w3 _).block _ hs3).trans HZ3.out)
      have hr5 := (hb5.block _ hal).trans (heap_alloc_new w3 _)
      have hw5 : Below w.heap.size w w5 := HW3.out.trans (Below.mono (below_alloc2 hb5) HW3.out.size)
      have HI5 := Lib.hid (HI2.out.on (HB23.out.trans (Below.mono (below_alloc2 hb5) HB23.out.size)))
      have HZ5 := Lib.hid hz5
      have HW5 := Lib.hid hw5
      have q0 := cell_of_row _ _ 0 _ _ _ hz5
      have q1 := cell_of_row _ _ 1 _ _ _ hz5
      have q2 := cell_of_row _ _ 2 _ _ _ hz5
      have q3 := cell_of_row _ _ 3 _ _ _ hz5
      have q4 := cell_of_row _ _ 4 _ _ _ hz5
      have q5 := cell_of_row _ _ 5 _ _ _ hz5
      have q6 := cell_of_row _ _ 6 _ _ _ hz5
      have r0 := frozen_of_row _ _ 0 _ _ hz5
      have r1 := frozen_of_row _ _ 1 _ _ hz5
      have r2 := frozen_of_row _ _ 2 _ _ hz5
      have r3 := frozen_of_row _ _ 3 _ _ hz5
      have r4 := frozen_of_row _ _ 4 _ _ hz5
      have r5 := frozen_of_row _ _ 5 _ _ hz5
      have r6 := frozen_of_row _ _ 6 _ _ hz5
      have p0 := cell_of_row _ _ 0 _ _ _ hr5
      have p1 := cell_of_row _ _ 1 _ _ _ hr5
      have p2 := cell_of_row _ _ 2 _ _ _ hr5
      have p3 := cell_of_row _ _ 3 _ _ _ hr5
      have p4 := cell_of_row _ _ 4 _ _ _ hr5
      have p5 := cell_of_row _ _ 5 _ _ _ hr5
      have p6 := cell_of_row _ _ 6 _ _ _ hr5
      clear hz5 hr5 hw5 hb5 hal
      by_cases hce : ce = 0
      · have HE : Hid (bdeE k l = 0) := by show _ = _; rw [HE0.out, hce]
        have HVV := Lib.hid (HCV2.out HE.out)
        subst hce
        go_wp2_with fail
        refine bodyPost_ret (results_cell2 rfl _ _ w.heap.size 24 _ (0, 0) _ rfl (row7_set _ _ _ _ _ _ _ _ _ _ _ _ _ _ _ _ _ HZ5.out) Tryd.underlying24 rfl (by kernel_rfl)) rfl ⟨.slice (some ⟨b1, o1, none⟩) 0 0, by rw [HE.out, HVV.out]; rfl, ?_, below7 HW5.out _ _ _ _ _ _ _⟩
        rw [HVV.out]
        show SL _ _ _ (d.drop 3)
        rw [size_set7]
        exact sl_set7 _ _ _ _ _ _ _ HI5.out (fun _ b o n' c' e => by simp only [Value.slice.injEq, Option.some.injEq, Addr.mk.injEq] at e; rw [← e.1.1]; exact HFAR.out)
      · have HE : Hid (bdeE k l = ce) := HE0.out
        have HVV : Hid (bdeV k l = zeroB) := bdeV_no (by rw [HE.out]; exact hce)
        have hce1 : (ce != 0) = true := by rw [bne_iff_ne]; exact hce
        clear hce
        go_wp2_with fail
        exact bodyPost_ret (results_cell2 rfl _ _ w.heap.size 24 _ (0, 0) _ rfl (row7_set _ _ _ _ _ _ _ _ _ _ _ _ _ _ _ _ _ HZ5.out) Tryd.underlying24 rfl (by kernel_rfl)) rfl ⟨.slice none 0 0, by rw [HE.out, HVV.out]; rfl, by rw [HVV.out]; exact SL.nil _ _ _ _ (Nat.zero_le _), below7 HW5.out _ _ _ _ _ _ _⟩
  · have HI := HINF.out
    rw [if_neg hcc] at HI
    have HI := Lib.hid HI
    clear HINF
    go_wp2_with fail
    refine (ppar_any x1 w1).mono ?_
    rintro e w2 ⟨rfl, hb2⟩
    have hi2 := HI.out.on hb2
    have g0' := (hb2.cell (p := ⟨b1, o1, none⟩) eb).trans g0
    have g2' := (hb2.cell (p := ⟨b1, o1 + 2, none⟩) eb).trans g2
    have HZ2 := Lib.hid ((hb2.block _ hs1).trans HZ1.out)
    have HW2 := Lib.hid (HW1.out.trans (hb2.mono HW1.out.size))
    have hs2 : w.heap.size < w2.heap.size := by have := hb2.size; omega
    have eb2 : b1 < w2.heap.size := by have := hb2.size; omega
    have HFAR := Lib.hid (not_zero_block HZ2.out g0')
    have HI2 := Lib.hid hi2
    clear hb2 hi2 g0 g1 g2 hs1 eb
    cases hok : okC x1.toNat
    · have HE : Hid (bdeE k l = 4) := by show _ = _; rw [HCE.out, if_neg (by rw [hok]; simp)]
      have HVV : Hid (bdeV k l = zeroB) := bdeV_no (by rw [HE.out]; decide)
      clear hok
      have q0 := cell_of_row _ _ 0 _ _ _ HZ2.out
      have q1 := cell_of_row _ _ 1 _ _ _ HZ2.out
      have q2 := cell_of_row _ _ 2 _ _ _ HZ2.out
      have q3 := cell_of_row _ _ 3 _ _ _ HZ2.out
      have q4 := cell_of_row _ _ 4 _ _ _ HZ2.out
      have q5 := cell_of_row _ _ 5 _ _ _ HZ2.out
      have q6 := cell_of_row _ _ 6 _ _ _ HZ2.out
      have r0 := frozen_of_row _ _ 0 _ _ HZ2.out
      have r1 := frozen_of_row _ _ 1 _ _ HZ2.out
      have r2 := frozen_of_row _ _ 2 _ _ HZ2.out
      have r3 := frozen_of_row _ _ 3 _ _ HZ2.out
      have r4 := frozen_of_row _ _ 4 _ _ HZ2.out
      have r5 := frozen_of_row _ _ 5 _ _ HZ2.out
      have r6 := frozen_of_row _ _ 6 _ _ HZ2.out
      go_wp2_with fail
      exact bodyPost_ret (results_cell2 rfl _ _ w.heap.size 24 _ (0, 0) _ rfl (row7_set _ _ _ _ _ _ _ _ _ _ _ _ _ _ _ _ _ HZ2.out) Tryd.underlying24 rfl (by kernel_rfl)) rfl ⟨.slice none 0 0, by rw [HE.out, HVV.out]; rfl, by rw [HVV.out]; exact SL.nil _ _ _ _ (Nat.zero_le _), below7 HW2.out _ _ _ _ _ _ _⟩
    by_cases hq : x2.toNat = n
    case neg =>
      have HE : Hid (bdeE k l = 4) := by show _ = _; rw [HCE.out, if_neg (by rw [hok]; simp [hq])]
      have HVV : Hid (bdeV k l = zeroB) := bdeV_no (by rw [HE.out]; decide)
      have hq1 : ((x2.toNat : Int) != (n : Int)) = true := by rw [bne_iff_ne]; omega
      clear hok hq
      have q0 := cell_of_row _ _ 0 _ _ _ HZ2.out
      have q1 := cell_of_row _ _ 1 _ _ _ HZ2.out
      have q2 := cell_of_row _ _ 2 _ _ _ HZ2.out
      have q3 := cell_of_row _ _ 3 _ _ _ HZ2.out
      have q4 := cell_of_row _ _ 4 _ _ _ HZ2.out
      have q5 := cell_of_row _ _ 5 _ _ _ HZ2.out
      have q6 := cell_of_row _ _ 6 _ _ _ HZ2.out
      have r0 := frozen_of_row _ _ 0 _ _ HZ2.out
      have r1 := frozen_of_row _ _ 1 _ _ HZ2.out
      have r2 := frozen_of_row _ _ 2 _ _ HZ2.out
      have r3 := frozen_of_row _ _ 3 _ _ HZ2.out
      have r4 := frozen_of_row _ _ 4 _ _ HZ2.out
      have r5 := frozen_of_row _ _ 5 _ _ HZ2.out
      have r6 := frozen_of_row _ _ 6 _ _ HZ2.out
      go_wp2_with fail
      exact bodyPost_ret (results_cell2 rfl _ _ w.heap.size 24 _ (0, 0) _ rfl (row7_set _ _ _ _ _ _ _ _ _ _ _ _ _ _ _ _ _ HZ2.out) Tryd.underlying24 rfl (by kernel_rfl)) rfl ⟨.slice none 0 0, by rw [HE.out, HVV.out]; rfl, by rw [HVV.out]; exact SL.nil _ _ _ _ (Nat.zero_le _), below7 HW2.out _ _ _ _ _ _ _⟩
    case pos =>
      have HE0 : Hid (bdeE k l = chkB (compB (x0.toNat : Int) (kdC x1.toNat) (d.drop 3))) := by show _ = _; rw [HCE.out, if_pos ⟨hok, hq⟩]
      have hq1 : ((x2.toNat : Int) != (n : Int)) = false := by rw [bne_eq_false_iff_eq]; omega
      have hq2 : (x2.toNat != n) = false := by rw [bne_eq_false_iff_eq]; omega
      have HCO := fun (A : Option Addr) (W : World) => pcomp_any (x0.toNat : Int) (kdC x1.toNat) A n cc (d.drop 3) W
      have HCK := fun (W : World) (hW : Below w2.heap.size w2 W) => pchk_any (compB (x0.toNat : Int) (kdC x1.toNat) (d.drop 3)) _ W (by rw [comp_inf]; exact HI2.out.on hW)
      have hinf := comp_inf (x0.toNat : Int) (kdC x1.toNat) (d.drop 3)
      have HCV2 := HCV.out
      generalize compB (x0.toNat : Int) (kdC x1.toNat) (d.drop 3) = bb at *
      generalize (kdC x1.toNat).val = kv at *
      generalize chkB bb = ce at *
      obtain ⟨n0, k0, s0, m0, c0, a0, i0⟩ := bb
      have hinf' : i0 = d.drop 3 := hinf
      subst hinf'
      have HCV2 := Lib.hid HCV2
      simp only [Bk.val] at HCO HCK
      have HCO := Lib.hid HCO
      have HCK := Lib.hid HCK
      clear hok hq hq2
      go_wp2_with fail
      refine (HCO.out _ _).mono ?_
      rintro e w3 ⟨rfl, hb3⟩
      have HZ3 := Lib.hid ((hb3.block _ hs2).trans HZ2.out)
      have HW3 := Lib.hid (HW2.out.trans (hb3.mono HW2.out.size))
      have hs3 : w.heap.size < w3.heap.size := by have := hb3.size; omega
      have HB23 := Lib.hid hb3
      clear hb3
      go_wp2_with fail
      refine (HCK.out _ (HB23.out.trans ((alloc_below _ _).mono HB23.out.size))).mono ?_
      rintro e w5 ⟨rfl, hb5⟩
      have hal : w3.heap.size < (w3.alloc (.cells #[.int .i64 n0, .int .i64 k0, .int .i64 s0, .bool m0, .int .i64 c0, .bool a0, .slice (some ⟨b1, o1 + 3, none⟩) n cc] 24)).heap.size := by rw [alloc_size]; omega
      have hz5 := (hb5.block _ (Nat.lt_trans hs3 hal)).trans (((alloc_below w3 _).block _ hs3).trans HZ3.out)
      have hr5 := (hb5.block _ hal).trans (heap_alloc_new w3 _)
      have hw5 : Below w.heap.size w w5 := HW3.out.trans (Below.mono (below_alloc2 hb5) HW3.out.size)
      have HI5 := Lib.hid (HI2.out.on (HB23.out.trans (Below.mono (below_alloc2 hb5) HB23.out.size)))
      have HZ5 := Lib.hid hz5
      have HW5 := Lib.hid hw5
      have q0 := cell_of_row _ _ 0 _ _ _ hz5
      have q1 := cell_of_row _ _ 1 _ _ _ hz5
      have q2 := cell_of_row _ _ 2 _ _ _ hz5
      have q3 := cell_of_row _ _ 3 _ _ _ hz5
      have q4 := cell_of_row _ _ 4 _ _ _ hz5
      have q5 := cell_of_row _ _ 5 _ _ _ hz5
      have q6 := cell_of_row _ _ 6 _ _ _ hz5
      have r0 := frozen_of_row _ _ 0 _ _ hz5
      have r1 := frozen_of_row _ _ 1 _ _ hz5
      have r2 := frozen_of_row _ _ 2 _ _ hz5
      have r3 := frozen_of_row _ _ 3 _ _ hz5
      have r4 := frozen_of_row _ _ 4 _ _ hz5
      have r5 := frozen_of_row _ _ 5 _ _ hz5
      have r6 := frozen_of_row _ _ 6 _ _ hz5
      have p0 := cell_of_row _ _ 0 _ _ _ hr5
      have p1 := cell_of_row _ _ 1 _ _ _ hr5
      have p2 := cell_of_row _ _ 2 _ _ _ hr5
      have p3 := cell_of_row _ _ 3 _ _ _ hr5
      have p4 := cell_of_row _ _ 4 _ _ _ hr5
      have p5 := cell_of_row _ _ 5 _ _ _ hr5
      have p6 := cell_of_row _ _ 6 _ _ _ hr5
      clear hz5 hr5 hw5 hb5 hal
      by_cases hce : ce = 0
      · have HE : Hid (bdeE k l = 0) := by show _ = _; rw [HE0.out, hce]
        have HVV := Lib.hid (HCV2.out HE.out)
        subst hce
        go_wp2_with fail
        refine bodyPost_ret (results_cell2 rfl _ _ w.heap.size 24 _ (0, 0) _ rfl (row7_set _ _ _ _ _ _ _ _ _ _ _ _ _ _ _ _ _ HZ5.out) Tryd.underlying24 rfl (by kernel_rfl)) rfl ⟨.slice (some ⟨b1, o1 + 3, none⟩) n cc, by rw [HE.out, HVV.out]; rfl, ?_, below7 HW5.out _ _ _ _ _ _ _⟩
        rw [HVV.out]
        show SL _ _ _ (d.drop 3)
        rw [size_set7]
        exact sl_set7 _ _ _ _ _ _ _ HI5.out (fun _ b o n' c' e => by simp only [Value.slice.injEq, Option.some.injEq, Addr.mk.injEq] at e; rw [← e.1.1]; exact HFAR.out)
      · have HE : Hid (bdeE k l = ce) := HE0.out
        have HVV : Hid (bdeV k l = zeroB) := bdeV_no (by rw [HE.out]; exact hce)
        have hce1 : (ce != 0) = true := by rw [bne_iff_ne]; exact hce
        clear hce
        go_wp2_with fail
        exact bodyPost_ret (results_cell2 rfl _ _ w.heap.size 24 _ (0, 0) _ rfl (row7_set _ _ _ _ _ _ _ _ _ _ _ _ _ _ _ _ _ HZ5.out) Tryd.underlying24 rfl (by kernel_rfl)) rfl ⟨.slice none 0 0, by rw [HE.out, HVV.out]; rfl, by rw [HVV.out]; exact SL.nil _ _ _ _ (Nat.zero_le _), below7 HW5.out _ _ _ _ _ _ _⟩

/-- Decode, of the program. -/
theorem pbde_any (k : Int) (l : List UInt8) (v : Value) (w : World) (hv : SL w w.heap.size v l) (hT : Tb w) (hl : l.length ≤ 1000) : Calls Tryd.prog 17 #[v, .int .i64 k] w (BdeR k l w) := by
  by_cases hk : sizeK k = 0
  · exact pbde_1 k l v w hv hk
  · by_cases h3 : l.length < 3 + sizeK k
    · exact pbde_2 k l v w hv hk h3
    · by_cases hr : remE k l = 0
      · have hlen : (remV k l).length = ((remV k l).length - 3) + 3 := by
          obtain ⟨_, _, r3, _⟩ := rem_ok hr
          rw [r3, List.length_take]
          omega
        exact pbde_4 k l v w hv hT hl hk h3 (remV k l) _ hlen hr rfl
      · exact pbde_3 k l v w hv hT hl hk h3 hr
end Go.Proofs.YtijiggfeamibkaaDoor
