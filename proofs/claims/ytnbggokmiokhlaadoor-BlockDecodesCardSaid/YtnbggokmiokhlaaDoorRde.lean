/-
  The walks of the reference's kind and Decode.
-/
import Derived.Test.YtnbggokmiokhlaaDoorRck
import Derived.Test.YtnbggokmiokhlaaDoorBde
namespace Go.Proofs.YtnbggokmiokhlaaDoor
set_option linter.unusedVariables false
set_option linter.unusedSimpArgs false
open Go.RowKit

/-- What the reference makes of a control byte. -/
def rkB (c : Nat) : Bk :=
  if c < 128 then ⟨0, 0, (c / 64 : Nat), c / 32 % 2 == 1, 0, false, []⟩
  else if c < 192 then ⟨0, 1, (c / 16 % 2 : Nat), false, (c % 16 : Nat), false, []⟩
  else ⟨0, 2, 0, false, (c % 32 : Nat), decide (224 ≤ c), []⟩
def RkR (b : Bk) (ok : Bool) (w : World) (e : Ending) (w' : World) : Prop := e = .returned (.tuple #[b.val (.slice none 0 0), .bool ok]) ∧ Below w.heap.size w w'
theorem rkB_ok {c : Nat} (hc : c < 256) (h : okC c = true) (n : Int) (l : List UInt8) : (⟨n, (rkB c).kind, (rkB c).seq, (rkB c).more, (rkB c).code, (rkB c).ans, l⟩ : Bk) = compB n (kdC c) l := by
  unfold rkB kdC
  by_cases h1 : c < 128
  · rw [if_pos h1, if_pos h1]; rfl
  · by_cases h2 : c < 192
    · rw [if_neg h1, if_neg h1, if_pos h2, if_pos h2]
      unfold okC at h
      rw [if_neg h1, if_pos h2] at h
      simp at h
      simp only [compB]
      congr 2
      omega
    · rw [if_neg h1, if_neg h1, if_neg h2, if_neg h2]; rfl
set_option maxRecDepth 100000 in
set_option maxHeartbeats 1600000 in
theorem rkind_1 (c : Nat) (w : World) (h : c < 128) : Calls Tryd.prog 78 #[.int .i64 (c : Int)] w (RkR (rkB c) (okC c) w) := by
  have e : rkB c = ⟨0, 0, (c / 64 : Nat), c / 32 % 2 == 1, 0, false, []⟩ := by rw [rkB, if_pos h]
  have e2 : okC c = (c % 32 == 0) := by rw [okC, if_pos h]
  rw [e, e2]
  have Q1 : Hid ((((c : Int) / 32 % 2 == 1) : Bool) = (c / 32 % 2 == 1)) := by show _ = _; rw [Bool.eq_iff_iff, beq_iff_eq, beq_iff_eq]; omega
  have Q2 : Hid ((((c : Int) % 32 == 0) : Bool) = (c % 32 == 0)) := by show _ = _; rw [Bool.eq_iff_iff, beq_iff_eq, beq_iff_eq]; omega
  have HD : Hid (((c / 64 : Nat) : Int) = (c : Int) / 64) := by show _ = _; rw [Int.natCast_ediv]; rfl
  clear e e2
  generalize (c / 32 % 2 == 1) = m at *
  generalize (c % 32 == 0) = ok at *
  generalize ((c / 64 : Nat) : Int) = q at *
  go_enter Tryd.func78, Tryd.ntmps78
  go_wp2_with fail
  exact bodyPost_ret (results_cell2 rfl _ _ w.heap.size 47 _ (0, 0) _ rfl (heap_alloc_new w _) Tryd.underlying47 rfl (by kernel_rfl)) rfl ⟨by rw [← Q1.out, ← Q2.out, HD.out]; rfl, alloc_below _ _⟩
set_option maxRecDepth 100000 in
set_option maxHeartbeats 1600000 in
theorem rkind_2 (c : Nat) (w : World) (h1 : ¬ c < 128) (h2 : c < 192) : Calls Tryd.prog 78 #[.int .i64 (c : Int)] w (RkR (rkB c) (okC c) w) := by
  have e : rkB c = ⟨0, 1, (c / 16 % 2 : Nat), false, (c % 16 : Nat), false, []⟩ := by rw [rkB, if_neg h1, if_pos h2]
  have e2 : okC c = (decide (c < 160) && decide (c % 16 ≤ 2)) := by rw [okC, if_neg h1, if_pos h2]
  rw [e, e2]
  have HD1 : Hid (((c / 16 % 2 : Nat) : Int) = (c : Int) / 16 % 2) := by show _ = _; omega
  have HD2 : Hid (((c % 16 : Nat) : Int) = (c : Int) % 16) := by show _ = _; omega
  have g1 : 128 ≤ c := by omega
  clear e e2 h1
  generalize hq1 : ((c / 16 % 2 : Nat) : Int) = q1 at *
  generalize hq2 : ((c % 16 : Nat) : Int) = q2 at *
  clear hq1 hq2
  by_cases h3 : c < 160
  · by_cases h4 : c % 16 ≤ 2
    · rw [decide_eq_true h3, decide_eq_true h4]
      have d3 : decide ((c : Int) < 160) = true := by rw [decide_eq_true_iff]; omega
      have d4 : decide ((c : Int) % 16 ≤ 2) = true := by rw [decide_eq_true_iff]; omega
      clear h4
      go_enter Tryd.func78, Tryd.ntmps78
      go_wp2_with fail
      exact bodyPost_ret (results_cell2 rfl _ _ w.heap.size 47 _ (0, 0) _ rfl (heap_alloc_new w _) Tryd.underlying47 rfl (by kernel_rfl)) rfl ⟨by rw [HD1.out, HD2.out]; rfl, alloc_below _ _⟩
    · rw [decide_eq_true h3, decide_eq_false h4]
      have d3 : decide ((c : Int) < 160) = true := by rw [decide_eq_true_iff]; omega
      have d4 : decide ((c : Int) % 16 ≤ 2) = false := by rw [decide_eq_false_iff_not]; omega
      clear h4
      go_enter Tryd.func78, Tryd.ntmps78
      go_wp2_with fail
      exact bodyPost_ret (results_cell2 rfl _ _ w.heap.size 47 _ (0, 0) _ rfl (heap_alloc_new w _) Tryd.underlying47 rfl (by kernel_rfl)) rfl ⟨by rw [HD1.out, HD2.out]; rfl, alloc_below _ _⟩
  · rw [decide_eq_false h3]
    have d3 : decide ((c : Int) < 160) = false := by rw [decide_eq_false_iff_not]; omega
    have g3 : 160 ≤ c := by omega
    clear h3
    go_enter Tryd.func78, Tryd.ntmps78
    go_wp2_with fail
    exact bodyPost_ret (results_cell2 rfl _ _ w.heap.size 47 _ (0, 0) _ rfl (heap_alloc_new w _) Tryd.underlying47 rfl (by kernel_rfl)) rfl ⟨by rw [HD1.out, HD2.out]; rfl, alloc_below _ _⟩
set_option maxRecDepth 100000 in
set_option maxHeartbeats 1600000 in
theorem rkind_3 (c : Nat) (w : World) (h1 : ¬ c < 128) (h2 : ¬ c < 192) (hc : c < 256) : Calls Tryd.prog 78 #[.int .i64 (c : Int)] w (RkR (rkB c) (okC c) w) := by
  have e : rkB c = ⟨0, 2, 0, false, (c % 32 : Nat), decide (224 ≤ c), []⟩ := by rw [rkB, if_neg h1, if_neg h2]
  have e2 : okC c = decide (c % 32 ≤ 3) := by rw [okC, if_neg h1, if_neg h2]
  rw [e, e2]
  have HD2 : Hid (((c % 32 : Nat) : Int) = (c : Int) % 32) := by show _ = _; omega
  have HQ1 : Hid (decide (224 ≤ c) = decide ((224 : Int) ≤ (c : Int))) := by show _ = _; congr 1; rw [eq_iff_iff]; omega
  have HQ2 : Hid (decide (c % 32 ≤ 3) = decide ((c : Int) % 32 ≤ 3)) := by show _ = _; congr 1; rw [eq_iff_iff]; omega
  have g1 : 192 ≤ c := by omega
  clear e e2 h1 h2
  generalize ((c % 32 : Nat) : Int) = q2 at *
  generalize decide (224 ≤ c) = m at *
  generalize decide (c % 32 ≤ 3) = ok at *
  go_enter Tryd.func78, Tryd.ntmps78
  go_wp2_with fail
  exact bodyPost_ret (results_cell2 rfl _ _ w.heap.size 47 _ (0, 0) _ rfl (heap_alloc_new w _) Tryd.underlying47 rfl (by kernel_rfl)) rfl ⟨by rw [HD2.out, HQ1.out, HQ2.out]; rfl, alloc_below _ _⟩
theorem rkind_any (c : Nat) (w : World) (hc : c < 256) : Calls Tryd.prog 78 #[.int .i64 (c : Int)] w (RkR (rkB c) (okC c) w) := by
  by_cases h1 : c < 128
  · exact rkind_1 c w h1
  · by_cases h2 : c < 192
    · exact rkind_2 c w h1 h2
    · exact rkind_3 c w h1 h2 hc
set_option maxRecDepth 100000 in
set_option maxHeartbeats 1600000 in
theorem rbde_1 (k : Int) (l : List UInt8) (v : Value) (w : World) (hv : SL w w.heap.size v l) (hk : sizeK k = 0) : Calls Tryd.prog 45 #[v, .int .i64 k] w (BdeR k l w) := by
  have HE : Hid (bdeE k l = 1) := by show _ = _; rw [bdeE, if_pos hk]
  have HVV : Hid (bdeV k l = zeroB) := bdeV_no (by rw [HE.out]; decide)
  have HS := rsize_any k
  rw [hk] at HS
  have HS := Lib.hid HS
  obtain ⟨A, c, rfl, _, _, _⟩ := hv
  clear hk
  go_enter Tryd.func45, Tryd.ntmps45
  go_wp2_with fail
  refine (HS.out _).mono ?_
  rintro e w1 ⟨rfl, rfl⟩
  go_wp2_with fail
  exact bodyPost_ret (results_cell2 rfl _ _ w.heap.size 47 _ (0, 0) _ rfl (heap_alloc_new w _) Tryd.underlying47 rfl (by kernel_rfl)) rfl ⟨.slice none 0 0, by rw [HE.out, HVV.out]; rfl, by rw [HVV.out]; exact SL.nil _ _ _ _ (Nat.zero_le _), alloc_below _ _⟩
set_option maxRecDepth 100000 in
set_option maxHeartbeats 1600000 in
theorem rbde_2 (k : Int) (l : List UInt8) (v : Value) (w : World) (hv : SL w w.heap.size v l) (hk : sizeK k ≠ 0) (h3 : l.length < 3 + sizeK k) : Calls Tryd.prog 45 #[v, .int .i64 k] w (BdeR k l w) := by
  have HE : Hid (bdeE k l = 5) := by show _ = _; rw [bdeE, if_neg hk, if_pos h3]
  have HVV : Hid (bdeV k l = zeroB) := bdeV_no (by rw [HE.out]; decide)
  have HS := rsize_any k
  have hk0 : ((sizeK k : Int) == 0) = false := by rw [beq_eq_false_iff_ne]; omega
  have hs2 := sizeK_le k
  have hlt : decide ((l.length : Int) < 3 + (sizeK k : Int)) = true := by rw [decide_eq_true_iff]; omega
  generalize sizeK k = sz at *
  have HS := Lib.hid HS
  obtain ⟨A, c, rfl, _, _, _⟩ := hv
  clear hk h3
  go_enter Tryd.func45, Tryd.ntmps45
  go_wp2_with fail
  refine (HS.out _).mono ?_
  rintro e w1 ⟨rfl, rfl⟩
  go_wp2_with fail
  refine (HS.out _).mono ?_
  rintro e w1 ⟨rfl, rfl⟩
  go_wp2_with fail
  exact bodyPost_ret (results_cell2 rfl _ _ w.heap.size 47 _ (0, 0) _ rfl (heap_alloc_new w _) Tryd.underlying47 rfl (by kernel_rfl)) rfl ⟨.slice none 0 0, by rw [HE.out, HVV.out]; rfl, by rw [HVV.out]; exact SL.nil _ _ _ _ (Nat.zero_le _), alloc_below _ _⟩

set_option maxRecDepth 100000 in
set_option maxHeartbeats 1600000 in
theorem rbde_3 (k : Int) (l : List UInt8) (v : Value) (w : World) (hv : SL w w.heap.size v l) (hl : l.length ≤ 1000) (hk : sizeK k ≠ 0) (h3 : ¬ l.length < 3 + sizeK k) (hr : remE k l ≠ 0) : Calls Tryd.prog 45 #[v, .int .i64 k] w (BdeR k l w) := by
  have HE : Hid (bdeE k l = remE k l) := by show _ = _; rw [bdeE, if_neg hk, if_neg h3, if_pos hr]
  have HVV : Hid (bdeV k l = zeroB) := bdeV_no (by rw [HE.out]; exact hr)
  have HS := rsize_any k
  have HV := Lib.hid hv
  have HRM := fun (W : World) (hW : Below w.heap.size w W) => rrem_any k l _ W (HV.out.on hW) hl
  unfold RemR at HRM
  have hk0 : ((sizeK k : Int) == 0) = false := by rw [beq_eq_false_iff_ne]; omega
  have hs2 := sizeK_le k
  have hlt : decide ((l.length : Int) < 3 + (sizeK k : Int)) = false := by rw [decide_eq_false_iff_not]; omega
  have hr0 : (remE k l != 0) = true := by rw [bne_iff_ne]; exact hr
  generalize remE k l = re at *
  have HRM := Lib.hid HRM
  generalize sizeK k = sz at *
  have HS := Lib.hid HS
  obtain ⟨A, c, rfl, _, _, _⟩ := hv
  clear hk hr h3
  go_enter Tryd.func45, Tryd.ntmps45
  go_wp2_with fail
  refine (HS.out _).mono ?_
  rintro e w1 ⟨rfl, rfl⟩
  go_wp2_with fail
  refine (HS.out _).mono ?_
  rintro e w1 ⟨rfl, rfl⟩
  go_wp2_with fail
  refine (HRM.out _ (alloc_below _ _)).mono ?_
  rintro e w1 ⟨v1, rfl, hv1, hb1⟩
  have hz1 := (hb1.block _ (by rw [alloc_size]; omega)).trans (heap_alloc_new w _)
  have hw1 := below_alloc2 hb1
  have q0 := cell_of_row _ _ 0 _ _ _ hz1
  have q1 := cell_of_row _ _ 1 _ _ _ hz1
  have q2 := cell_of_row _ _ 2 _ _ _ hz1
  have q3 := cell_of_row _ _ 3 _ _ _ hz1
  have q4 := cell_of_row _ _ 4 _ _ _ hz1
  have q5 := cell_of_row _ _ 5 _ _ _ hz1
  have q6 := cell_of_row _ _ 6 _ _ _ hz1
  have r0 := frozen_of_row _ _ 0 _ _ hz1
  have r1 := frozen_of_row _ _ 1 _ _ hz1
  have r2 := frozen_of_row _ _ 2 _ _ hz1
  have r3 := frozen_of_row _ _ 3 _ _ hz1
  have r4 := frozen_of_row _ _ 4 _ _ hz1
  have r5 := frozen_of_row _ _ 5 _ _ hz1
  have r6 := frozen_of_row _ _ 6 _ _ hz1
  have HZ1 := Lib.hid hz1
  clear hz1 hb1
  go_wp2_with fail
  exact bodyPost_ret (results_cell2 rfl _ _ w.heap.size 47 _ (0, 0) _ rfl (row7_set _ _ _ _ _ _ _ _ _ _ _ _ _ _ _ _ _ HZ1.out) Tryd.underlying47 rfl (by kernel_rfl)) rfl ⟨.slice none 0 0, by rw [HE.out, HVV.out]; rfl, by rw [HVV.out]; exact SL.nil _ _ _ _ (Nat.zero_le _), below7 hw1 _ _ _ _ _ _ _⟩
set_option maxRecDepth 100000 in
set_option maxHeartbeats 1600000 in
theorem rbde_4 (k : Int) (l : List UInt8) (v : Value) (w : World) (hv : SL w w.heap.size v l) (hl : l.length ≤ 1000) (hk : sizeK k ≠ 0) (h3 : ¬ l.length < 3 + sizeK k) (d : List UInt8) (n : Nat) (hn : d.length = n + 3) (hr : remE k l = 0) (hd : remV k l = d) : Calls Tryd.prog 45 #[v, .int .i64 k] w (BdeR k l w) := by
  have HCE0 : bdeE k l = if okC (d.getD 1 0).toNat = true ∧ (d.getD 2 0).toNat = n then chkB (compB ((d.getD 0 0).toNat : Int) (kdC (d.getD 1 0).toNat) (d.drop 3)) else 4 := by
    rw [bdeE, if_neg hk, if_neg h3, if_neg (by omega), hd, cutE, hn, Nat.add_sub_cancel]; rfl
  have HCV0 : bdeE k l = 0 → bdeV k l = compB ((d.getD 0 0).toNat : Int) (kdC (d.getD 1 0).toNat) (d.drop 3) := fun h => by rw [bdeV, if_pos h, hd]; rfl
  have HS := rsize_any k
  have HV := Lib.hid hv
  have HRM := fun (W : World) (hW : Below w.heap.size w W) => rrem_any k l _ W (HV.out.on hW) hl
  unfold RemR at HRM
  have hk0 : ((sizeK k : Int) == 0) = false := by rw [beq_eq_false_iff_ne]; omega
  have hs2 := sizeK_le k
  have hlt : decide ((l.length : Int) < 3 + (sizeK k : Int)) = false := by rw [decide_eq_false_iff_not]; omega
  rw [hr, hd] at HRM
  have HRM := Lib.hid HRM
  generalize sizeK k = sz at *
  have HS := Lib.hid HS
  obtain ⟨A, c, rfl, _, _, _⟩ := hv
  clear hk hr h3
  go_enter Tryd.func45, Tryd.ntmps45
  go_wp2_with fail
  refine (HS.out _).mono ?_
  rintro e w1 ⟨rfl, rfl⟩
  go_wp2_with fail
  refine (HS.out _).mono ?_
  rintro e w1 ⟨rfl, rfl⟩
  go_wp2_with fail
  refine (HRM.out _ (alloc_below _ _)).mono ?_
  rintro e w1 ⟨v1, rfl, hv1, hb1⟩
  have HZ1 := Lib.hid ((hb1.block _ (by rw [alloc_size]; omega)).trans (heap_alloc_new w _))
  have HW1 := Lib.hid (below_alloc2 hb1)
  have hs1 : w.heap.size < w1.heap.size := by have := hb1.size; rw [alloc_size] at this; omega
  clear hb1
  obtain ⟨A1, c1, rfl, e1, e2, e3⟩ := hv1
  unfold maxLen at e2
  obtain ⟨b1, o1, rfl, eb, ec⟩ := e3 (by omega)
  have g0 : w1.cell? ⟨b1, o1, none⟩ = some (.int .u8 ((d.getD 0 0).toNat : Int)) := ec 0 (by omega)
  have g1 : w1.cell? ⟨b1, o1 + 1, none⟩ = some (.int .u8 ((d.getD 1 0).toNat : Int)) := ec 1 (by omega)
  have g2 : w1.cell? ⟨b1, o1 + 2, none⟩ = some (.int .u8 ((d.getD 2 0).toNat : Int)) := ec 2 (by omega)
  obtain ⟨cc, rfl⟩ : ∃ cc, c1 = cc + 3 := ⟨c1 - 3, by omega⟩
  have HINF : Hid (SL w1 w1.heap.size (.slice (some ⟨b1, if cc = 0 then o1 else o1 + 3, none⟩) n cc) (d.drop 3)) := by
    refine ⟨_, cc, by rw [List.length_drop]; congr 1; omega, by rw [List.length_drop]; omega, by unfold maxLen; omega, fun hp => ?_⟩
    rw [List.length_drop] at hp
    rw [if_neg (show ¬ cc = 0 by omega)]
    refine ⟨b1, o1 + 3, rfl, eb, fun j hj => ?_⟩
    rw [List.length_drop] at hj
    rw [Nat.add_assoc, ec _ (by omega)]
    simp [List.getD, List.getElem?_drop]
  have HLEN := Lib.hid hn
  rw [hn]
  have hn3 : n ≤ cc := by omega
  have hcb : cc + 3 ≤ 9223372036854775807 := by omega
  clear e1 e2 e3 ec hn
  generalize d.getD 0 0 = x0 at *
  generalize d.getD 1 0 = x1 at *
  generalize d.getD 2 0 = x2 at *
  have hx0 := x0.toNat_lt
  have hx2 := x2.toNat_lt
  have HCE := Lib.hid HCE0
  have HCV := Lib.hid HCV0
  clear HCE0 HCV0
  by_cases hcc : cc = 0
  · subst hcc
    obtain rfl : n = 0 := by omega
    have HI := HINF.out
    rw [if_pos rfl] at HI
    have HI := Lib.hid HI
    clear HINF
    have hx1 := x1.toNat_lt
    have HKD := Lib.hid (rkind_any x1.toNat w1 x1.toNat_lt)
    go_wp2_with fail
    refine HKD.out.mono ?_
    rintro e w2 ⟨rfl, hb2⟩
    have hi2 := HI.out.on hb2
    have g0' := (hb2.cell (p := ⟨b1, o1, none⟩) eb).trans g0
    have g2' := (hb2.cell (p := ⟨b1, o1 + 2, none⟩) eb).trans g2
    have HZ2 := Lib.hid ((hb2.block _ hs1).trans HZ1.out)
    have HW2 := Lib.hid (HW1.out.trans (hb2.mono HW1.out.size))
    have hs2 : w.heap.size < w2.heap.size := by have := hb2.size; omega
    have eb2 : b1 < w2.heap.size := by have := hb2.size; omega
    have HFAR := Lib.hid (not_zero_block HZ2.out g0')
    have HI2 := Lib.hid hi2
    clear hb2 hi2 g0 g1 g2 hs1 eb HKD
    have HKB := fun h => rkB_ok (c := x1.toNat) x1.toNat_lt h (x0.toNat : Int) (d.drop 3)
    generalize rkB x1.toNat = RB at *
    obtain ⟨rn, rk, rs, rm, rc, ra, rl⟩ := RB
    simp only at HKB
    have HKB := Lib.hid HKB
    simp only [Bk.val]
    cases hok : okC x1.toNat
    · have HE : Hid (bdeE k l = 4) := by show _ = _; rw [HCE.out, if_neg (by rw [hok]; simp)]
      have HVV : Hid (bdeV k l = zeroB) := bdeV_no (by rw [HE.out]; decide)
      clear hok
      have q0 := cell_of_row _ _ 0 _ _ _ HZ2.out
      have q1 := cell_of_row _ _ 1 _ _ _ HZ2.out
      have q2 := cell_of_row _ _ 2 _ _ _ HZ2.out
      have q3 := cell_of_row _ _ 3 _ _ _ HZ2.out
      have q4 := cell_of_row _ _ 4 _ _ _ HZ2.out
      have q5 := cell_of_row _ _ 5 _ _ _ HZ2.out
      have q6 := cell_of_row _ _ 6 _ _ _ HZ2.out
      have r0 := frozen_of_row _ _ 0 _ _ HZ2.out
      have r1 := frozen_of_row _ _ 1 _ _ HZ2.out
      have r2 := frozen_of_row _ _ 2 _ _ HZ2.out
      have r3 := frozen_of_row _ _ 3 _ _ HZ2.out
      have r4 := frozen_of_row _ _ 4 _ _ HZ2.out
      have r5 := frozen_of_row _ _ 5 _ _ HZ2.out
      have r6 := frozen_of_row _ _ 6 _ _ HZ2.out
      go_wp2_with fail
      exact bodyPost_ret (results_cell2 rfl _ _ w.heap.size 47 _ (0, 0) _ rfl (heap_alloc_old _ (row7_set _ _ _ _ _ _ _ _ _ _ _ _ _ _ _ _ _ HZ2.out)) Tryd.underlying47 rfl (by kernel_rfl)) rfl ⟨.slice none 0 0, by rw [HE.out, HVV.out]; rfl, by rw [HVV.out]; exact SL.nil _ _ _ _ (Nat.zero_le _), (below7 HW2.out _ _ _ _ _ _ _).alloc (by rw [size_set7]; exact Nat.le_of_lt hs2) _⟩
    by_cases hq : x2.toNat = 0
    case neg =>
      have HE : Hid (bdeE k l = 4) := by show _ = _; rw [HCE.out, if_neg (by rw [hok]; simp [hq])]
      have HVV : Hid (bdeV k l = zeroB) := bdeV_no (by rw [HE.out]; decide)
      have hq1 : ((x2.toNat : Int) != 0) = true := by rw [bne_iff_ne]; omega
      clear hok hq
      have q0 := cell_of_row _ _ 0 _ _ _ HZ2.out
      have q1 := cell_of_row _ _ 1 _ _ _ HZ2.out
      have q2 := cell_of_row _ _ 2 _ _ _ HZ2.out
      have q3 := cell_of_row _ _ 3 _ _ _ HZ2.out
      have q4 := cell_of_row _ _ 4 _ _ _ HZ2.out
      have q5 := cell_of_row _ _ 5 _ _ _ HZ2.out
      have q6 := cell_of_row _ _ 6 _ _ _ HZ2.out
      have r0 := frozen_of_row _ _ 0 _ _ HZ2.out
      have r1 := frozen_of_row _ _ 1 _ _ HZ2.out
      have r2 := frozen_of_row _ _ 2 _ _ HZ2.out
      have r3 := frozen_of_row _ _ 3 _ _ HZ2.out
      have r4 := frozen_of_row _ _ 4 _ _ HZ2.out
      have r5 := frozen_of_row _ _ 5 _ _ HZ2.out
      have r6 := frozen_of_row _ _ 6 _ _ HZ2.out
      go_wp2_with fail
      exact bodyPost_ret (results_cell2 rfl _ _ w.heap.size 47 _ (0, 0) _ rfl (heap_alloc_old _ (row7_set _ _ _ _ _ _ _ _ _ _ _ _ _ _ _ _ _ HZ2.out)) Tryd.underlying47 rfl (by kernel_rfl)) rfl ⟨.slice none 0 0, by rw [HE.out, HVV.out]; rfl, by rw [HVV.out]; exact SL.nil _ _ _ _ (Nat.zero_le _), (below7 HW2.out _ _ _ _ _ _ _).alloc (by rw [size_set7]; exact Nat.le_of_lt hs2) _⟩
    case pos =>
      have HE0 : Hid (bdeE k l = chkB ⟨(x0.toNat : Int), rk, rs, rm, rc, ra, d.drop 3⟩) := by show _ = _; rw [HCE.out, if_pos ⟨hok, hq⟩, HKB.out hok]
      have HCV2 : Hid (bdeE k l = 0 → bdeV k l = ⟨(x0.toNat : Int), rk, rs, rm, rc, ra, d.drop 3⟩) := fun h => by rw [HKB.out hok]; exact HCV.out h
      have hq1 : ((x2.toNat : Int) != 0) = false := by rw [bne_eq_false_iff_eq]; omega
      have hq2 : (x2.toNat != 0) = false := by rw [bne_eq_false_iff_eq]; omega
      have HCK := fun (W : World) (hW : Below w2.heap.size w2 W) => rchk_any ⟨(x0.toNat : Int), rk, rs, rm, rc, ra, d.drop 3⟩ _ W (HI2.out.on hW)
      generalize chkB ⟨(x0.toNat : Int), rk, rs, rm, rc, ra, d.drop 3⟩ = ce at *
      simp only [Bk.val] at HCK
      have HCK := Lib.hid HCK
      clear hok hq
      go_wp2_with fail
      refine (HCK.out _ (alloc_below _ _)).mono ?_
      rintro e w5 ⟨rfl, hb5⟩
      have hal : w2.heap.size < (w2.alloc (.cells #[.int .i64 (x0.toNat : Int), .int .i64 rk, .int .i64 rs, .bool rm, .int .i64 rc, .bool ra, .slice (some ⟨b1, o1, none⟩) 0 0] 47)).heap.size := by rw [alloc_size]; omega
      have hz5 := (hb5.block _ (Nat.lt_trans hs2 hal)).trans (((alloc_below w2 _).block _ hs2).trans HZ2.out)
      have hr5 := (hb5.block _ hal).trans (heap_alloc_new w2 _)
      have hw5 : Below w.heap.size w w5 := HW2.out.trans (Below.mono (below_alloc2 hb5) HW2.out.size)
      have HI5 := Lib.hid (HI2.out.on (below_alloc2 hb5))
      have HZ5 := Lib.hid hz5
      have HW5 := Lib.hid hw5
      have q0 := cell_of_row _ _ 0 _ _ _ hz5
      have q1 := cell_of_row _ _ 1 _ _ _ hz5
      have q2 := cell_of_row _ _ 2 _ _ _ hz5
      have q3 := cell_of_row _ _ 3 _ _ _ hz5
      have q4 := cell_of_row _ _ 4 _ _ _ hz5
      have q5 := cell_of_row _ _ 5 _ _ _ hz5
      have q6 := cell_of_row _ _ 6 _ _ _ hz5
      have r0 := frozen_of_row _ _ 0 _ _ hz5
      have r1 := frozen_of_row _ _ 1 _ _ hz5
      have r2 := frozen_of_row _ _ 2 _ _ hz5
      have r3 := frozen_of_row _ _ 3 _ _ hz5
      have r4 := frozen_of_row _ _ 4 _ _ hz5
      have r5 := frozen_of_row _ _ 5 _ _ hz5
      have r6 := frozen_of_row _ _ 6 _ _ hz5
      have p0 := cell_of_row _ _ 0 _ _ _ hr5
      have p1 := cell_of_row _ _ 1 _ _ _ hr5
      have p2 := cell_of_row _ _ 2 _ _ _ hr5
      have p3 := cell_of_row _ _ 3 _ _ _ hr5
      have p4 := cell_of_row _ _ 4 _ _ _ hr5
      have p5 := cell_of_row _ _ 5 _ _ _ hr5
      have p6 := cell_of_row _ _ 6 _ _ _ hr5
      clear hz5 hr5 hw5 hb5 hal
      by_cases hce : ce = 0
      · have HE : Hid (bdeE k l = 0) := by show _ = _; rw [HE0.out, hce]
        have HVV := Lib.hid (HCV2.out HE.out)
        subst hce
        go_wp2_with fail
        refine bodyPost_ret (results_cell2 rfl _ _ w.heap.size 47 _ (0, 0) _ rfl (row7_set _ _ _ _ _ _ _ _ _ _ _ _ _ _ _ _ _ HZ5.out) Tryd.underlying47 rfl (by kernel_rfl)) rfl ⟨.slice (some ⟨b1, o1, none⟩) 0 0, by rw [HE.out, HVV.out]; rfl, ?_, below7 HW5.out _ _ _ _ _ _ _⟩
        rw [HVV.out]
        show SL _ _ _ (d.drop 3)
        rw [size_set7]
        exact sl_set7 _ _ _ _ _ _ _ HI5.out (fun _ b o n' c' e => by simp only [Value.slice.injEq, Option.some.injEq, Addr.mk.injEq] at e; rw [← e.1.1]; exact HFAR.out)
      · have HE : Hid (bdeE k l = ce) := HE0.out
        have HVV : Hid (bdeV k l = zeroB) := bdeV_no (by rw [HE.out]; exact hce)
        have hce1 : (ce != 0) = true := by rw [bne_iff_ne]; exact hce
        clear hce
        go_wp2_with fail
        exact bodyPost_ret (results_cell2 rfl _ _ w.heap.size 47 _ (0, 0) _ rfl (row7_set _ _ _ _ _ _ _ _ _ _ _ _ _ _ _ _ _ HZ5.out) Tryd.underlying47 rfl (by kernel_rfl)) rfl ⟨.slice none 0 0, by rw [HE.out, HVV.out]; rfl, by rw [HVV.out]; exact SL.nil _ _ _ _ (Nat.zero_le _), below7 HW5.out _ _ _ _ _ _ _⟩
  · have HI := HINF.out
    rw [if_neg hcc] at HI
    have HI := Lib.hid HI
    clear HINF
    have hx1 := x1.toNat_lt
    have HKD := Lib.hid (rkind_any x1.toNat w1 x1.toNat_lt)
    go_wp2_with fail
    refine HKD.out.mono ?_
    rintro e w2 ⟨rfl, hb2⟩
    have hi2 := HI.out.on hb2
    have g0' := (hb2.cell (p := ⟨b1, o1, none⟩) eb).trans g0
    have g2' := (hb2.cell (p := ⟨b1, o1 + 2, none⟩) eb).trans g2
    have HZ2 := Lib.hid ((hb2.block _ hs1).trans HZ1.out)
    have HW2 := Lib.hid (HW1.out.trans (hb2.mono HW1.out.size))
    have hs2 : w.heap.size < w2.heap.size := by have := hb2.size; omega
    have eb2 : b1 < w2.heap.size := by have := hb2.size; omega
    have HFAR := Lib.hid (not_zero_block HZ2.out g0')
    have HI2 := Lib.hid hi2
    clear hb2 hi2 g0 g1 g2 hs1 eb HKD
    have HKB := fun h => rkB_ok (c := x1.toNat) x1.toNat_lt h (x0.toNat : Int) (d.drop 3)
    generalize rkB x1.toNat = RB at *
    obtain ⟨rn, rk, rs, rm, rc, ra, rl⟩ := RB
    simp only at HKB
    have HKB := Lib.hid HKB
    simp only [Bk.val]
    cases hok : okC x1.toNat
    · have HE : Hid (bdeE k l = 4) := by show _ = _; rw [HCE.out, if_neg (by rw [hok]; simp)]
      have HVV : Hid (bdeV k l = zeroB) := bdeV_no (by rw [HE.out]; decide)
      clear hok
      have q0 := cell_of_row _ _ 0 _ _ _ HZ2.out
      have q1 := cell_of_row _ _ 1 _ _ _ HZ2.out
      have q2 := cell_of_row _ _ 2 _ _ _ HZ2.out
      have q3 := cell_of_row _ _ 3 _ _ _ HZ2.out
      have q4 := cell_of_row _ _ 4 _ _ _ HZ2.out
      have q5 := cell_of_row _ _ 5 _ _ _ HZ2.out
      have q6 := cell_of_row _ _ 6 _ _ _ HZ2.out
      have r0 := frozen_of_row _ _ 0 _ _ HZ2.out
      have r1 := frozen_of_row _ _ 1 _ _ HZ2.out
      have r2 := frozen_of_row _ _ 2 _ _ HZ2.out
      have r3 := frozen_of_row _ _ 3 _ _ HZ2.out
      have r4 := frozen_of_row _ _ 4 _ _ HZ2.out
      have r5 := frozen_of_row _ _ 5 _ _ HZ2.out
      have r6 := frozen_of_row _ _ 6 _ _ HZ2.out
      go_wp2_with fail
      exact bodyPost_ret (results_cell2 rfl _ _ w.heap.size 47 _ (0, 0) _ rfl (heap_alloc_old _ (row7_set _ _ _ _ _ _ _ _ _ _ _ _ _ _ _ _ _ HZ2.out)) Tryd.underlying47 rfl (by kernel_rfl)) rfl ⟨.slice none 0 0, by rw [HE.out, HVV.out]; rfl, by rw [HVV.out]; exact SL.nil _ _ _ _ (Nat.zero_le _), (below7 HW2.out _ _ _ _ _ _ _).alloc (by rw [size_set7]; exact Nat.le_of_lt hs2) _⟩
    by_cases hq : x2.toNat = n
    case neg =>
      have HE : Hid (bdeE k l = 4) := by show _ = _; rw [HCE.out, if_neg (by rw [hok]; simp [hq])]
      have HVV : Hid (bdeV k l = zeroB) := bdeV_no (by rw [HE.out]; decide)
      have hq1 : ((x2.toNat : Int) != (n : Int)) = true := by rw [bne_iff_ne]; omega
      clear hok hq
      have q0 := cell_of_row _ _ 0 _ _ _ HZ2.out
      have q1 := cell_of_row _ _ 1 _ _ _ HZ2.out
      have q2 := cell_of_row _ _ 2 _ _ _ HZ2.out
      have q3 := cell_of_row _ _ 3 _ _ _ HZ2.out
      have q4 := cell_of_row _ _ 4 _ _ _ HZ2.out
      have q5 := cell_of_row _ _ 5 _ _ _ HZ2.out
      have q6 := cell_of_row _ _ 6 _ _ _ HZ2.out
      have r0 := frozen_of_row _ _ 0 _ _ HZ2.out
      have r1 := frozen_of_row _ _ 1 _ _ HZ2.out
      have r2 := frozen_of_row _ _ 2 _ _ HZ2.out
      have r3 := frozen_of_row _ _ 3 _ _ HZ2.out
      have r4 := frozen_of_row _ _ 4 _ _ HZ2.out
      have r5 := frozen_of_row _ _ 5 _ _ HZ2.out
      have r6 := frozen_of_row _ _ 6 _ _ HZ2.out
      go_wp2_with fail
      exact bodyPost_ret (results_cell2 rfl _ _ w.heap.size 47 _ (0, 0) _ rfl (heap_alloc_old _ (row7_set _ _ _ _ _ _ _ _ _ _ _ _ _ _ _ _ _ HZ2.out)) Tryd.underlying47 rfl (by kernel_rfl)) rfl ⟨.slice none 0 0, by rw [HE.out, HVV.out]; rfl, by rw [HVV.out]; exact SL.nil _ _ _ _ (Nat.zero_le _), (below7 HW2.out _ _ _ _ _ _ _).alloc (by rw [size_set7]; exact Nat.le_of_lt hs2) _⟩
    case pos =>
      have HE0 : Hid (bdeE k l = chkB ⟨(x0.toNat : Int), rk, rs, rm, rc, ra, d.drop 3⟩) := by show _ = _; rw [HCE.out, if_pos ⟨hok, hq⟩, HKB.out hok]
      have HCV2 : Hid (bdeE k l = 0 → bdeV k l = ⟨(x0.toNat : Int), rk, rs, rm, rc, ra, d.drop 3⟩) := fun h => by rw [HKB.out hok]; exact HCV.out h
      have hq1 : ((x2.toNat : Int) != (n : Int)) = false := by rw [bne_eq_false_iff_eq]; omega
      have hq2 : (x2.toNat != n) = false := by rw [bne_eq_false_iff_eq]; omega
      have HCK := fun (W : World) (hW : Below w2.heap.size w2 W) => rchk_any ⟨(x0.toNat : Int), rk, rs, rm, rc, ra, d.drop 3⟩ _ W (HI2.out.on hW)
      generalize chkB ⟨(x0.toNat : Int), rk, rs, rm, rc, ra, d.drop 3⟩ = ce at *
      simp only [Bk.val] at HCK
      have HCK := Lib.hid HCK
      clear hok hq
      go_wp2_with fail
      refine (HCK.out _ (alloc_below _ _)).mono ?_
      rintro e w5 ⟨rfl, hb5⟩
      have hal : w2.heap.size < (w2.alloc (.cells #[.int .i64 (x0.toNat : Int), .int .i64 rk, .int .i64 rs, .bool rm, .int .i64 rc, .bool ra, .slice (some ⟨b1, o1 + 3, none⟩) n cc] 47)).heap.size := by rw [alloc_size]; omega
      have hz5 := (hb5.block _ (Nat.lt_trans hs2 hal)).trans (((alloc_below w2 _).block _ hs2).trans HZ2.out)
      have hr5 := (hb5.block _ hal).trans (heap_alloc_new w2 _)
      have hw5 : Below w.heap.size w w5 := HW2.out.trans (Below.mono (below_alloc2 hb5) HW2.out.size)
      have HI5 := Lib.hid (HI2.out.on (below_alloc2 hb5))
      have HZ5 := Lib.hid hz5
      have HW5 := Lib.hid hw5
      have q0 := cell_of_row _ _ 0 _ _ _ hz5
      have q1 := cell_of_row _ _ 1 _ _ _ hz5
      have q2 := cell_of_row _ _ 2 _ _ _ hz5
      have q3 := cell_of_row _ _ 3 _ _ _ hz5
      have q4 := cell_of_row _ _ 4 _ _ _ hz5
      have q5 := cell_of_row _ _ 5 _ _ _ hz5
      have q6 := cell_of_row _ _ 6 _ _ _ hz5
      have r0 := frozen_of_row _ _ 0 _ _ hz5
      have r1 := frozen_of_row _ _ 1 _ _ hz5
      have r2 := frozen_of_row _ _ 2 _ _ hz5
      have r3 := frozen_of_row _ _ 3 _ _ hz5
      have r4 := frozen_of_row _ _ 4 _ _ hz5
      have r5 := frozen_of_row _ _ 5 _ _ hz5
      have r6 := frozen_of_row _ _ 6 _ _ hz5
      have p0 := cell_of_row _ _ 0 _ _ _ hr5
      have p1 := cell_of_row _ _ 1 _ _ _ hr5
      have p2 := cell_of_row _ _ 2 _ _ _ hr5
      have p3 := cell_of_row _ _ 3 _ _ _ hr5
      have p4 := cell_of_row _ _ 4 _ _ _ hr5
      have p5 := cell_of_row _ _ 5 _ _ _ hr5
      have p6 := cell_of_row _ _ 6 _ _ _ hr5
      clear hz5 hr5 hw5 hb5 hal
      by_cases hce : ce = 0
      · have HE : Hid (bdeE k l = 0) := by show _ = _; rw [HE0.out, hce]
        have HVV := Lib.hid (HCV2.out HE.out)
        subst hce
        go_wp2_with fail
        refine bodyPost_ret (results_cell2 rfl _ _ w.heap.size 47 _ (0, 0) _ rfl (row7_set _ _ _ _ _ _ _ _ _ _ _ _ _ _ _ _ _ HZ5.out) Tryd.underlying47 rfl (by kernel_rfl)) rfl ⟨.slice (some ⟨b1, o1 + 3, none⟩) n cc, by rw [HE.out, HVV.out]; rfl, ?_, below7 HW5.out _ _ _ _ _ _ _⟩
        rw [HVV.out]
        show SL _ _ _ (d.drop 3)
        rw [size_set7]
        exact sl_set7 _ _ _ _ _ _ _ HI5.out (fun _ b o n' c' e => by simp only [Value.slice.injEq, Option.some.injEq, Addr.mk.injEq] at e; rw [← e.1.1]; exact HFAR.out)
      · have HE : Hid (bdeE k l = ce) := HE0.out
        have HVV : Hid (bdeV k l = zeroB) := bdeV_no (by rw [HE.out]; exact hce)
        have hce1 : (ce != 0) = true := by rw [bne_iff_ne]; exact hce
        clear hce
        go_wp2_with fail
        exact bodyPost_ret (results_cell2 rfl _ _ w.heap.size 47 _ (0, 0) _ rfl (row7_set _ _ _ _ _ _ _ _ _ _ _ _ _ _ _ _ _ HZ5.out) Tryd.underlying47 rfl (by kernel_rfl)) rfl ⟨.slice none 0 0, by rw [HE.out, HVV.out]; rfl, by rw [HVV.out]; exact SL.nil _ _ _ _ (Nat.zero_le _), below7 HW5.out _ _ _ _ _ _ _⟩

/-- Decode, of the reference. -/
theorem rbde_any (k : Int) (l : List UInt8) (v : Value) (w : World) (hv : SL w w.heap.size v l) (hl : l.length ≤ 1000) : Calls Tryd.prog 45 #[v, .int .i64 k] w (BdeR k l w) := by
  by_cases hk : sizeK k = 0
  · exact rbde_1 k l v w hv hk
  · by_cases h3 : l.length < 3 + sizeK k
    · exact rbde_2 k l v w hv hk h3
    · by_cases hr : remE k l = 0
      · have hlen : (remV k l).length = ((remV k l).length - 3) + 3 := by
          obtain ⟨_, _, r3, _⟩ := rem_ok hr
          rw [r3, List.length_take]
          omega
        exact rbde_4 k l v w hv hl hk h3 (remV k l) _ hlen hr rfl
      · exact rbde_3 k l v w hv hl hk h3 hr
end Go.Proofs.YtnbggokmiokhlaaDoor
