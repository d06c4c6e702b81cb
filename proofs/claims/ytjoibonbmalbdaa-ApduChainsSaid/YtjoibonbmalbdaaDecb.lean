/-
  The walk of the program's Decode: short bodies; all of it.
-/
import Derived.Test.YtjoibonbmalbdaaDec
namespace Go.Proofs.Ytjoibonbmalbdaa
set_option linter.unusedVariables false
set_option linter.unusedSimpArgs false
open Go.RowKit

set_option maxRecDepth 100000 in
set_option maxHeartbeats 3200000 in
theorem pdec_C1 (l : List UInt8) (v : Value) (w : World) (h : SL w w.heap.size v l) (hl : l.length ≤ 80000) (h5 : l.length = 5) : Calls Try.prog 19 #[v] w (DecR l w) := by
  have HS := Lib.hid h
  obtain ⟨A, c, rfl, k1, k2, k3⟩ := h
  unfold maxLen at k2
  obtain ⟨b, o, rfl, hbl, hc⟩ := k3 (by omega)
  have g0 : w.cell? ⟨b, o, none⟩ = some (.int .u8 ((l.getD 0 0).toNat : Int)) := hc 0 (by omega)
  have g1 := hc 1 (by omega)
  have g2 := hc 2 (by omega)
  have g3 := hc 3 (by omega)
  have hlong : longB l = false := by rw [longB, h5]; rfl
  have hrest : restL l = l.drop 4 := by rw [restL, hlong]; rfl
  have hread : readC l = ⟨((l.getD 0 0).toNat : Int), ((l.getD 1 0).toNat : Int), ((l.getD 2 0).toNat : Int), ((l.getD 3 0).toNat : Int), (bodyL (widN false) (l.drop 4)).1, (bodyL (widN false) (l.drop 4)).2.1, false⟩ := by rw [readC, hlong, hrest]
  have hdec : decE l = if (bodyL (widN false) (l.drop 4)).2.2 ≠ 0 then (bodyL (widN false) (l.drop 4)).2.2 else chkC (readC l) := by rw [decE, if_neg (by omega), hlong, hrest]
  rw [hread] at hdec
  have HYES : (bodyL (widN false) (l.drop 4)).2.2 = 0 → chkC ⟨((l.getD 0 0).toNat : Int), ((l.getD 1 0).toNat : Int), ((l.getD 2 0).toNat : Int), ((l.getD 3 0).toNat : Int), (bodyL (widN false) (l.drop 4)).1, (bodyL (widN false) (l.drop 4)).2.1, false⟩ = 0 → (decV l = ⟨((l.getD 0 0).toNat : Int), ((l.getD 1 0).toNat : Int), ((l.getD 2 0).toNat : Int), ((l.getD 3 0).toNat : Int), (bodyL (widN false) (l.drop 4)).1, (bodyL (widN false) (l.drop 4)).2.1, false⟩ ∧ decE l = 0) := by
    intro a1 a2
    rw [if_neg (by rw [a1]; decide), a2] at hdec
    exact ⟨by rw [decV, if_pos hdec, hread], hdec⟩
  have HBAD : (bodyL (widN false) (l.drop 4)).2.2 = 0 → chkC ⟨((l.getD 0 0).toNat : Int), ((l.getD 1 0).toNat : Int), ((l.getD 2 0).toNat : Int), ((l.getD 3 0).toNat : Int), (bodyL (widN false) (l.drop 4)).1, (bodyL (widN false) (l.drop 4)).2.1, false⟩ ≠ 0 → (decV l = zeroC ∧ decE l = chkC ⟨((l.getD 0 0).toNat : Int), ((l.getD 1 0).toNat : Int), ((l.getD 2 0).toNat : Int), ((l.getD 3 0).toNat : Int), (bodyL (widN false) (l.drop 4)).1, (bodyL (widN false) (l.drop 4)).2.1, false⟩) := by
    intro a1 a2
    rw [if_neg (by rw [a1]; decide)] at hdec
    exact ⟨by rw [decV, if_neg (by rw [hdec]; exact a2)], hdec⟩
  have HERR : (bodyL (widN false) (l.drop 4)).2.2 ≠ 0 → (decV l = zeroC ∧ decE l = (bodyL (widN false) (l.drop 4)).2.2) := by
    intro a1
    rw [if_pos a1] at hdec
    exact ⟨by rw [decV, if_neg (by rw [hdec]; exact a1)], hdec⟩
  have hx0 := (l.getD 0 0).toNat_lt
  have hx1 := (l.getD 1 0).toNat_lt
  have hx2 := (l.getD 2 0).toNat_lt
  have hx3 := (l.getD 3 0).toNat_lt
  have HBODY := pbody_any (l.drop 4) (.slice (some ⟨b, o + 4, none⟩) (l.length - 4) (c - 4)) false (DW w (l.getD 0 0) (l.getD 1 0) (l.getD 2 0) (l.getD 3 0) false) ((HS.out.cut (by omega)).on (DW_below _ _ _ _ _ _)) (by rw [List.length_drop]; omega)
  unfold BodR at HBODY
  have hrl : (l.drop 4).length ≤ 80000 := by rw [List.length_drop]; omega
  generalize l.drop 4 = rest at *
  generalize l.getD 0 0 = x0 at *
  generalize l.getD 1 0 = x1 at *
  generalize l.getD 2 0 = x2 at *
  generalize l.getD 3 0 = x3 at *
  have HYES := Lib.hid HYES
  have HBAD := Lib.hid HBAD
  have HERR := Lib.hid HERR
  have HBODY := Lib.hid HBODY
  have j0 : 0 < l.length := by omega
  have j1 : (1 : Int) < (l.length : Int) := by omega
  have j2 : (2 : Int) < (l.length : Int) := by omega
  have j3 : (3 : Int) < (l.length : Int) := by omega
  have hg5 : ¬ 1 < l.length - 4 := by omega
  have h5a : l.length ≤ 5 := by omega
  have h5b : 5 ≤ l.length := by omega
  clear h5
  clear hc k3 hlong hrest hread hdec
  go_enter Try.func19, Try.ntmps19
  go_wp2_with fail
  go_region_held3 (fun w' => w'.cell? ⟨b, o, none⟩ = some (.int .u8 (x0.toNat : Int)) ∧ w'.cell? ⟨b, o + 1, none⟩ = some (.int .u8 (x1.toNat : Int)) ∧ w'.cell? ⟨b, o + 2, none⟩ = some (.int .u8 (x2.toNat : Int)) ∧ w'.cell? ⟨b, o + 3, none⟩ = some (.int .u8 (x3.toNat : Int)))
    (first | (go_keep; done) | exact ⟨g0, g1, g2, g3⟩) (fail)
  go_wp2_with fail
  refine HBODY.out.mono ?_
  rintro e w1 ⟨d, rfl, hd, hb1⟩
  have hz1 := (hb1.block _ (by rw [DW_size]; omega)).trans (DW_zero w x0 x1 x2 x3 false)
  have hr1 := (hb1.block _ (by rw [DW_size]; omega)).trans (DW_row w x0 x1 x2 x3 false)
  have hw1 : Below w.heap.size w w1 := (DW_below _ _ _ _ _ _).trans (hb1.mono (by rw [DW_size]; omega))
  have hs1 := hb1.size
  rw [DW_size] at hs1
  obtain ⟨Ad, cd, rfl, e1, e2, e3⟩ := hd.rd
  rw [DW_size] at e3
  have HD := Lib.hid e3
  clear hb1 e3
  have q0 := cell_of_row _ _ 0 _ _ _ hz1
  have q1 := cell_of_row _ _ 1 _ _ _ hz1
  have q2 := cell_of_row _ _ 2 _ _ _ hz1
  have q3 := cell_of_row _ _ 3 _ _ _ hz1
  have q4 := cell_of_row _ _ 4 _ _ _ hz1
  have q5 := cell_of_row _ _ 5 _ _ _ hz1
  have q6 := cell_of_row _ _ 6 _ _ _ hz1
  have fz := fun j => frozen_of_row _ _ j _ _ hz1
  have r0 := fz 0
  have r1 := fz 1
  have r2 := fz 2
  have r3 := fz 3
  have r4 := fz 4
  have r5 := fz 5
  have r6 := fz 6
  have p0 := cell_of_row _ _ 0 _ _ _ hr1
  have p1 := cell_of_row _ _ 1 _ _ _ hr1
  have p2 := cell_of_row _ _ 2 _ _ _ hr1
  have p3 := cell_of_row _ _ 3 _ _ _ hr1
  have p4 := cell_of_row _ _ 4 _ _ _ hr1
  have p5 := cell_of_row _ _ 5 _ _ _ hr1
  have p6 := cell_of_row _ _ 6 _ _ _ hr1
  have fr := fun j => frozen_of_row _ _ j _ _ hr1
  have s4 := fr 4
  have s5 := fr 5
  have HZ1 := Lib.hid hz1
  have HR1 := Lib.hid hr1
  have HW1 := Lib.hid hw1
  clear hz1 hr1 hw1 fz fr
  by_cases he : (bodyL (widN false) rest).2.2 = 0
  · by_cases hk : chkC ⟨(x0.toNat : Int), (x1.toNat : Int), (x2.toNat : Int), (x3.toNat : Int), (bodyL (widN false) rest).1, (bodyL (widN false) rest).2.1, false⟩ = 0
    · have HV : Hid (decV l = ⟨(x0.toNat : Int), (x1.toNat : Int), (x2.toNat : Int), (x3.toNat : Int), (bodyL (widN false) rest).1, (bodyL (widN false) rest).2.1, false⟩ ∧ decE l = 0) := HYES.out he hk
      have hle := (bodyL_ok (widN false) rest hrl).resolve_right (by decide)
      have HCK := Lib.hid (fun (W : World) => pchk_any ⟨(x0.toNat : Int), (x1.toNat : Int), (x2.toNat : Int), (x3.toNat : Int), (bodyL (widN false) rest).1, (bodyL (widN false) rest).2.1, false⟩ Ad _ cd W rfl hle)
      have HK := Lib.hid hk
      simp only [Cm.val] at HCK
      generalize (bodyL (widN false) rest).2.1 = le at *
      generalize (bodyL (widN false) rest).1 = dat at *
      rw [he]
      clear he hk hle
      go_wp2_with fail
      refine (HCK.out _).mono ?_
      rintro e w2 ⟨rfl, hb2⟩
      rw [HK.out]
      have hzz : ((w1.setCell ⟨w.heap.size + 1, 4, none⟩ (.slice Ad dat.length cd)).setCell ⟨w.heap.size + 1, 5, none⟩ (.int .i64 le)).heap[w.heap.size]? = some (.cells #[.int .i64 0, .int .i64 0, .int .i64 0, .int .i64 0, .slice none 0 0, .int .i64 0, .bool false] 24 (0, 0)) := by rw [heap_setCell_other _ _ _ _ (by simp), heap_setCell_other _ _ _ _ (by simp)]; exact HZ1.out
      have hrr := setRow45 w1 (w.heap.size + 1) _ _ _ _ _ _ _ (.slice Ad dat.length cd) (.int .i64 le) HR1.out
      have hww : Below w.heap.size w ((w1.setCell ⟨w.heap.size + 1, 4, none⟩ (.slice Ad dat.length cd)).setCell ⟨w.heap.size + 1, 5, none⟩ (.int .i64 le)) := (HW1.out.setCell (p := ⟨w.heap.size + 1, 4, none⟩) (by show w.heap.size ≤ w.heap.size + 1; omega) _).setCell (p := ⟨w.heap.size + 1, 5, none⟩) (by show w.heap.size ≤ w.heap.size + 1; omega) _
      have hsz : ((w1.setCell ⟨w.heap.size + 1, 4, none⟩ (.slice Ad dat.length cd)).setCell ⟨w.heap.size + 1, 5, none⟩ (.int .i64 le)).heap.size = w1.heap.size := by simp
      have hz2 := (hb2.block _ (by rw [hsz]; omega)).trans hzz
      have hr2 := (hb2.block _ (by rw [hsz]; omega)).trans hrr
      have hw2 : Below w.heap.size w w2 := hww.trans (hb2.mono hww.size)
      have HB2 := Lib.hid hb2
      clear q0 q1 q2 q3 q4 q5 q6 r0 r1 r2 r3 r4 r5 r6 p0 p1 p2 p3 p4 p5 p6 s4 s5 hzz hrr hww hb2
      have q0 := cell_of_row _ _ 0 _ _ _ hz2
      have q1 := cell_of_row _ _ 1 _ _ _ hz2
      have q2 := cell_of_row _ _ 2 _ _ _ hz2
      have q3 := cell_of_row _ _ 3 _ _ _ hz2
      have q4 := cell_of_row _ _ 4 _ _ _ hz2
      have q5 := cell_of_row _ _ 5 _ _ _ hz2
      have q6 := cell_of_row _ _ 6 _ _ _ hz2
      have fz := fun j => frozen_of_row _ _ j _ _ hz2
      have r0 := fz 0
      have r1 := fz 1
      have r2 := fz 2
      have r3 := fz 3
      have r4 := fz 4
      have r5 := fz 5
      have r6 := fz 6
      have p0 := cell_of_row _ _ 0 _ _ _ hr2
      have p1 := cell_of_row _ _ 1 _ _ _ hr2
      have p2 := cell_of_row _ _ 2 _ _ _ hr2
      have p3 := cell_of_row _ _ 3 _ _ _ hr2
      have p4 := cell_of_row _ _ 4 _ _ _ hr2
      have p5 := cell_of_row _ _ 5 _ _ _ hr2
      have p6 := cell_of_row _ _ 6 _ _ _ hr2
      have HZ2 := Lib.hid hz2
      have HW2 := Lib.hid hw2
      clear hz2 hr2 hw2 fz hsz
      go_wp2_with fail
      refine bodyPost_ret (results_cell2 rfl _ _ w.heap.size 24 _ (0, 0) _ rfl (row7_set _ _ _ _ _ _ _ _ _ _ _ _ _ _ _ _ _ HZ2.out) Try.underlying24 rfl (by kernel_rfl)) rfl ⟨.slice Ad dat.length cd, by rw [HV.out.1, HV.out.2]; rfl, ?_, below7 HW2.out _ _ _ _ _ _ _⟩
      rw [HV.out.1]
      exact dec_data HD.out e1 e2 HB2.out
    · have HV : Hid (decV l = zeroC ∧ decE l = chkC ⟨(x0.toNat : Int), (x1.toNat : Int), (x2.toNat : Int), (x3.toNat : Int), (bodyL (widN false) rest).1, (bodyL (widN false) rest).2.1, false⟩) := HBAD.out he hk
      have hle := (bodyL_ok (widN false) rest hrl).resolve_right (by decide)
      have HCK := Lib.hid (fun (W : World) => pchk_any ⟨(x0.toNat : Int), (x1.toNat : Int), (x2.toNat : Int), (x3.toNat : Int), (bodyL (widN false) rest).1, (bodyL (widN false) rest).2.1, false⟩ Ad _ cd W rfl hle)
      have hkn : (chkC ⟨(x0.toNat : Int), (x1.toNat : Int), (x2.toNat : Int), (x3.toNat : Int), (bodyL (widN false) rest).1, (bodyL (widN false) rest).2.1, false⟩ != 0) = true := by rw [bne_iff_ne]; exact hk
      have HK := Lib.hid hk
      simp only [Cm.val] at HCK
      generalize (bodyL (widN false) rest).2.1 = le at *
      generalize (bodyL (widN false) rest).1 = dat at *
      rw [he]
      clear he hk hle
      go_wp2_with fail
      refine (HCK.out _).mono ?_
      rintro e w2 ⟨rfl, hb2⟩
      have hzz : ((w1.setCell ⟨w.heap.size + 1, 4, none⟩ (.slice Ad dat.length cd)).setCell ⟨w.heap.size + 1, 5, none⟩ (.int .i64 le)).heap[w.heap.size]? = some (.cells #[.int .i64 0, .int .i64 0, .int .i64 0, .int .i64 0, .slice none 0 0, .int .i64 0, .bool false] 24 (0, 0)) := by rw [heap_setCell_other _ _ _ _ (by simp), heap_setCell_other _ _ _ _ (by simp)]; exact HZ1.out
      have hrr := setRow45 w1 (w.heap.size + 1) _ _ _ _ _ _ _ (.slice Ad dat.length cd) (.int .i64 le) HR1.out
      have hww : Below w.heap.size w ((w1.setCell ⟨w.heap.size + 1, 4, none⟩ (.slice Ad dat.length cd)).setCell ⟨w.heap.size + 1, 5, none⟩ (.int .i64 le)) := (HW1.out.setCell (p := ⟨w.heap.size + 1, 4, none⟩) (by show w.heap.size ≤ w.heap.size + 1; omega) _).setCell (p := ⟨w.heap.size + 1, 5, none⟩) (by show w.heap.size ≤ w.heap.size + 1; omega) _
      have hsz : ((w1.setCell ⟨w.heap.size + 1, 4, none⟩ (.slice Ad dat.length cd)).setCell ⟨w.heap.size + 1, 5, none⟩ (.int .i64 le)).heap.size = w1.heap.size := by simp
      have hz2 := (hb2.block _ (by rw [hsz]; omega)).trans hzz
      have hr2 := (hb2.block _ (by rw [hsz]; omega)).trans hrr
      have hw2 : Below w.heap.size w w2 := hww.trans (hb2.mono hww.size)
      have HB2 := Lib.hid hb2
      clear q0 q1 q2 q3 q4 q5 q6 r0 r1 r2 r3 r4 r5 r6 p0 p1 p2 p3 p4 p5 p6 s4 s5 hzz hrr hww hb2
      have q0 := cell_of_row _ _ 0 _ _ _ hz2
      have q1 := cell_of_row _ _ 1 _ _ _ hz2
      have q2 := cell_of_row _ _ 2 _ _ _ hz2
      have q3 := cell_of_row _ _ 3 _ _ _ hz2
      have q4 := cell_of_row _ _ 4 _ _ _ hz2
      have q5 := cell_of_row _ _ 5 _ _ _ hz2
      have q6 := cell_of_row _ _ 6 _ _ _ hz2
      have fz := fun j => frozen_of_row _ _ j _ _ hz2
      have r0 := fz 0
      have r1 := fz 1
      have r2 := fz 2
      have r3 := fz 3
      have r4 := fz 4
      have r5 := fz 5
      have r6 := fz 6
      have p0 := cell_of_row _ _ 0 _ _ _ hr2
      have p1 := cell_of_row _ _ 1 _ _ _ hr2
      have p2 := cell_of_row _ _ 2 _ _ _ hr2
      have p3 := cell_of_row _ _ 3 _ _ _ hr2
      have p4 := cell_of_row _ _ 4 _ _ _ hr2
      have p5 := cell_of_row _ _ 5 _ _ _ hr2
      have p6 := cell_of_row _ _ 6 _ _ _ hr2
      have HZ2 := Lib.hid hz2
      have HW2 := Lib.hid hw2
      clear hz2 hr2 hw2 fz hsz
      go_wp2_with fail
      exact bodyPost_ret (results_cell2 rfl _ _ w.heap.size 24 _ (0, 0) _ rfl (row7_set _ _ _ _ _ _ _ _ _ _ _ _ _ _ _ _ _ HZ2.out) Try.underlying24 rfl (by kernel_rfl)) rfl ⟨.slice none 0 0, by rw [HV.out.1, HV.out.2]; rfl, by rw [HV.out.1]; exact SL.nil _ _ _ _ (Nat.zero_le _), below7 HW2.out _ _ _ _ _ _ _⟩
  · have HV : Hid (decV l = zeroC ∧ decE l = (bodyL (widN false) rest).2.2) := HERR.out he
    have hen : ((bodyL (widN false) rest).2.2 != 0) = true := by rw [bne_iff_ne]; exact he
    generalize (bodyL (widN false) rest).2.2 = er at *
    clear he
    go_wp2_with fail
    exact bodyPost_ret (results_cell2 rfl _ _ w.heap.size 24 _ (0, 0) _ rfl (row7_set _ _ _ _ _ _ _ _ _ _ _ _ _ _ _ _ _ (by rw [heap_setCell_other _ _ _ _ (by simp), heap_setCell_other _ _ _ _ (by simp)]; exact HZ1.out)) Try.underlying24 rfl (by kernel_rfl)) rfl ⟨.slice none 0 0, by rw [HV.out.1, HV.out.2]; rfl, by rw [HV.out.1]; exact SL.nil _ _ _ _ (Nat.zero_le _), below7 ((HW1.out.setCell (p := ⟨w.heap.size + 1, 4, none⟩) (by show w.heap.size ≤ w.heap.size + 1; omega) _).setCell (p := ⟨w.heap.size + 1, 5, none⟩) (by show w.heap.size ≤ w.heap.size + 1; omega) _) _ _ _ _ _ _ _⟩

set_option maxRecDepth 100000 in
set_option maxHeartbeats 3200000 in
theorem pdec_B1 (l : List UInt8) (A : Option Addr) (c : Nat) (w : World) (h : SL w w.heap.size (.slice A l.length c) l) (h5 : l.length = 4) (hc4 : c = 4) : Calls Try.prog 19 #[.slice A l.length c] w (DecR l w) := by
  subst hc4
  obtain ⟨A', c', e, k1, k2, k3⟩ := h
  simp only [Value.slice.injEq, true_and] at e
  obtain ⟨rfl, rfl⟩ := e
  unfold maxLen at k2
  obtain ⟨b, o, rfl, hbl, hc⟩ := k3 (by omega)
  have g0 : w.cell? ⟨b, o, none⟩ = some (.int .u8 ((l.getD 0 0).toNat : Int)) := hc 0 (by omega)
  have g1 := hc 1 (by omega)
  have g2 := hc 2 (by omega)
  have g3 := hc 3 (by omega)
  have hlong : longB l = false := by rw [longB, h5]; rfl
  have hrest : restL l = l.drop 4 := by rw [restL, hlong]; rfl
  have hread : readC l = ⟨((l.getD 0 0).toNat : Int), ((l.getD 1 0).toNat : Int), ((l.getD 2 0).toNat : Int), ((l.getD 3 0).toNat : Int), (bodyL (widN false) (l.drop 4)).1, (bodyL (widN false) (l.drop 4)).2.1, false⟩ := by rw [readC, hlong, hrest]
  have hdec : decE l = if (bodyL (widN false) (l.drop 4)).2.2 ≠ 0 then (bodyL (widN false) (l.drop 4)).2.2 else chkC (readC l) := by rw [decE, if_neg (by omega), hlong, hrest]
  rw [hread] at hdec
  have HYES : (bodyL (widN false) (l.drop 4)).2.2 = 0 → chkC ⟨((l.getD 0 0).toNat : Int), ((l.getD 1 0).toNat : Int), ((l.getD 2 0).toNat : Int), ((l.getD 3 0).toNat : Int), (bodyL (widN false) (l.drop 4)).1, (bodyL (widN false) (l.drop 4)).2.1, false⟩ = 0 → (decV l = ⟨((l.getD 0 0).toNat : Int), ((l.getD 1 0).toNat : Int), ((l.getD 2 0).toNat : Int), ((l.getD 3 0).toNat : Int), (bodyL (widN false) (l.drop 4)).1, (bodyL (widN false) (l.drop 4)).2.1, false⟩ ∧ decE l = 0) := by
    intro a1 a2
    rw [if_neg (by rw [a1]; decide), a2] at hdec
    exact ⟨by rw [decV, if_pos hdec, hread], hdec⟩
  have HBAD : (bodyL (widN false) (l.drop 4)).2.2 = 0 → chkC ⟨((l.getD 0 0).toNat : Int), ((l.getD 1 0).toNat : Int), ((l.getD 2 0).toNat : Int), ((l.getD 3 0).toNat : Int), (bodyL (widN false) (l.drop 4)).1, (bodyL (widN false) (l.drop 4)).2.1, false⟩ ≠ 0 → (decV l = zeroC ∧ decE l = chkC ⟨((l.getD 0 0).toNat : Int), ((l.getD 1 0).toNat : Int), ((l.getD 2 0).toNat : Int), ((l.getD 3 0).toNat : Int), (bodyL (widN false) (l.drop 4)).1, (bodyL (widN false) (l.drop 4)).2.1, false⟩) := by
    intro a1 a2
    rw [if_neg (by rw [a1]; decide)] at hdec
    exact ⟨by rw [decV, if_neg (by rw [hdec]; exact a2)], hdec⟩
  have HERR : (bodyL (widN false) (l.drop 4)).2.2 ≠ 0 → (decV l = zeroC ∧ decE l = (bodyL (widN false) (l.drop 4)).2.2) := by
    intro a1
    rw [if_pos a1] at hdec
    exact ⟨by rw [decV, if_neg (by rw [hdec]; exact a1)], hdec⟩
  have hx0 := (l.getD 0 0).toNat_lt
  have hx1 := (l.getD 1 0).toNat_lt
  have hx2 := (l.getD 2 0).toNat_lt
  have hx3 := (l.getD 3 0).toNat_lt
  have hdr : l.drop 4 = [] := List.drop_eq_nil_of_le (by omega)
  have HBODY := pbody_any (l.drop 4) (.slice (some ⟨b, o, none⟩) 0 0) false (DW w (l.getD 0 0) (l.getD 1 0) (l.getD 2 0) (l.getD 3 0) false) (by rw [hdr]; exact SL.nil _ _ _ _ (by omega)) (by rw [hdr]; exact Nat.zero_le _)
  unfold BodR at HBODY
  have hrl : (l.drop 4).length ≤ 80000 := by rw [hdr]; exact Nat.zero_le _
  generalize l.drop 4 = rest at *
  generalize l.getD 0 0 = x0 at *
  generalize l.getD 1 0 = x1 at *
  generalize l.getD 2 0 = x2 at *
  generalize l.getD 3 0 = x3 at *
  have HYES := Lib.hid HYES
  have HBAD := Lib.hid HBAD
  have HERR := Lib.hid HERR
  have HBODY := Lib.hid HBODY
  have j0 : 0 < l.length := by omega
  have j1 : (1 : Int) < (l.length : Int) := by omega
  have j2 : (2 : Int) < (l.length : Int) := by omega
  have j3 : (3 : Int) < (l.length : Int) := by omega
  have h4 : 4 ≤ l.length := by omega
  have h4' : l.length ≤ 4 := by omega
  have hg5 : ¬ 1 < l.length - 4 := by omega
  clear hc k3 hlong hrest hread hdec h5 hdr
  go_enter Try.func19, Try.ntmps19
  go_wp2_with fail
  go_region_held3 (fun w' => w'.cell? ⟨b, o, none⟩ = some (.int .u8 (x0.toNat : Int)) ∧ w'.cell? ⟨b, o + 1, none⟩ = some (.int .u8 (x1.toNat : Int)) ∧ w'.cell? ⟨b, o + 2, none⟩ = some (.int .u8 (x2.toNat : Int)) ∧ w'.cell? ⟨b, o + 3, none⟩ = some (.int .u8 (x3.toNat : Int)))
    (first | (go_keep; done) | exact ⟨g0, g1, g2, g3⟩) (fail)
  go_wp2_with fail
  refine HBODY.out.mono ?_
  rintro e w1 ⟨d, rfl, hd, hb1⟩
  have hz1 := (hb1.block _ (by rw [DW_size]; omega)).trans (DW_zero w x0 x1 x2 x3 false)
  have hr1 := (hb1.block _ (by rw [DW_size]; omega)).trans (DW_row w x0 x1 x2 x3 false)
  have hw1 : Below w.heap.size w w1 := (DW_below _ _ _ _ _ _).trans (hb1.mono (by rw [DW_size]; omega))
  have hs1 := hb1.size
  rw [DW_size] at hs1
  obtain ⟨Ad, cd, rfl, e1, e2, e3⟩ := hd.rd
  rw [DW_size] at e3
  have HD := Lib.hid e3
  clear hb1 e3
  have q0 := cell_of_row _ _ 0 _ _ _ hz1
  have q1 := cell_of_row _ _ 1 _ _ _ hz1
  have q2 := cell_of_row _ _ 2 _ _ _ hz1
  have q3 := cell_of_row _ _ 3 _ _ _ hz1
  have q4 := cell_of_row _ _ 4 _ _ _ hz1
  have q5 := cell_of_row _ _ 5 _ _ _ hz1
  have q6 := cell_of_row _ _ 6 _ _ _ hz1
  have fz := fun j => frozen_of_row _ _ j _ _ hz1
  have r0 := fz 0
  have r1 := fz 1
  have r2 := fz 2
  have r3 := fz 3
  have r4 := fz 4
  have r5 := fz 5
  have r6 := fz 6
  have p0 := cell_of_row _ _ 0 _ _ _ hr1
  have p1 := cell_of_row _ _ 1 _ _ _ hr1
  have p2 := cell_of_row _ _ 2 _ _ _ hr1
  have p3 := cell_of_row _ _ 3 _ _ _ hr1
  have p4 := cell_of_row _ _ 4 _ _ _ hr1
  have p5 := cell_of_row _ _ 5 _ _ _ hr1
  have p6 := cell_of_row _ _ 6 _ _ _ hr1
  have fr := fun j => frozen_of_row _ _ j _ _ hr1
  have s4 := fr 4
  have s5 := fr 5
  have HZ1 := Lib.hid hz1
  have HR1 := Lib.hid hr1
  have HW1 := Lib.hid hw1
  clear hz1 hr1 hw1 fz fr
  by_cases he : (bodyL (widN false) rest).2.2 = 0
  · by_cases hk : chkC ⟨(x0.toNat : Int), (x1.toNat : Int), (x2.toNat : Int), (x3.toNat : Int), (bodyL (widN false) rest).1, (bodyL (widN false) rest).2.1, false⟩ = 0
    · have HV : Hid (decV l = ⟨(x0.toNat : Int), (x1.toNat : Int), (x2.toNat : Int), (x3.toNat : Int), (bodyL (widN false) rest).1, (bodyL (widN false) rest).2.1, false⟩ ∧ decE l = 0) := HYES.out he hk
      have hle := (bodyL_ok (widN false) rest hrl).resolve_right (by decide)
      have HCK := Lib.hid (fun (W : World) => pchk_any ⟨(x0.toNat : Int), (x1.toNat : Int), (x2.toNat : Int), (x3.toNat : Int), (bodyL (widN false) rest).1, (bodyL (widN false) rest).2.1, false⟩ Ad _ cd W rfl hle)
      have HK := Lib.hid hk
      simp only [Cm.val] at HCK
      generalize (bodyL (widN false) rest).2.1 = le at *
      generalize (bodyL (widN false) rest).1 = dat at *
      rw [he]
      clear he hk hle
      go_wp2_with fail
      refine (HCK.out _).mono ?_
      rintro e w2 ⟨rfl, hb2⟩
      rw [HK.out]
      have hzz : ((w1.setCell ⟨w.heap.size + 1, 4, none⟩ (.slice Ad dat.length cd)).setCell ⟨w.heap.size + 1, 5, none⟩ (.int .i64 le)).heap[w.heap.size]? = some (.cells #[.int .i64 0, .int .i64 0, .int .i64 0, .int .i64 0, .slice none 0 0, .int .i64 0, .bool false] 24 (0, 0)) := by rw [heap_setCell_other _ _ _ _ (by simp), heap_setCell_other _ _ _ _ (by simp)]; exact HZ1.out
      have hrr := setRow45 w1 (w.heap.size + 1) _ _ _ _ _ _ _ (.slice Ad dat.length cd) (.int .i64 le) HR1.out
      have hww : Below w.heap.size w ((w1.setCell ⟨w.heap.size + 1, 4, none⟩ (.slice Ad dat.length cd)).setCell ⟨w.heap.size + 1, 5, none⟩ (.int .i64 le)) := (HW1.out.setCell (p := ⟨w.heap.size + 1, 4, none⟩) (by show w.heap.size ≤ w.heap.size + 1; omega) _).setCell (p := ⟨w.heap.size + 1, 5, none⟩) (by show w.heap.size ≤ w.heap.size + 1; omega) _
      have hsz : ((w1.setCell ⟨w.heap.size + 1, 4, none⟩ (.slice Ad dat.length cd)).setCell ⟨w.heap.size + 1, 5, none⟩ (.int .i64 le)).heap.size = w1.heap.size := by simp
      have hz2 := (hb2.block _ (by rw [hsz]; omega)).trans hzz
      have hr2 := (hb2.block _ (by rw [hsz]; omega)).trans hrr
      have hw2 : Below w.heap.size w w2 := hww.trans (hb2.mono hww.size)
      have HB2 := Lib.hid hb2
      clear q0 q1 q2 q3 q4 q5 q6 r0 r1 r2 r3 r4 r5 r6 p0 p1 p2 p3 p4 p5 p6 s4 s5 hzz hrr hww hb2
      have q0 := cell_of_row _ _ 0 _ _ _ hz2
      have q1 := cell_of_row _ _ 1 _ _ _ hz2
      have q2 := cell_of_row _ _ 2 _ _ _ hz2
      have q3 := cell_of_row _ _ 3 _ _ _ hz2
      have q4 := cell_of_row _ _ 4 _ _ _ hz2
      have q5 := cell_of_row _ _ 5 _ _ _ hz2
      have q6 := cell_of_row _ _ 6 _ _ _ hz2
      have fz := fun j => frozen_of_row _ _ j _ _ hz2
      have r0 := fz 0
      have r1 := fz 1
      have r2 := fz 2
      have r3 := fz 3
      have r4 := fz 4
      have r5 := fz 5
      have r6 := fz 6
      have p0 := cell_of_row _ _ 0 _ _ _ hr2
      have p1 := cell_of_row _ _ 1 _ _ _ hr2
      have p2 := cell_of_row _ _ 2 _ _ _ hr2
      have p3 := cell_of_row _ _ 3 _ _ _ hr2
      have p4 := cell_of_row _ _ 4 _ _ _ hr2
      have p5 := cell_of_row _ _ 5 _ _ _ hr2
      have p6 := cell_of_row _ _ 6 _ _ _ hr2
      have HZ2 := Lib.hid hz2
      have HW2 := Lib.hid hw2
      clear hz2 hr2 hw2 fz hsz
      go_wp2_with fail
      refine bodyPost_ret (results_cell2 rfl _ _ w.heap.size 24 _ (0, 0) _ rfl (row7_set _ _ _ _ _ _ _ _ _ _ _ _ _ _ _ _ _ HZ2.out) Try.underlying24 rfl (by kernel_rfl)) rfl ⟨.slice Ad dat.length cd, by rw [HV.out.1, HV.out.2]; rfl, ?_, below7 HW2.out _ _ _ _ _ _ _⟩
      rw [HV.out.1]
      exact dec_data HD.out e1 e2 HB2.out
    · have HV : Hid (decV l = zeroC ∧ decE l = chkC ⟨(x0.toNat : Int), (x1.toNat : Int), (x2.toNat : Int), (x3.toNat : Int), (bodyL (widN false) rest).1, (bodyL (widN false) rest).2.1, false⟩) := HBAD.out he hk
      have hle := (bodyL_ok (widN false) rest hrl).resolve_right (by decide)
      have HCK := Lib.hid (fun (W : World) => pchk_any ⟨(x0.toNat : Int), (x1.toNat : Int), (x2.toNat : Int), (x3.toNat : Int), (bodyL (widN false) rest).1, (bodyL (widN false) rest).2.1, false⟩ Ad _ cd W rfl hle)
      have hkn : (chkC ⟨(x0.toNat : Int), (x1.toNat : Int), (x2.toNat : Int), (x3.toNat : Int), (bodyL (widN false) rest).1, (bodyL (widN false) rest).2.1, false⟩ != 0) = true := by rw [bne_iff_ne]; exact hk
      have HK := Lib.hid hk
      simp only [Cm.val] at HCK
      generalize (bodyL (widN false) rest).2.1 = le at *
      generalize (bodyL (widN false) rest).1 = dat at *
      rw [he]
      clear he hk hle
      go_wp2_with fail
      refine (HCK.out _).mono ?_
      rintro e w2 ⟨rfl, hb2⟩
      have hzz : ((w1.setCell ⟨w.heap.size + 1, 4, none⟩ (.slice Ad dat.length cd)).setCell ⟨w.heap.size + 1, 5, none⟩ (.int .i64 le)).heap[w.heap.size]? = some (.cells #[.int .i64 0, .int .i64 0, .int .i64 0, .int .i64 0, .slice none 0 0, .int .i64 0, .bool false] 24 (0, 0)) := by rw [heap_setCell_other _ _ _ _ (by simp), heap_setCell_other _ _ _ _ (by simp)]; exact HZ1.out
      have hrr := setRow45 w1 (w.heap.size + 1) _ _ _ _ _ _ _ (.slice Ad dat.length cd) (.int .i64 le) HR1.out
      have hww : Below w.heap.size w ((w1.setCell ⟨w.heap.size + 1, 4, none⟩ (.slice Ad dat.length cd)).setCell ⟨w.heap.size + 1, 5, none⟩ (.int .i64 le)) := (HW1.out.setCell (p := ⟨w.heap.size + 1, 4, none⟩) (by show w.heap.size ≤ w.heap.size + 1; omega) _).setCell (p := ⟨w.heap.size + 1, 5, none⟩) (by show w.heap.size ≤ w.heap.size + 1; omega) _
      have hsz : ((w1.setCell ⟨w.heap.size + 1, 4, none⟩ (.slice Ad dat.length cd)).setCell ⟨w.heap.size + 1, 5, none⟩ (.int .i64 le)).heap.size = w1.heap.size := by simp
      have hz2 := (hb2.block _ (by rw [hsz]; omega)).trans hzz
      have hr2 := (hb2.block _ (by rw [hsz]; omega)).trans hrr
      have hw2 : Below w.heap.size w w2 := hww.trans (hb2.mono hww.size)
      have HB2 := Lib.hid hb2
      clear q0 q1 q2 q3 q4 q5 q6 r0 r1 r2 r3 r4 r5 r6 p0 p1 p2 p3 p4 p5 p6 s4 s5 hzz hrr hww hb2
      have q0 := cell_of_row _ _ 0 _ _ _ hz2
      have q1 := cell_of_row _ _ 1 _ _ _ hz2
      have q2 := cell_of_row _ _ 2 _ _ _ hz2
      have q3 := cell_of_row _ _ 3 _ _ _ hz2
      have q4 := cell_of_row _ _ 4 _ _ _ hz2
      have q5 := cell_of_row _ _ 5 _ _ _ hz2
      have q6 := cell_of_row _ _ 6 _ _ _ hz2
      have fz := fun j => frozen_of_row _ _ j _ _ hz2
      have r0 := fz 0
      have r1 := fz 1
      have r2 := fz 2
      have r3 := fz 3
      have r4 := fz 4
      have r5 := fz 5
      have r6 := fz 6
      have p0 := cell_of_row _ _ 0 _ _ _ hr2
      have p1 := cell_of_row _ _ 1 _ _ _ hr2
      have p2 := cell_of_row _ _ 2 _ _ _ hr2
      have p3 := cell_of_row _ _ 3 _ _ _ hr2
      have p4 := cell_of_row _ _ 4 _ _ _ hr2
      have p5 := cell_of_row _ _ 5 _ _ _ hr2
      have p6 := cell_of_row _ _ 6 _ _ _ hr2
      have HZ2 := Lib.hid hz2
      have HW2 := Lib.hid hw2
      clear hz2 hr2 hw2 fz hsz
      go_wp2_with fail
      exact bodyPost_ret (results_cell2 rfl _ _ w.heap.size 24 _ (0, 0) _ rfl (row7_set _ _ _ _ _ _ _ _ _ _ _ _ _ _ _ _ _ HZ2.out) Try.underlying24 rfl (by kernel_rfl)) rfl ⟨.slice none 0 0, by rw [HV.out.1, HV.out.2]; rfl, by rw [HV.out.1]; exact SL.nil _ _ _ _ (Nat.zero_le _), below7 HW2.out _ _ _ _ _ _ _⟩
  · have HV : Hid (decV l = zeroC ∧ decE l = (bodyL (widN false) rest).2.2) := HERR.out he
    have hen : ((bodyL (widN false) rest).2.2 != 0) = true := by rw [bne_iff_ne]; exact he
    generalize (bodyL (widN false) rest).2.2 = er at *
    clear he
    go_wp2_with fail
    exact bodyPost_ret (results_cell2 rfl _ _ w.heap.size 24 _ (0, 0) _ rfl (row7_set _ _ _ _ _ _ _ _ _ _ _ _ _ _ _ _ _ (by rw [heap_setCell_other _ _ _ _ (by simp), heap_setCell_other _ _ _ _ (by simp)]; exact HZ1.out)) Try.underlying24 rfl (by kernel_rfl)) rfl ⟨.slice none 0 0, by rw [HV.out.1, HV.out.2]; rfl, by rw [HV.out.1]; exact SL.nil _ _ _ _ (Nat.zero_le _), below7 ((HW1.out.setCell (p := ⟨w.heap.size + 1, 4, none⟩) (by show w.heap.size ≤ w.heap.size + 1; omega) _).setCell (p := ⟨w.heap.size + 1, 5, none⟩) (by show w.heap.size ≤ w.heap.size + 1; omega) _) _ _ _ _ _ _ _⟩

set_option maxRecDepth 100000 in
set_option maxHeartbeats 3200000 in
theorem pdec_B2 (l : List UInt8) (A : Option Addr) (c : Nat) (w : World) (h : SL w w.heap.size (.slice A l.length c) l) (h5 : l.length = 4) (hc4 : ¬ c = 4) : Calls Try.prog 19 #[.slice A l.length c] w (DecR l w) := by
  obtain ⟨A', c', e, k1, k2, k3⟩ := h
  simp only [Value.slice.injEq, true_and] at e
  obtain ⟨rfl, rfl⟩ := e
  unfold maxLen at k2
  obtain ⟨b, o, rfl, hbl, hc⟩ := k3 (by omega)
  have g0 : w.cell? ⟨b, o, none⟩ = some (.int .u8 ((l.getD 0 0).toNat : Int)) := hc 0 (by omega)
  have g1 := hc 1 (by omega)
  have g2 := hc 2 (by omega)
  have g3 := hc 3 (by omega)
  have hlong : longB l = false := by rw [longB, h5]; rfl
  have hrest : restL l = l.drop 4 := by rw [restL, hlong]; rfl
  have hread : readC l = ⟨((l.getD 0 0).toNat : Int), ((l.getD 1 0).toNat : Int), ((l.getD 2 0).toNat : Int), ((l.getD 3 0).toNat : Int), (bodyL (widN false) (l.drop 4)).1, (bodyL (widN false) (l.drop 4)).2.1, false⟩ := by rw [readC, hlong, hrest]
  have hdec : decE l = if (bodyL (widN false) (l.drop 4)).2.2 ≠ 0 then (bodyL (widN false) (l.drop 4)).2.2 else chkC (readC l) := by rw [decE, if_neg (by omega), hlong, hrest]
  rw [hread] at hdec
  have HYES : (bodyL (widN false) (l.drop 4)).2.2 = 0 → chkC ⟨((l.getD 0 0).toNat : Int), ((l.getD 1 0).toNat : Int), ((l.getD 2 0).toNat : Int), ((l.getD 3 0).toNat : Int), (bodyL (widN false) (l.drop 4)).1, (bodyL (widN false) (l.drop 4)).2.1, false⟩ = 0 → (decV l = ⟨((l.getD 0 0).toNat : Int), ((l.getD 1 0).toNat : Int), ((l.getD 2 0).toNat : Int), ((l.getD 3 0).toNat : Int), (bodyL (widN false) (l.drop 4)).1, (bodyL (widN false) (l.drop 4)).2.1, false⟩ ∧ decE l = 0) := by
    intro a1 a2
    rw [if_neg (by rw [a1]; decide), a2] at hdec
    exact ⟨by rw [decV, if_pos hdec, hread], hdec⟩
  have HBAD : (bodyL (widN false) (l.drop 4)).2.2 = 0 → chkC ⟨((l.getD 0 0).toNat : Int), ((l.getD 1 0).toNat : Int), ((l.getD 2 0).toNat : Int), ((l.getD 3 0).toNat : Int), (bodyL (widN false) (l.drop 4)).1, (bodyL (widN false) (l.drop 4)).2.1, false⟩ ≠ 0 → (decV l = zeroC ∧ decE l = chkC ⟨((l.getD 0 0).toNat : Int), ((l.getD 1 0).toNat : Int), ((l.getD 2 0).toNat : Int), ((l.getD 3 0).toNat : Int), (bodyL (widN false) (l.drop 4)).1, (bodyL (widN false) (l.drop 4)).2.1, false⟩) := by
    intro a1 a2
    rw [if_neg (by rw [a1]; decide)] at hdec
    exact ⟨by rw [decV, if_neg (by rw [hdec]; exact a2)], hdec⟩
  have HERR : (bodyL (widN false) (l.drop 4)).2.2 ≠ 0 → (decV l = zeroC ∧ decE l = (bodyL (widN false) (l.drop 4)).2.2) := by
    intro a1
    rw [if_pos a1] at hdec
    exact ⟨by rw [decV, if_neg (by rw [hdec]; exact a1)], hdec⟩
  have hx0 := (l.getD 0 0).toNat_lt
  have hx1 := (l.getD 1 0).toNat_lt
  have hx2 := (l.getD 2 0).toNat_lt
  have hx3 := (l.getD 3 0).toNat_lt
  have hdr : l.drop 4 = [] := List.drop_eq_nil_of_le (by omega)
  have HBODY := pbody_any (l.drop 4) (.slice (some ⟨b, o + 4, none⟩) 0 (c - 4)) false (DW w (l.getD 0 0) (l.getD 1 0) (l.getD 2 0) (l.getD 3 0) false) (by rw [hdr]; exact SL.nil _ _ _ _ (by unfold maxLen; omega)) (by rw [hdr]; exact Nat.zero_le _)
  unfold BodR at HBODY
  have hrl : (l.drop 4).length ≤ 80000 := by rw [hdr]; exact Nat.zero_le _
  generalize l.drop 4 = rest at *
  generalize l.getD 0 0 = x0 at *
  generalize l.getD 1 0 = x1 at *
  generalize l.getD 2 0 = x2 at *
  generalize l.getD 3 0 = x3 at *
  have HYES := Lib.hid HYES
  have HBAD := Lib.hid HBAD
  have HERR := Lib.hid HERR
  have HBODY := Lib.hid HBODY
  have j0 : 0 < l.length := by omega
  have j1 : (1 : Int) < (l.length : Int) := by omega
  have j2 : (2 : Int) < (l.length : Int) := by omega
  have j3 : (3 : Int) < (l.length : Int) := by omega
  have h4 : 4 ≤ l.length := by omega
  have h4' : l.length ≤ 4 := by omega
  have hg5 : ¬ 1 < l.length - 4 := by omega
  clear hc k3 hlong hrest hread hdec h5 hdr
  go_enter Try.func19, Try.ntmps19
  go_wp2_with fail
  go_region_held3 (fun w' => w'.cell? ⟨b, o, none⟩ = some (.int .u8 (x0.toNat : Int)) ∧ w'.cell? ⟨b, o + 1, none⟩ = some (.int .u8 (x1.toNat : Int)) ∧ w'.cell? ⟨b, o + 2, none⟩ = some (.int .u8 (x2.toNat : Int)) ∧ w'.cell? ⟨b, o + 3, none⟩ = some (.int .u8 (x3.toNat : Int)))
    (first | (go_keep; done) | exact ⟨g0, g1, g2, g3⟩) (fail)
  go_wp2_with fail
  refine HBODY.out.mono ?_
  rintro e w1 ⟨d, rfl, hd, hb1⟩
  have hz1 := (hb1.block _ (by rw [DW_size]; omega)).trans (DW_zero w x0 x1 x2 x3 false)
  have hr1 := (hb1.block _ (by rw [DW_size]; omega)).trans (DW_row w x0 x1 x2 x3 false)
  have hw1 : Below w.heap.size w w1 := (DW_below _ _ _ _ _ _).trans (hb1.mono (by rw [DW_size]; omega))
  have hs1 := hb1.size
  rw [DW_size] at hs1
  obtain ⟨Ad, cd, rfl, e1, e2, e3⟩ := hd.rd
  rw [DW_size] at e3
  have HD := Lib.hid e3
  clear hb1 e3
  have q0 := cell_of_row _ _ 0 _ _ _ hz1
  have q1 := cell_of_row _ _ 1 _ _ _ hz1
  have q2 := cell_of_row _ _ 2 _ _ _ hz1
  have q3 := cell_of_row _ _ 3 _ _ _ hz1
  have q4 := cell_of_row _ _ 4 _ _ _ hz1
  have q5 := cell_of_row _ _ 5 _ _ _ hz1
  have q6 := cell_of_row _ _ 6 _ _ _ hz1
  have fz := fun j => frozen_of_row _ _ j _ _ hz1
  have r0 := fz 0
  have r1 := fz 1
  have r2 := fz 2
  have r3 := fz 3
  have r4 := fz 4
  have r5 := fz 5
  have r6 := fz 6
  have p0 := cell_of_row _ _ 0 _ _ _ hr1
  have p1 := cell_of_row _ _ 1 _ _ _ hr1
  have p2 := cell_of_row _ _ 2 _ _ _ hr1
  have p3 := cell_of_row _ _ 3 _ _ _ hr1
  have p4 := cell_of_row _ _ 4 _ _ _ hr1
  have p5 := cell_of_row _ _ 5 _ _ _ hr1
  have p6 := cell_of_row _ _ 6 _ _ _ hr1
  have fr := fun j => frozen_of_row _ _ j _ _ hr1
  have s4 := fr 4
  have s5 := fr 5
  have HZ1 := Lib.hid hz1
  have HR1 := Lib.hid hr1
  have HW1 := Lib.hid hw1
  clear hz1 hr1 hw1 fz fr
  by_cases he : (bodyL (widN false) rest).2.2 = 0
  · by_cases hk : chkC ⟨(x0.toNat : Int), (x1.toNat : Int), (x2.toNat : Int), (x3.toNat : Int), (bodyL (widN false) rest).1, (bodyL (widN false) rest).2.1, false⟩ = 0
    · have HV : Hid (decV l = ⟨(x0.toNat : Int), (x1.toNat : Int), (x2.toNat : Int), (x3.toNat : Int), (bodyL (widN false) rest).1, (bodyL (widN false) rest).2.1, false⟩ ∧ decE l = 0) := HYES.out he hk
      have hle := (bodyL_ok (widN false) rest hrl).resolve_right (by decide)
      have HCK := Lib.hid (fun (W : World) => pchk_any ⟨(x0.toNat : Int), (x1.toNat : Int), (x2.toNat : Int), (x3.toNat : Int), (bodyL (widN false) rest).1, (bodyL (widN false) rest).2.1, false⟩ Ad _ cd W rfl hle)
      have HK := Lib.hid hk
      simp only [Cm.val] at HCK
      generalize (bodyL (widN false) rest).2.1 = le at *
      generalize (bodyL (widN false) rest).1 = dat at *
      rw [he]
      clear he hk hle
      go_wp2_with fail
      refine (HCK.out _).mono ?_
      rintro e w2 ⟨rfl, hb2⟩
      rw [HK.out]
      have hzz : ((w1.setCell ⟨w.heap.size + 1, 4, none⟩ (.slice Ad dat.length cd)).setCell ⟨w.heap.size + 1, 5, none⟩ (.int .i64 le)).heap[w.heap.size]? = some (.cells #[.int .i64 0, .int .i64 0, .int .i64 0, .int .i64 0, .slice none 0 0, .int .i64 0, .bool false] 24 (0, 0)) := by rw [heap_setCell_other _ _ _ _ (by simp), heap_setCell_other _ _ _ _ (by simp)]; exact HZ1.out
      have hrr := setRow45 w1 (w.heap.size + 1) _ _ _ _ _ _ _ (.slice Ad dat.length cd) (.int .i64 le) HR1.out
      have hww : Below w.heap.size w ((w1.setCell ⟨w.heap.size + 1, 4, none⟩ (.slice Ad dat.length cd)).setCell ⟨w.heap.size + 1, 5, none⟩ (.int .i64 le)) := (HW1.out.setCell (p := ⟨w.heap.size + 1, 4, none⟩) (by show w.heap.size ≤ w.heap.size + 1; omega) _).setCell (p := ⟨w.heap.size + 1, 5, none⟩) (by show w.heap.size ≤ w.heap.size + 1; omega) _
      have hsz : ((w1.setCell ⟨w.heap.size + 1, 4, none⟩ (.slice Ad dat.length cd)).setCell ⟨w.heap.size + 1, 5, none⟩ (.int .i64 le)).heap.size = w1.heap.size := by simp
      have hz2 := (hb2.block _ (by rw [hsz]; omega)).trans hzz
      have hr2 := (hb2.block _ (by rw [hsz]; omega)).trans hrr
      have hw2 : Below w.heap.size w w2 := hww.trans (hb2.mono hww.size)
      have HB2 := Lib.hid hb2
      clear q0 q1 q2 q3 q4 q5 q6 r0 r1 r2 r3 r4 r5 r6 p0 p1 p2 p3 p4 p5 p6 s4 s5 hzz hrr hww hb2
      have q0 := cell_of_row _ _ 0 _ _ _ hz2
      have q1 := cell_of_row _ _ 1 _ _ _ hz2
      have q2 := cell_of_row _ _ 2 _ _ _ hz2
      have q3 := cell_of_row _ _ 3 _ _ _ hz2
      have q4 := cell_of_row _ _ 4 _ _ _ hz2
      have q5 := cell_of_row _ _ 5 _ _ _ hz2
      have q6 := cell_of_row _ _ 6 _ _ _ hz2
      have fz := fun j => frozen_of_row _ _ j _ _ hz2
      have r0 := fz 0
      have r1 := fz 1
      have r2 := fz 2
      have r3 := fz 3
      have r4 := fz 4
      have r5 := fz 5
      have r6 := fz 6
      have p0 := cell_of_row _ _ 0 _ _ _ hr2
      have p1 := cell_of_row _ _ 1 _ _ _ hr2
      have p2 := cell_of_row _ _ 2 _ _ _ hr2
      have p3 := cell_of_row _ _ 3 _ _ _ hr2
      have p4 := cell_of_row _ _ 4 _ _ _ hr2
      have p5 := cell_of_row _ _ 5 _ _ _ hr2
      have p6 := cell_of_row _ _ 6 _ _ _ hr2
      have HZ2 := Lib.hid hz2
      have HW2 := Lib.hid hw2
      clear hz2 hr2 hw2 fz hsz
      go_wp2_with fail
      refine bodyPost_ret (results_cell2 rfl _ _ w.heap.size 24 _ (0, 0) _ rfl (row7_set _ _ _ _ _ _ _ _ _ _ _ _ _ _ _ _ _ HZ2.out) Try.underlying24 rfl (by kernel_rfl)) rfl ⟨.slice Ad dat.length cd, by rw [HV.out.1, HV.out.2]; rfl, ?_, below7 HW2.out _ _ _ _ _ _ _⟩
      rw [HV.out.1]
      exact dec_data HD.out e1 e2 HB2.out
    · have HV : Hid (decV l = zeroC ∧ decE l = chkC ⟨(x0.toNat : Int), (x1.toNat : Int), (x2.toNat : Int), (x3.toNat : Int), (bodyL (widN false) rest).1, (bodyL (widN false) rest).2.1, false⟩) := HBAD.out he hk
      have hle := (bodyL_ok (widN false) rest hrl).resolve_right (by decide)
      have HCK := Lib.hid (fun (W : World) => pchk_any ⟨(x0.toNat : Int), (x1.toNat : Int), (x2.toNat : Int), (x3.toNat : Int), (bodyL (widN false) rest).1, (bodyL (widN false) rest).2.1, false⟩ Ad _ cd W rfl hle)
      have hkn : (chkC ⟨(x0.toNat : Int), (x1.toNat : Int), (x2.toNat : Int), (x3.toNat : Int), (bodyL (widN false) rest).1, (bodyL (widN false) rest).2.1, false⟩ != 0) = true := by rw [bne_iff_ne]; exact hk
      have HK := Lib.hid hk
      simp only [Cm.val] at HCK
      generalize (bodyL (widN false) rest).2.1 = le at *
      generalize (bodyL (widN false) rest).1 = dat at *
      rw [he]
      clear he hk hle
      go_wp2_with fail
      refine (HCK.out _).mono ?_
      rintro e w2 ⟨rfl, hb2⟩
      have hzz : ((w1.setCell ⟨w.heap.size + 1, 4, none⟩ (.slice Ad dat.length cd)).setCell ⟨w.heap.size + 1, 5, none⟩ (.int .i64 le)).heap[w.heap.size]? = some (.cells #[.int .i64 0, .int .i64 0, .int .i64 0, .int .i64 0, .slice none 0 0, .int .i64 0, .bool false] 24 (0, 0)) := by rw [heap_setCell_other _ _ _ _ (by simp), heap_setCell_other _ _ _ _ (by simp)]; exact HZ1.out
      have hrr := setRow45 w1 (w.heap.size + 1) _ _ _ _ _ _ _ (.slice Ad dat.length cd) (.int .i64 le) HR1.out
      have hww : Below w.heap.size w ((w1.setCell ⟨w.heap.size + 1, 4, none⟩ (.slice Ad dat.length cd)).setCell ⟨w.heap.size + 1, 5, none⟩ (.int .i64 le)) := (HW1.out.setCell (p := ⟨w.heap.size + 1, 4, none⟩) (by show w.heap.size ≤ w.heap.size + 1; omega) _).setCell (p := ⟨w.heap.size + 1, 5, none⟩) (by show w.heap.size ≤ w.heap.size + 1; omega) _
      have hsz : ((w1.setCell ⟨w.heap.size + 1, 4, none⟩ (.slice Ad dat.length cd)).setCell ⟨w.heap.size + 1, 5, none⟩ (.int .i64 le)).heap.size = w1.heap.size := by simp
      have hz2 := (hb2.block _ (by rw [hsz]; omega)).trans hzz
      have hr2 := (hb2.block _ (by rw [hsz]; omega)).trans hrr
      have hw2 : Below w.heap.size w w2 := hww.trans (hb2.mono hww.size)
      have HB2 := Lib.hid hb2
      clear q0 q1 q2 q3 q4 q5 q6 r0 r1 r2 r3 r4 r5 r6 p0 p1 p2 p3 p4 p5 p6 s4 s5 hzz hrr hww hb2
      have q0 := cell_of_row _ _ 0 _ _ _ hz2
      have q1 := cell_of_row _ _ 1 _ _ _ hz2
      have q2 := cell_of_row _ _ 2 _ _ _ hz2
      have q3 := cell_of_row _ _ 3 _ _ _ hz2
      have q4 := cell_of_row _ _ 4 _ _ _ hz2
      have q5 := cell_of_row _ _ 5 _ _ _ hz2
      have q6 := cell_of_row _ _ 6 _ _ _ hz2
      have fz := fun j => frozen_of_row _ _ j _ _ hz2
      have r0 := fz 0
      have r1 := fz 1
      have r2 := fz 2
      have r3 := fz 3
      have r4 := fz 4
      have r5 := fz 5
      have r6 := fz 6
      have p0 := cell_of_row _ _ 0 _ _ _ hr2
      have p1 := cell_of_row _ _ 1 _ _ _ hr2
      have p2 := cell_of_row _ _ 2 _ _ _ hr2
      have p3 := cell_of_row _ _ 3 _ _ _ hr2
      have p4 := cell_of_row _ _ 4 _ _ _ hr2
      have p5 := cell_of_row _ _ 5 _ _ _ hr2
      have p6 := cell_of_row _ _ 6 _ _ _ hr2
      have HZ2 := Lib.hid hz2
      have HW2 := Lib.hid hw2
      clear hz2 hr2 hw2 fz hsz
      go_wp2_with fail
      exact bodyPost_ret (results_cell2 rfl _ _ w.heap.size 24 _ (0, 0) _ rfl (row7_set _ _ _ _ _ _ _ _ _ _ _ _ _ _ _ _ _ HZ2.out) Try.underlying24 rfl (by kernel_rfl)) rfl ⟨.slice none 0 0, by rw [HV.out.1, HV.out.2]; rfl, by rw [HV.out.1]; exact SL.nil _ _ _ _ (Nat.zero_le _), below7 HW2.out _ _ _ _ _ _ _⟩
  · have HV : Hid (decV l = zeroC ∧ decE l = (bodyL (widN false) rest).2.2) := HERR.out he
    have hen : ((bodyL (widN false) rest).2.2 != 0) = true := by rw [bne_iff_ne]; exact he
    generalize (bodyL (widN false) rest).2.2 = er at *
    clear he
    go_wp2_with fail
    exact bodyPost_ret (results_cell2 rfl _ _ w.heap.size 24 _ (0, 0) _ rfl (row7_set _ _ _ _ _ _ _ _ _ _ _ _ _ _ _ _ _ (by rw [heap_setCell_other _ _ _ _ (by simp), heap_setCell_other _ _ _ _ (by simp)]; exact HZ1.out)) Try.underlying24 rfl (by kernel_rfl)) rfl ⟨.slice none 0 0, by rw [HV.out.1, HV.out.2]; rfl, by rw [HV.out.1]; exact SL.nil _ _ _ _ (Nat.zero_le _), below7 ((HW1.out.setCell (p := ⟨w.heap.size + 1, 4, none⟩) (by show w.heap.size ≤ w.heap.size + 1; omega) _).setCell (p := ⟨w.heap.size + 1, 5, none⟩) (by show w.heap.size ≤ w.heap.size + 1; omega) _) _ _ _ _ _ _ _⟩

theorem pdec_any (l : List UInt8) (v : Value) (w : World) (h : SL w w.heap.size v l) (hl : l.length ≤ 80000) : Calls Try.prog 19 #[v] w (DecR l w) := by
  by_cases h4 : l.length < 4
  · exact pdec_few l v w h h4
  by_cases h5 : l.length = 4
  · have h' := h
    obtain ⟨A, c, rfl, _, _, _⟩ := h
    by_cases hc : c = 4
    · exact pdec_B1 l A c w h' h5 hc
    · exact pdec_B2 l A c w h' h5 hc
  by_cases h6 : l.length = 5
  · exact pdec_C1 l v w h hl h6
  by_cases hb : l.getD 4 0 = 0
  · exact pdec_C2 l v w h hl (by omega) hb
  · exact pdec_C3 l v w h hl (by omega) hb
end Go.Proofs.Ytjoibonbmalbdaa
