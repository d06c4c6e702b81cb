/-
  The walk of the reference's Decode.
-/
import Derived.Test.YtjoibonbmalbdaaExd
import Derived.Test.YtjoibonbmalbdaaLcm
import Derived.Test.YtjoibonbmalbdaaDecb
import Derived.Deep.RegionWith
namespace Go.Proofs.Ytjoibonbmalbdaa
set_option linter.unusedVariables false
set_option linter.unusedSimpArgs false
open Go.RowKit

theorem ShR.yes {a0 a1 a2 a3 : Int} {long : Bool} {W : Nat} {l m : List UInt8} {n : Int} (h : bodyL W l = (m, n, 0)) {w w' : World} {e : Ending} (hr : ShR a0 a1 a2 a3 long W l w e w') :
    ∃ d, e = .returned (.tuple #[.agg #[.int .i64 a0, .int .i64 a1, .int .i64 a2, .int .i64 a3, d, .int .i64 n, .bool long], .int .i64 0]) ∧ SL w' w'.heap.size d m ∧ Below w.heap.size w w' := by
  obtain ⟨d, h1, h2, h3⟩ := hr
  have e : shV a0 a1 a2 a3 long W l = ⟨a0, a1, a2, a3, m, n, long⟩ := by rw [shV, h]; rfl
  rw [e, h] at h1
  rw [e] at h2
  exact ⟨d, h1, h2, h3⟩
theorem ShR.no {a0 a1 a2 a3 : Int} {long : Bool} {W : Nat} {l m : List UInt8} {n er : Int} (h : bodyL W l = (m, n, er)) (he : er ≠ 0) {w w' : World} {e : Ending} (hr : ShR a0 a1 a2 a3 long W l w e w') :
    ∃ d, e = .returned (.tuple #[.agg #[.int .i64 0, .int .i64 0, .int .i64 0, .int .i64 0, d, .int .i64 0, .bool false], .int .i64 er]) ∧ SL w' w'.heap.size d [] ∧ Below w.heap.size w w' := by
  obtain ⟨d, h1, h2, h3⟩ := hr
  have e : shV a0 a1 a2 a3 long W l = zeroC := by rw [shV, h]; simp [he]
  rw [e, h] at h1
  rw [e] at h2
  exact ⟨d, h1, h2, h3⟩
theorem not_cmd_block {W : World} {g b o : Nat} {n : Int} {a0 a1 a2 a3 le : Int} {lg : Bool} {A : Option Addr} {k c : Nat} (hz : W.heap[g]? = some (.cells #[.int .i64 a0, .int .i64 a1, .int .i64 a2, .int .i64 a3, .slice A k c, .int .i64 le, .bool lg] 24 (0, 0))) (hc : W.cell? ⟨b, o, none⟩ = some (.int .u8 n)) : b ≠ g := by
  rintro rfl
  rw [cell_of_row W b o _ 24 (0, 0) hz] at hc
  match o, hc with
  | 0, h | 1, h | 2, h | 3, h | 4, h | 5, h | 6, h => simp at h
  | o + 7, h => simp at h
/-- Seven cells of a command's block set, and what a slice of bytes reads. -/
theorem sl_set7 {w : World} {g : Nat} {v : Value} {l : List UInt8} {a0 a1 a2 a3 le : Int} {lg : Bool} {A : Option Addr} {k c : Nat} (x0 x1 x2 x3 x4 x5 x6 : Value) (h : SL w w.heap.size v l) (hz : w.heap[g]? = some (.cells #[.int .i64 a0, .int .i64 a1, .int .i64 a2, .int .i64 a3, .slice A k c, .int .i64 le, .bool lg] 24 (0, 0))) :
    SL (((((((w.setCell ⟨g, 0, none⟩ x0).setCell ⟨g, 1, none⟩ x1).setCell ⟨g, 2, none⟩ x2).setCell ⟨g, 3, none⟩ x3).setCell ⟨g, 4, none⟩ x4).setCell ⟨g, 5, none⟩ x5).setCell ⟨g, 6, none⟩ x6) w.heap.size v l := by
  obtain ⟨A', c', rfl, h1, h2, h3⟩ := h
  refine ⟨A', c', rfl, h1, h2, fun hp => ?_⟩
  obtain ⟨b, o, rfl, hb, hc⟩ := h3 hp
  have hne := not_cmd_block hz (hc 0 hp)
  refine ⟨b, o, rfl, hb, fun k hk => ?_⟩
  rw [far_set _ _ hne, far_set _ _ hne, far_set _ _ hne, far_set _ _ hne, far_set _ _ hne, far_set _ _ hne, far_set _ _ hne]
  exact hc k hk
theorem size_set7 (w : World) (g : Nat) (x0 x1 x2 x3 x4 x5 x6 : Value) : (((((((w.setCell ⟨g, 0, none⟩ x0).setCell ⟨g, 1, none⟩ x1).setCell ⟨g, 2, none⟩ x2).setCell ⟨g, 3, none⟩ x3).setCell ⟨g, 4, none⟩ x4).setCell ⟨g, 5, none⟩ x5).setCell ⟨g, 6, none⟩ x6).heap.size = w.heap.size := by simp
theorem other_set7 (w : World) (g h : Nat) (x0 x1 x2 x3 x4 x5 x6 : Value) (hn : h ≠ g) : (((((((w.setCell ⟨g, 0, none⟩ x0).setCell ⟨g, 1, none⟩ x1).setCell ⟨g, 2, none⟩ x2).setCell ⟨g, 3, none⟩ x3).setCell ⟨g, 4, none⟩ x4).setCell ⟨g, 5, none⟩ x5).setCell ⟨g, 6, none⟩ x6).heap[h]? = w.heap[h]? := by
  have e : ∀ (W : World) (i : Nat) (x : Value), (W.setCell ⟨g, i, none⟩ x).heap[h]? = W.heap[h]? := fun W i x => heap_setCell_other _ _ _ _ (by simpa using hn)
  rw [e, e, e, e, e, e, e]

set_option maxRecDepth 100000 in
set_option maxHeartbeats 3200000 in
theorem rdc_Ayes (l : List UInt8) (v : Value) (w : World) (h : SL w w.heap.size v l) (hl : l.length ≤ 80000) (h6 : 5 < l.length) (h0 : l.getD 4 0 = 0) (dat : List UInt8) (le : Int) (hb0 : bodyL 2 ((l.drop 4).drop 1) = (dat, le, 0)) (hle : -9223372036854775808 ≤ le ∧ le ≤ 9223372036854775807) : Calls Try.prog 20 #[v] w (DecR l w) := by
  have HS := Lib.hid h
  obtain ⟨A, c, rfl, k1, k2, k3⟩ := h
  unfold maxLen at k2
  obtain ⟨b, o, rfl, hbl, hc⟩ := k3 (by omega)
  have g0 : w.cell? ⟨b, o, none⟩ = some (.int .u8 ((l.getD 0 0).toNat : Int)) := hc 0 (by omega)
  have g1 := hc 1 (by omega)
  have g2 := hc 2 (by omega)
  have g3 := hc 3 (by omega)
  have g4 := hc 4 (by omega)
  rw [h0] at g4
  have hlong : longB l = true := by rw [longB, h0, decide_eq_true h6]; rfl
  have hrest : restL l = (l.drop 4).drop 1 := by rw [restL, hlong, List.drop_drop]; rfl
  have hread : readC l = ⟨((l.getD 0 0).toNat : Int), ((l.getD 1 0).toNat : Int), ((l.getD 2 0).toNat : Int), ((l.getD 3 0).toNat : Int), dat, le, true⟩ := by rw [readC, hlong, hrest, show widN true = 2 from rfl, hb0]
  have hdec : decE l = chkC (readC l) := by rw [decE, if_neg (by omega), hlong, hrest, show widN true = 2 from rfl, hb0, if_neg (by simp)]
  have HYES := Lib.hid (fun (hk : chkC (readC l) = 0) => (show decV l = readC l from by rw [decV, if_pos (by rw [hdec]; exact hk)]))
  have HNO := Lib.hid (fun (hk : chkC (readC l) ≠ 0) => (show decV l = zeroC from by rw [decV, if_neg (by rw [hdec]; exact hk)]))
  rw [hread] at hdec HYES HNO
  have hx0 := (l.getD 0 0).toNat_lt
  have hx1 := (l.getD 1 0).toNat_lt
  have hx2 := (l.getD 2 0).toNat_lt
  have hx3 := (l.getD 3 0).toNat_lt
  have HEX := fun (W : World) (hW : Below w.heap.size w W) => (rex_any ((l.getD 0 0).toNat : Int) ((l.getD 1 0).toNat : Int) ((l.getD 2 0).toNat : Int) ((l.getD 3 0).toNat : Int) (l.drop 4) (.slice (some ⟨b, o + 4, none⟩) (l.length - 4) (c - 4)) W ((HS.out.cut (by omega)).on hW) (by rw [List.length_drop]; omega) (by rw [List.length_drop]; omega)).mono fun _ _ hr => ShR.yes hb0 hr
  simp only [Cm.val] at HEX
  have hq5 : decide (5 < (l.length : Int)) = decide (5 < l.length) := by congr 1; rw [eq_iff_iff]; omega
  generalize l.getD 0 0 = x0 at *
  generalize l.getD 1 0 = x1 at *
  generalize l.getD 2 0 = x2 at *
  generalize l.getD 3 0 = x3 at *
  have HEX2 := Lib.hid HEX
  clear HEX
  have HDEC := Lib.hid hdec
  have HCK0 := (fun (Ad : Option Addr) (cd : Nat) (W : World) => rchk_any ⟨(x0.toNat : Int), (x1.toNat : Int), (x2.toNat : Int), (x3.toNat : Int), dat, le, true⟩ Ad dat.length cd W rfl hle)
  have HCKV : Hid (Cm.val ⟨(x0.toNat : Int), (x1.toNat : Int), (x2.toNat : Int), (x3.toNat : Int), dat, le, true⟩ = fun d => .agg #[.int .i64 (x0.toNat : Int), .int .i64 (x1.toNat : Int), .int .i64 (x2.toNat : Int), .int .i64 (x3.toNat : Int), d, .int .i64 le, .bool true]) := rfl
  obtain ⟨ck, hck⟩ : ∃ ck, ck = chkC ⟨(x0.toNat : Int), (x1.toNat : Int), (x2.toNat : Int), (x3.toNat : Int), dat, le, true⟩ := ⟨_, rfl⟩
  rw [← hck] at HCK0 HDEC HYES HNO
  simp only [Cm.val] at HCK0
  have HCK := Lib.hid HCK0
  clear HCK0
  have j0 : 0 < l.length := by omega
  have j1 : (1 : Int) < (l.length : Int) := by omega
  have j2 : (2 : Int) < (l.length : Int) := by omega
  have j3 : (3 : Int) < (l.length : Int) := by omega
  have j4 : (4 : Int) < (l.length : Int) := by omega
  have hne : ¬ c = 4 := by omega
  have HDR := Lib.hid (DW_row w x0 x1 x2 x3 false)
  have HDZ := Lib.hid (DW_zero w x0 x1 x2 x3 false)
  have HDS : Hid (w.heap.size + 1 < (DW w x0 x1 x2 x3 false).heap.size) := by show _ < _; rw [DW_size]; omega
  have HDB := Lib.hid (DW_below w x0 x1 x2 x3 false)
  clear hc k3 h0 hlong hrest hread hdec hb0 hq5 hck hle
  go_enter Try.func20, Try.ntmps20
  go_wp2_with fail
  go_region_held3 (fun w' => w'.cell? ⟨b, o, none⟩ = some (.int .u8 (x0.toNat : Int)) ∧ w'.cell? ⟨b, o + 1, none⟩ = some (.int .u8 (x1.toNat : Int)) ∧ w'.cell? ⟨b, o + 2, none⟩ = some (.int .u8 (x2.toNat : Int)) ∧ w'.cell? ⟨b, o + 3, none⟩ = some (.int .u8 (x3.toNat : Int)))
    (first | (go_keep; done) | exact ⟨g0, g1, g2, g3⟩) (fail)
  go_wp2_with fail
  go_region_with ((go_at_call 47; refine (HEX2.out _ (by first | exact HDB.out | exact HDB.out.drew)).mono ?_; rintro e w1 ⟨d, rfl, hd, hb1'⟩; have hb1 : Below (DW w x0 x1 x2 x3 false).heap.size (DW w x0 x1 x2 x3 false) w1 := (by first | exact hb1' | exact ((Below.refl _ _).drew).trans hb1'); clear hb1'; have hr1 := (hb1.block _ HDS.out).trans HDR.out; have hz1 := (hb1.block w.heap.size (by have := HDS.out; omega)).trans HDZ.out; have HD := Lib.hid hd; obtain ⟨Ad, cd, rfl, _, _, _⟩ := hd; have p0 := cell_of_row _ _ 0 _ _ _ hr1; have p1 := cell_of_row _ _ 1 _ _ _ hr1; have p2 := cell_of_row _ _ 2 _ _ _ hr1; have p3 := cell_of_row _ _ 3 _ _ _ hr1; have p4 := cell_of_row _ _ 4 _ _ _ hr1; have p5 := cell_of_row _ _ 5 _ _ _ hr1; have p6 := cell_of_row _ _ 6 _ _ _ hr1; have s0 := frozen_of_row _ _ 0 _ _ hr1; have s1 := frozen_of_row _ _ 1 _ _ hr1; have s2 := frozen_of_row _ _ 2 _ _ hr1; have s3 := frozen_of_row _ _ 3 _ _ hr1; have s4 := frozen_of_row _ _ 4 _ _ hr1; have s5 := frozen_of_row _ _ 5 _ _ hr1; have s6 := frozen_of_row _ _ 6 _ _ hr1; have q0 := cell_of_row _ _ 0 _ _ _ hz1; have q1 := cell_of_row _ _ 1 _ _ _ hz1; have q2 := cell_of_row _ _ 2 _ _ _ hz1; have q3 := cell_of_row _ _ 3 _ _ _ hz1; have q4 := cell_of_row _ _ 4 _ _ _ hz1; have q5 := cell_of_row _ _ 5 _ _ _ hz1; have q6 := cell_of_row _ _ 6 _ _ _ hz1; have t0 := frozen_of_row _ _ 0 _ _ hz1; have t1 := frozen_of_row _ _ 1 _ _ hz1; have t2 := frozen_of_row _ _ 2 _ _ hz1; have t3 := frozen_of_row _ _ 3 _ _ hz1; have t4 := frozen_of_row _ _ 4 _ _ hz1; have t5 := frozen_of_row _ _ 5 _ _ hz1; have t6 := frozen_of_row _ _ 6 _ _ hz1; have HR1 := Lib.hid hr1; have HZ1 := Lib.hid hz1; have HB1 := Lib.hid (HDB.out.trans (hb1.mono HDB.out.size)); have HS1 : Hid (w.heap.size + 1 < w1.heap.size) := (by show _ < _; have h1 := hb1.size; have h2 := HDS.out; omega); clear hr1 hz1 hb1))
  have hrow := row7_set w1 (w.heap.size + 1) 24 _ _ _ _ _ _ _ (.int .i64 (x0.toNat : Int)) (.int .i64 (x1.toNat : Int)) (.int .i64 (x2.toNat : Int)) (.int .i64 (x3.toNat : Int)) (.slice Ad dat.length cd) (.int .i64 le) (.bool true) HR1.out
  have hzer := (other_set7 w1 (w.heap.size + 1) w.heap.size (.int .i64 (x0.toNat : Int)) (.int .i64 (x1.toNat : Int)) (.int .i64 (x2.toNat : Int)) (.int .i64 (x3.toNat : Int)) (.slice Ad dat.length cd) (.int .i64 le) (.bool true) (by omega)).trans HZ1.out
  have hsl := sl_set7 (.int .i64 (x0.toNat : Int)) (.int .i64 (x1.toNat : Int)) (.int .i64 (x2.toNat : Int)) (.int .i64 (x3.toNat : Int)) (.slice Ad dat.length cd) (.int .i64 le) (.bool true) HD.out HR1.out
  have hsz := size_set7 w1 (w.heap.size + 1) (.int .i64 (x0.toNat : Int)) (.int .i64 (x1.toNat : Int)) (.int .i64 (x2.toNat : Int)) (.int .i64 (x3.toNat : Int)) (.slice Ad dat.length cd) (.int .i64 le) (.bool true)
  have hbel := below7g HB1.out (show w.heap.size ≤ w.heap.size + 1 by omega) (.int .i64 (x0.toNat : Int)) (.int .i64 (x1.toNat : Int)) (.int .i64 (x2.toNat : Int)) (.int .i64 (x3.toNat : Int)) (.slice Ad dat.length cd) (.int .i64 le) (.bool true)
  rw [← hsz] at hsl
  have HROW := Lib.hid hrow
  have HZER := Lib.hid hzer
  have HSL := Lib.hid hsl
  have HSZ := Lib.hid hsz
  have HBEL := Lib.hid hbel
  clear hrow hzer hsl hsz hbel
  go_wp2_with fail
  refine (HCK.out _ _ _).mono ?_
  rintro e w2 ⟨rfl, hb2⟩
  have hr2 := (hb2.block (w.heap.size + 1) (by rw [HSZ.out]; exact HS1.out)).trans HROW.out
  have hz2 := (hb2.block w.heap.size (by rw [HSZ.out]; have := HS1.out; omega)).trans HZER.out
  have HBEL2 := Lib.hid (HBEL.out.trans (hb2.mono HBEL.out.size))
  have HSL2 := Lib.hid (HSL.out.on hb2)
  have HZ2 := Lib.hid hz2
  clear p0 p1 p2 p3 p4 p5 p6 s0 s1 s2 s3 s4 s5 s6 q0 q1 q2 q3 q4 q5 q6 t0 t1 t2 t3 t4 t5 t6 hb2
  have p0 := cell_of_row _ _ 0 _ _ _ hr2
  have p1 := cell_of_row _ _ 1 _ _ _ hr2
  have p2 := cell_of_row _ _ 2 _ _ _ hr2
  have p3 := cell_of_row _ _ 3 _ _ _ hr2
  have p4 := cell_of_row _ _ 4 _ _ _ hr2
  have p5 := cell_of_row _ _ 5 _ _ _ hr2
  have p6 := cell_of_row _ _ 6 _ _ _ hr2
  have q0 := cell_of_row _ _ 0 _ _ _ hz2
  have q1 := cell_of_row _ _ 1 _ _ _ hz2
  have q2 := cell_of_row _ _ 2 _ _ _ hz2
  have q3 := cell_of_row _ _ 3 _ _ _ hz2
  have q4 := cell_of_row _ _ 4 _ _ _ hz2
  have q5 := cell_of_row _ _ 5 _ _ _ hz2
  have q6 := cell_of_row _ _ 6 _ _ _ hz2
  have t0 := frozen_of_row _ _ 0 _ _ hz2
  have t1 := frozen_of_row _ _ 1 _ _ hz2
  have t2 := frozen_of_row _ _ 2 _ _ hz2
  have t3 := frozen_of_row _ _ 3 _ _ hz2
  have t4 := frozen_of_row _ _ 4 _ _ hz2
  have t5 := frozen_of_row _ _ 5 _ _ hz2
  have t6 := frozen_of_row _ _ 6 _ _ hz2
  clear hr2 hz2
  by_cases hck : ck = 0
  · have HV := Lib.hid (HYES.out hck)
    have HE : Hid (decE l = 0) := by show _ = _; rw [HDEC.out, hck]
    subst hck
    go_wp2_with fail
    refine bodyPost_ret (results_cell2 rfl _ _ w.heap.size 24 _ (0, 0) _ rfl (row7_set _ _ _ _ _ _ _ _ _ _ _ _ _ _ _ _ _ HZ2.out) Try.underlying24 rfl (by kernel_rfl)) rfl ⟨.slice Ad dat.length cd, by rw [HE.out, HV.out]; rfl, ?_, below7 HBEL2.out _ _ _ _ _ _ _⟩
    rw [HV.out]
    show SL _ _ _ dat
    rw [size_set7]
    exact sl_set7 _ _ _ _ _ _ _ HSL2.out HZ2.out
  · have HV := Lib.hid (HNO.out hck)
    have cn : (ck != 0) = true := by rw [bne_iff_ne]; exact hck
    clear hck
    go_wp2_with fail
    exact bodyPost_ret (results_cell2 rfl _ _ w.heap.size 24 _ (0, 0) _ rfl (row7_set _ _ _ _ _ _ _ _ _ _ _ _ _ _ _ _ _ HZ2.out) Try.underlying24 rfl (by kernel_rfl)) rfl ⟨.slice none 0 0, by rw [HDEC.out, HV.out]; rfl, by rw [HV.out]; exact SL.nil _ _ _ _ (Nat.zero_le _), below7 HBEL2.out _ _ _ _ _ _ _⟩

set_option maxRecDepth 100000 in
set_option maxHeartbeats 3200000 in
theorem rdc_Ano (l : List UInt8) (v : Value) (w : World) (h : SL w w.heap.size v l) (hl : l.length ≤ 80000) (h6 : 5 < l.length) (h0 : l.getD 4 0 = 0) (dat : List UInt8) (le er : Int) (hb0 : bodyL 2 ((l.drop 4).drop 1) = (dat, le, er)) (he : er ≠ 0)  : Calls Try.prog 20 #[v] w (DecR l w) := by
  have HS := Lib.hid h
  obtain ⟨A, c, rfl, k1, k2, k3⟩ := h
  unfold maxLen at k2
  obtain ⟨b, o, rfl, hbl, hc⟩ := k3 (by omega)
  have g0 : w.cell? ⟨b, o, none⟩ = some (.int .u8 ((l.getD 0 0).toNat : Int)) := hc 0 (by omega)
  have g1 := hc 1 (by omega)
  have g2 := hc 2 (by omega)
  have g3 := hc 3 (by omega)
  have g4 := hc 4 (by omega)
  rw [h0] at g4
  have hlong : longB l = true := by rw [longB, h0, decide_eq_true h6]; rfl
  have hrest : restL l = (l.drop 4).drop 1 := by rw [restL, hlong, List.drop_drop]; rfl
  have hread : readC l = ⟨((l.getD 0 0).toNat : Int), ((l.getD 1 0).toNat : Int), ((l.getD 2 0).toNat : Int), ((l.getD 3 0).toNat : Int), dat, le, true⟩ := by rw [readC, hlong, hrest, show widN true = 2 from rfl, hb0]
  have hdec : decE l = er := by rw [decE, if_neg (by omega), hlong, hrest, show widN true = 2 from rfl, hb0, if_pos he]
  have HNO : Hid (decV l = zeroC) := by show _ = _; rw [decV, if_neg (by rw [hdec]; exact he)]
  have en : (er == 0) = false := beq_eq_false_iff_ne.2 he
  have en2 : (er != 0) = true := by rw [bne_iff_ne]; exact he
  have hx0 := (l.getD 0 0).toNat_lt
  have hx1 := (l.getD 1 0).toNat_lt
  have hx2 := (l.getD 2 0).toNat_lt
  have hx3 := (l.getD 3 0).toNat_lt
  have HEX := fun (W : World) (hW : Below w.heap.size w W) => (rex_any ((l.getD 0 0).toNat : Int) ((l.getD 1 0).toNat : Int) ((l.getD 2 0).toNat : Int) ((l.getD 3 0).toNat : Int) (l.drop 4) (.slice (some ⟨b, o + 4, none⟩) (l.length - 4) (c - 4)) W ((HS.out.cut (by omega)).on hW) (by rw [List.length_drop]; omega) (by rw [List.length_drop]; omega)).mono fun _ _ hr => ShR.no hb0 he hr
  simp only [Cm.val] at HEX
  have hq5 : decide (5 < (l.length : Int)) = decide (5 < l.length) := by congr 1; rw [eq_iff_iff]; omega
  generalize l.getD 0 0 = x0 at *
  generalize l.getD 1 0 = x1 at *
  generalize l.getD 2 0 = x2 at *
  generalize l.getD 3 0 = x3 at *
  have HEX2 := Lib.hid HEX
  clear HEX
  have HDEC := Lib.hid hdec
  have j0 : 0 < l.length := by omega
  have j1 : (1 : Int) < (l.length : Int) := by omega
  have j2 : (2 : Int) < (l.length : Int) := by omega
  have j3 : (3 : Int) < (l.length : Int) := by omega
  have j4 : (4 : Int) < (l.length : Int) := by omega
  have hne : ¬ c = 4 := by omega
  have HDR := Lib.hid (DW_row w x0 x1 x2 x3 false)
  have HDZ := Lib.hid (DW_zero w x0 x1 x2 x3 false)
  have HDS : Hid (w.heap.size + 1 < (DW w x0 x1 x2 x3 false).heap.size) := by show _ < _; rw [DW_size]; omega
  have HDB := Lib.hid (DW_below w x0 x1 x2 x3 false)
  clear hc k3 h0 hlong hrest hread hdec hb0 hq5 he
  go_enter Try.func20, Try.ntmps20
  go_wp2_with fail
  go_region_held3 (fun w' => w'.cell? ⟨b, o, none⟩ = some (.int .u8 (x0.toNat : Int)) ∧ w'.cell? ⟨b, o + 1, none⟩ = some (.int .u8 (x1.toNat : Int)) ∧ w'.cell? ⟨b, o + 2, none⟩ = some (.int .u8 (x2.toNat : Int)) ∧ w'.cell? ⟨b, o + 3, none⟩ = some (.int .u8 (x3.toNat : Int)))
    (first | (go_keep; done) | exact ⟨g0, g1, g2, g3⟩) (fail)
  go_wp2_with fail
  go_region_with ((go_at_call 47; refine (HEX2.out _ (by first | exact HDB.out | exact HDB.out.drew)).mono ?_; rintro e w1 ⟨d, rfl, hd, hb1'⟩; have hb1 : Below (DW w x0 x1 x2 x3 false).heap.size (DW w x0 x1 x2 x3 false) w1 := (by first | exact hb1' | exact ((Below.refl _ _).drew).trans hb1'); clear hb1'; have hr1 := (hb1.block _ HDS.out).trans HDR.out; have hz1 := (hb1.block w.heap.size (by have := HDS.out; omega)).trans HDZ.out; have HD := Lib.hid hd; obtain ⟨Ad, cd, rfl, _, _, _⟩ := hd; have p0 := cell_of_row _ _ 0 _ _ _ hr1; have p1 := cell_of_row _ _ 1 _ _ _ hr1; have p2 := cell_of_row _ _ 2 _ _ _ hr1; have p3 := cell_of_row _ _ 3 _ _ _ hr1; have p4 := cell_of_row _ _ 4 _ _ _ hr1; have p5 := cell_of_row _ _ 5 _ _ _ hr1; have p6 := cell_of_row _ _ 6 _ _ _ hr1; have s0 := frozen_of_row _ _ 0 _ _ hr1; have s1 := frozen_of_row _ _ 1 _ _ hr1; have s2 := frozen_of_row _ _ 2 _ _ hr1; have s3 := frozen_of_row _ _ 3 _ _ hr1; have s4 := frozen_of_row _ _ 4 _ _ hr1; have s5 := frozen_of_row _ _ 5 _ _ hr1; have s6 := frozen_of_row _ _ 6 _ _ hr1; have q0 := cell_of_row _ _ 0 _ _ _ hz1; have q1 := cell_of_row _ _ 1 _ _ _ hz1; have q2 := cell_of_row _ _ 2 _ _ _ hz1; have q3 := cell_of_row _ _ 3 _ _ _ hz1; have q4 := cell_of_row _ _ 4 _ _ _ hz1; have q5 := cell_of_row _ _ 5 _ _ _ hz1; have q6 := cell_of_row _ _ 6 _ _ _ hz1; have t0 := frozen_of_row _ _ 0 _ _ hz1; have t1 := frozen_of_row _ _ 1 _ _ hz1; have t2 := frozen_of_row _ _ 2 _ _ hz1; have t3 := frozen_of_row _ _ 3 _ _ hz1; have t4 := frozen_of_row _ _ 4 _ _ hz1; have t5 := frozen_of_row _ _ 5 _ _ hz1; have t6 := frozen_of_row _ _ 6 _ _ hz1; have HR1 := Lib.hid hr1; have HZ1 := Lib.hid hz1; have HB1 := Lib.hid (HDB.out.trans (hb1.mono HDB.out.size)); have HS1 : Hid (w.heap.size + 1 < w1.heap.size) := (by show _ < _; have h1 := hb1.size; have h2 := HDS.out; omega); clear hr1 hz1 hb1))
  go_wp2_with fail
  exact bodyPost_ret (results_cell2 rfl _ _ w.heap.size 24 _ (0, 0) _ rfl (row7_set _ _ _ _ _ _ _ _ _ _ _ _ _ _ _ _ _ ((other_set7 w1 (w.heap.size + 1) w.heap.size _ _ _ _ _ _ _ (by omega)).trans HZ1.out)) Try.underlying24 rfl (by kernel_rfl)) rfl ⟨.slice none 0 0, by rw [HDEC.out, HNO.out]; rfl, by rw [HNO.out]; exact SL.nil _ _ _ _ (Nat.zero_le _), below7 (below7g HB1.out (show w.heap.size ≤ w.heap.size + 1 by omega) _ _ _ _ _ _ _) _ _ _ _ _ _ _⟩

set_option maxRecDepth 100000 in
set_option maxHeartbeats 3200000 in
theorem rdc_Byes (l : List UInt8) (v : Value) (w : World) (h : SL w w.heap.size v l) (hl : l.length ≤ 80000) (h5 : 4 < l.length) (h0 : ¬ (5 < l.length ∧ l.getD 4 0 = 0)) (dat : List UInt8) (le : Int) (hb0 : bodyL 1 (l.drop 4) = (dat, le, 0)) (hle : -9223372036854775808 ≤ le ∧ le ≤ 9223372036854775807) : Calls Try.prog 20 #[v] w (DecR l w) := by
  have HS := Lib.hid h
  obtain ⟨A, c, rfl, k1, k2, k3⟩ := h
  unfold maxLen at k2
  obtain ⟨b, o, rfl, hbl, hc⟩ := k3 (by omega)
  have g0 : w.cell? ⟨b, o, none⟩ = some (.int .u8 ((l.getD 0 0).toNat : Int)) := hc 0 (by omega)
  have g1 := hc 1 (by omega)
  have g2 := hc 2 (by omega)
  have g3 := hc 3 (by omega)
  have g4 := hc 4 (by omega)
  have hlong : longB l = false := by
    rw [longB]
    by_cases hh : 5 < l.length
    · have h00 : ¬ l.getD 4 0 = 0 := fun e => h0 ⟨hh, e⟩
      simp [hh]
      simpa [List.getD] using h00
    · simp [hh]
  have hrest : restL l = l.drop 4 := by rw [restL, hlong]; rfl
  have hside : (l.drop 4).length = 1 ∨ (l.drop 4).getD 0 0 ≠ 0 := by
    by_cases hh : 5 < l.length
    · right
      intro e
      exact h0 ⟨hh, by simpa [List.getD, List.getElem?_drop] using e⟩
    · left
      rw [List.length_drop]
      omega
  have hread : readC l = ⟨((l.getD 0 0).toNat : Int), ((l.getD 1 0).toNat : Int), ((l.getD 2 0).toNat : Int), ((l.getD 3 0).toNat : Int), dat, le, false⟩ := by rw [readC, hlong, hrest, show widN false = 1 from rfl, hb0]
  have hdec : decE l = chkC (readC l) := by rw [decE, if_neg (by omega), hlong, hrest, show widN false = 1 from rfl, hb0, if_neg (by simp)]
  have HYES := Lib.hid (fun (hk : chkC (readC l) = 0) => (show decV l = readC l from by rw [decV, if_pos (by rw [hdec]; exact hk)]))
  have HNO := Lib.hid (fun (hk : chkC (readC l) ≠ 0) => (show decV l = zeroC from by rw [decV, if_neg (by rw [hdec]; exact hk)]))
  rw [hread] at hdec HYES HNO
  have hx0 := (l.getD 0 0).toNat_lt
  have hx1 := (l.getD 1 0).toNat_lt
  have hx2 := (l.getD 2 0).toNat_lt
  have hx3 := (l.getD 3 0).toNat_lt
  have HEX := fun (W : World) (hW : Below w.heap.size w W) => (rsh_any ((l.getD 0 0).toNat : Int) ((l.getD 1 0).toNat : Int) ((l.getD 2 0).toNat : Int) ((l.getD 3 0).toNat : Int) (l.drop 4) (.slice (some ⟨b, o + 4, none⟩) (l.length - 4) (c - 4)) W ((HS.out.cut (by omega)).on hW) (by rw [List.length_drop]; omega) (by rw [List.length_drop]; omega) hside).mono fun _ _ hr => ShR.yes hb0 hr
  simp only [Cm.val] at HEX
  have hq5 : decide (5 < (l.length : Int)) = decide (5 < l.length) := by congr 1; rw [eq_iff_iff]; omega
  generalize l.getD 0 0 = x0 at *
  generalize l.getD 1 0 = x1 at *
  generalize l.getD 2 0 = x2 at *
  generalize l.getD 3 0 = x3 at *
  have HEX2 := Lib.hid HEX
  clear HEX
  have HDEC := Lib.hid hdec
  have HCK0 := (fun (Ad : Option Addr) (cd : Nat) (W : World) => rchk_any ⟨(x0.toNat : Int), (x1.toNat : Int), (x2.toNat : Int), (x3.toNat : Int), dat, le, false⟩ Ad dat.length cd W rfl hle)
  have HCKV : Hid (Cm.val ⟨(x0.toNat : Int), (x1.toNat : Int), (x2.toNat : Int), (x3.toNat : Int), dat, le, false⟩ = fun d => .agg #[.int .i64 (x0.toNat : Int), .int .i64 (x1.toNat : Int), .int .i64 (x2.toNat : Int), .int .i64 (x3.toNat : Int), d, .int .i64 le, .bool false]) := rfl
  obtain ⟨ck, hck⟩ : ∃ ck, ck = chkC ⟨(x0.toNat : Int), (x1.toNat : Int), (x2.toNat : Int), (x3.toNat : Int), dat, le, false⟩ := ⟨_, rfl⟩
  rw [← hck] at HCK0 HDEC HYES HNO
  simp only [Cm.val] at HCK0
  have HCK := Lib.hid HCK0
  clear HCK0
  have j0 : 0 < l.length := by omega
  have j1 : (1 : Int) < (l.length : Int) := by omega
  have j2 : (2 : Int) < (l.length : Int) := by omega
  have j3 : (3 : Int) < (l.length : Int) := by omega
  have j4 : (4 : Int) < (l.length : Int) := by omega
  have hne : ¬ c = 4 := by omega
  have HDR := Lib.hid (DW_row w x0 x1 x2 x3 false)
  have HDZ := Lib.hid (DW_zero w x0 x1 x2 x3 false)
  have HDS : Hid (w.heap.size + 1 < (DW w x0 x1 x2 x3 false).heap.size) := by show _ < _; rw [DW_size]; omega
  have HDB := Lib.hid (DW_below w x0 x1 x2 x3 false)
  obtain ⟨bb, hbb⟩ : ∃ bb, bb = ((l.getD 4 0).toNat : Int) := ⟨_, rfl⟩
  rw [← hbb] at g4
  have hb5 : (decide (5 < (l.length : Int)) && (bb == 0)) = false := by
    rw [hbb]
    by_cases hh : 5 < l.length
    · have h00 : ¬ l.getD 4 0 = 0 := fun e => h0 ⟨hh, e⟩
      have : ((((l.getD 4 0).toNat : Int) == 0) : Bool) = false := by rw [beq_eq_false_iff_ne]; intro e; exact h00 (UInt8.toNat_inj.1 (by simpa using e))
      rw [this, Bool.and_false]
    · rw [show decide (5 < (l.length : Int)) = false from by rw [decide_eq_false_iff_not]; omega]; rfl
  have hlt5 : 5 < l.length → (bb == 0) = false := by
    intro hh
    have d5 : decide (5 < (l.length : Int)) = true := by rw [decide_eq_true_iff]; omega
    rw [d5, Bool.true_and] at hb5
    exact hb5
  clear hbb hb5
  clear hside hc k3 h0 hlong hrest hread hdec hb0 hq5 hck hle
  by_cases hh : 5 < l.length
  · have hb0 := hlt5 hh
    clear hlt5
    go_enter Try.func20, Try.ntmps20
    go_wp2_with fail
    go_region_held3 (fun w' => w'.cell? ⟨b, o, none⟩ = some (.int .u8 (x0.toNat : Int)) ∧ w'.cell? ⟨b, o + 1, none⟩ = some (.int .u8 (x1.toNat : Int)) ∧ w'.cell? ⟨b, o + 2, none⟩ = some (.int .u8 (x2.toNat : Int)) ∧ w'.cell? ⟨b, o + 3, none⟩ = some (.int .u8 (x3.toNat : Int)))
      (first | (go_keep; done) | exact ⟨g0, g1, g2, g3⟩) (fail)
    go_wp2_with fail
    go_region_with ((go_at_call 48; refine (HEX2.out _ (by first | exact HDB.out | exact HDB.out.drew)).mono ?_; rintro e w1 ⟨d, rfl, hd, hb1'⟩; have hb1 : Below (DW w x0 x1 x2 x3 false).heap.size (DW w x0 x1 x2 x3 false) w1 := (by first | exact hb1' | exact ((Below.refl _ _).drew).trans hb1'); clear hb1'; have hr1 := (hb1.block _ HDS.out).trans HDR.out; have hz1 := (hb1.block w.heap.size (by have := HDS.out; omega)).trans HDZ.out; have HD := Lib.hid hd; obtain ⟨Ad, cd, rfl, _, _, _⟩ := hd; have p0 := cell_of_row _ _ 0 _ _ _ hr1; have p1 := cell_of_row _ _ 1 _ _ _ hr1; have p2 := cell_of_row _ _ 2 _ _ _ hr1; have p3 := cell_of_row _ _ 3 _ _ _ hr1; have p4 := cell_of_row _ _ 4 _ _ _ hr1; have p5 := cell_of_row _ _ 5 _ _ _ hr1; have p6 := cell_of_row _ _ 6 _ _ _ hr1; have s0 := frozen_of_row _ _ 0 _ _ hr1; have s1 := frozen_of_row _ _ 1 _ _ hr1; have s2 := frozen_of_row _ _ 2 _ _ hr1; have s3 := frozen_of_row _ _ 3 _ _ hr1; have s4 := frozen_of_row _ _ 4 _ _ hr1; have s5 := frozen_of_row _ _ 5 _ _ hr1; have s6 := frozen_of_row _ _ 6 _ _ hr1; have q0 := cell_of_row _ _ 0 _ _ _ hz1; have q1 := cell_of_row _ _ 1 _ _ _ hz1; have q2 := cell_of_row _ _ 2 _ _ _ hz1; have q3 := cell_of_row _ _ 3 _ _ _ hz1; have q4 := cell_of_row _ _ 4 _ _ _ hz1; have q5 := cell_of_row _ _ 5 _ _ _ hz1; have q6 := cell_of_row _ _ 6 _ _ _ hz1; have t0 := frozen_of_row _ _ 0 _ _ hz1; have t1 := frozen_of_row _ _ 1 _ _ hz1; have t2 := frozen_of_row _ _ 2 _ _ hz1; have t3 := frozen_of_row _ _ 3 _ _ hz1; have t4 := frozen_of_row _ _ 4 _ _ hz1; have t5 := frozen_of_row _ _ 5 _ _ hz1; have t6 := frozen_of_row _ _ 6 _ _ hz1; have HR1 := Lib.hid hr1; have HZ1 := Lib.hid hz1; have HB1 := Lib.hid (HDB.out.trans (hb1.mono HDB.out.size)); have HS1 : Hid (w.heap.size + 1 < w1.heap.size) := (by show _ < _; have h1 := hb1.size; have h2 := HDS.out; omega); clear hr1 hz1 hb1))
    have hrow := row7_set w1 (w.heap.size + 1) 24 _ _ _ _ _ _ _ (.int .i64 (x0.toNat : Int)) (.int .i64 (x1.toNat : Int)) (.int .i64 (x2.toNat : Int)) (.int .i64 (x3.toNat : Int)) (.slice Ad dat.length cd) (.int .i64 le) (.bool false) HR1.out
    have hzer := (other_set7 w1 (w.heap.size + 1) w.heap.size (.int .i64 (x0.toNat : Int)) (.int .i64 (x1.toNat : Int)) (.int .i64 (x2.toNat : Int)) (.int .i64 (x3.toNat : Int)) (.slice Ad dat.length cd) (.int .i64 le) (.bool false) (by omega)).trans HZ1.out
    have hsl := sl_set7 (.int .i64 (x0.toNat : Int)) (.int .i64 (x1.toNat : Int)) (.int .i64 (x2.toNat : Int)) (.int .i64 (x3.toNat : Int)) (.slice Ad dat.length cd) (.int .i64 le) (.bool false) HD.out HR1.out
    have hsz := size_set7 w1 (w.heap.size + 1) (.int .i64 (x0.toNat : Int)) (.int .i64 (x1.toNat : Int)) (.int .i64 (x2.toNat : Int)) (.int .i64 (x3.toNat : Int)) (.slice Ad dat.length cd) (.int .i64 le) (.bool false)
    have hbel := below7g HB1.out (show w.heap.size ≤ w.heap.size + 1 by omega) (.int .i64 (x0.toNat : Int)) (.int .i64 (x1.toNat : Int)) (.int .i64 (x2.toNat : Int)) (.int .i64 (x3.toNat : Int)) (.slice Ad dat.length cd) (.int .i64 le) (.bool false)
    rw [← hsz] at hsl
    have HROW := Lib.hid hrow
    have HZER := Lib.hid hzer
    have HSL := Lib.hid hsl
    have HSZ := Lib.hid hsz
    have HBEL := Lib.hid hbel
    clear hrow hzer hsl hsz hbel
    go_wp2_with fail
    refine (HCK.out _ _ _).mono ?_
    rintro e w2 ⟨rfl, hb2⟩
    have hr2 := (hb2.block (w.heap.size + 1) (by rw [HSZ.out]; exact HS1.out)).trans HROW.out
    have hz2 := (hb2.block w.heap.size (by rw [HSZ.out]; have := HS1.out; omega)).trans HZER.out
    have HBEL2 := Lib.hid (HBEL.out.trans (hb2.mono HBEL.out.size))
    have HSL2 := Lib.hid (HSL.out.on hb2)
    have HZ2 := Lib.hid hz2
    clear p0 p1 p2 p3 p4 p5 p6 s0 s1 s2 s3 s4 s5 s6 q0 q1 q2 q3 q4 q5 q6 t0 t1 t2 t3 t4 t5 t6 hb2
    have p0 := cell_of_row _ _ 0 _ _ _ hr2
    have p1 := cell_of_row _ _ 1 _ _ _ hr2
    have p2 := cell_of_row _ _ 2 _ _ _ hr2
    have p3 := cell_of_row _ _ 3 _ _ _ hr2
    have p4 := cell_of_row _ _ 4 _ _ _ hr2
    have p5 := cell_of_row _ _ 5 _ _ _ hr2
    have p6 := cell_of_row _ _ 6 _ _ _ hr2
    have q0 := cell_of_row _ _ 0 _ _ _ hz2
    have q1 := cell_of_row _ _ 1 _ _ _ hz2
    have q2 := cell_of_row _ _ 2 _ _ _ hz2
    have q3 := cell_of_row _ _ 3 _ _ _ hz2
    have q4 := cell_of_row _ _ 4 _ _ _ hz2
    have q5 := cell_of_row _ _ 5 _ _ _ hz2
    have q6 := cell_of_row _ _ 6 _ _ _ hz2
    have t0 := frozen_of_row _ _ 0 _ _ hz2
    have t1 := frozen_of_row _ _ 1 _ _ hz2
    have t2 := frozen_of_row _ _ 2 _ _ hz2
    have t3 := frozen_of_row _ _ 3 _ _ hz2
    have t4 := frozen_of_row _ _ 4 _ _ hz2
    have t5 := frozen_of_row _ _ 5 _ _ hz2
    have t6 := frozen_of_row _ _ 6 _ _ hz2
    clear hr2 hz2
    by_cases hck : ck = 0
    · have HV := Lib.hid (HYES.out hck)
      have HE : Hid (decE l = 0) := by show _ = _; rw [HDEC.out, hck]
      subst hck
      go_wp2_with fail
      refine bodyPost_ret (results_cell2 rfl _ _ w.heap.size 24 _ (0, 0) _ rfl (row7_set _ _ _ _ _ _ _ _ _ _ _ _ _ _ _ _ _ HZ2.out) Try.underlying24 rfl (by kernel_rfl)) rfl ⟨.slice Ad dat.length cd, by rw [HE.out, HV.out]; rfl, ?_, below7 HBEL2.out _ _ _ _ _ _ _⟩
      rw [HV.out]
      show SL _ _ _ dat
      rw [size_set7]
      exact sl_set7 _ _ _ _ _ _ _ HSL2.out HZ2.out
    · have HV := Lib.hid (HNO.out hck)
      have cn : (ck != 0) = true := by rw [bne_iff_ne]; exact hck
      clear hck
      go_wp2_with fail
      exact bodyPost_ret (results_cell2 rfl _ _ w.heap.size 24 _ (0, 0) _ rfl (row7_set _ _ _ _ _ _ _ _ _ _ _ _ _ _ _ _ _ HZ2.out) Try.underlying24 rfl (by kernel_rfl)) rfl ⟨.slice none 0 0, by rw [HDEC.out, HV.out]; rfl, by rw [HV.out]; exact SL.nil _ _ _ _ (Nat.zero_le _), below7 HBEL2.out _ _ _ _ _ _ _⟩
  · have h5' : l.length = 5 := by omega
    have h5a : l.length ≤ 5 := by omega
    have h5b : 5 ≤ l.length := by omega
    clear hlt5 hh h5'
    go_enter Try.func20, Try.ntmps20
    go_wp2_with fail
    go_region_held3 (fun w' => w'.cell? ⟨b, o, none⟩ = some (.int .u8 (x0.toNat : Int)) ∧ w'.cell? ⟨b, o + 1, none⟩ = some (.int .u8 (x1.toNat : Int)) ∧ w'.cell? ⟨b, o + 2, none⟩ = some (.int .u8 (x2.toNat : Int)) ∧ w'.cell? ⟨b, o + 3, none⟩ = some (.int .u8 (x3.toNat : Int)))
      (first | (go_keep; done) | exact ⟨g0, g1, g2, g3⟩) (fail)
    go_wp2_with fail
    go_region_with ((go_at_call 48; refine (HEX2.out _ (by first | exact HDB.out | exact HDB.out.drew)).mono ?_; rintro e w1 ⟨d, rfl, hd, hb1'⟩; have hb1 : Below (DW w x0 x1 x2 x3 false).heap.size (DW w x0 x1 x2 x3 false) w1 := (by first | exact hb1' | exact ((Below.refl _ _).drew).trans hb1'); clear hb1'; have hr1 := (hb1.block _ HDS.out).trans HDR.out; have hz1 := (hb1.block w.heap.size (by have := HDS.out; omega)).trans HDZ.out; have HD := Lib.hid hd; obtain ⟨Ad, cd, rfl, _, _, _⟩ := hd; have p0 := cell_of_row _ _ 0 _ _ _ hr1; have p1 := cell_of_row _ _ 1 _ _ _ hr1; have p2 := cell_of_row _ _ 2 _ _ _ hr1; have p3 := cell_of_row _ _ 3 _ _ _ hr1; have p4 := cell_of_row _ _ 4 _ _ _ hr1; have p5 := cell_of_row _ _ 5 _ _ _ hr1; have p6 := cell_of_row _ _ 6 _ _ _ hr1; have s0 := frozen_of_row _ _ 0 _ _ hr1; have s1 := frozen_of_row _ _ 1 _ _ hr1; have s2 := frozen_of_row _ _ 2 _ _ hr1; have s3 := frozen_of_row _ _ 3 _ _ hr1; have s4 := frozen_of_row _ _ 4 _ _ hr1; have s5 := frozen_of_row _ _ 5 _ _ hr1; have s6 := frozen_of_row _ _ 6 _ _ hr1; have q0 := cell_of_row _ _ 0 _ _ _ hz1; have q1 := cell_of_row _ _ 1 _ _ _ hz1; have q2 := cell_of_row _ _ 2 _ _ _ hz1; have q3 := cell_of_row _ _ 3 _ _ _ hz1; have q4 := cell_of_row _ _ 4 _ _ _ hz1; have q5 := cell_of_row _ _ 5 _ _ _ hz1; have q6 := cell_of_row _ _ 6 _ _ _ hz1; have t0 := frozen_of_row _ _ 0 _ _ hz1; have t1 := frozen_of_row _ _ 1 _ _ hz1; have t2 := frozen_of_row _ _ 2 _ _ hz1; have t3 := frozen_of_row _ _ 3 _ _ hz1; have t4 := frozen_of_row _ _ 4 _ _ hz1; have t5 := frozen_of_row _ _ 5 _ _ hz1; have t6 := frozen_of_row _ _ 6 _ _ hz1; have HR1 := Lib.hid hr1; have HZ1 := Lib.hid hz1; have HB1 := Lib.hid (HDB.out.trans (hb1.mono HDB.out.size)); have HS1 : Hid (w.heap.size + 1 < w1.heap.size) := (by show _ < _; have h1 := hb1.size; have h2 := HDS.out; omega); clear hr1 hz1 hb1))
    have hrow := row7_set w1 (w.heap.size + 1) 24 _ _ _ _ _ _ _ (.int .i64 (x0.toNat : Int)) (.int .i64 (x1.toNat : Int)) (.int .i64 (x2.toNat : Int)) (.int .i64 (x3.toNat : Int)) (.slice Ad dat.length cd) (.int .i64 le) (.bool false) HR1.out
    have hzer := (other_set7 w1 (w.heap.size + 1) w.heap.size (.int .i64 (x0.toNat : Int)) (.int .i64 (x1.toNat : Int)) (.int .i64 (x2.toNat : Int)) (.int .i64 (x3.toNat : Int)) (.slice Ad dat.length cd) (.int .i64 le) (.bool false) (by omega)).trans HZ1.out
    have hsl := sl_set7 (.int .i64 (x0.toNat : Int)) (.int .i64 (x1.toNat : Int)) (.int .i64 (x2.toNat : Int)) (.int .i64 (x3.toNat : Int)) (.slice Ad dat.length cd) (.int .i64 le) (.bool false) HD.out HR1.out
    have hsz := size_set7 w1 (w.heap.size + 1) (.int .i64 (x0.toNat : Int)) (.int .i64 (x1.toNat : Int)) (.int .i64 (x2.toNat : Int)) (.int .i64 (x3.toNat : Int)) (.slice Ad dat.length cd) (.int .i64 le) (.bool false)
    have hbel := below7g HB1.out (show w.heap.size ≤ w.heap.size + 1 by omega) (.int .i64 (x0.toNat : Int)) (.int .i64 (x1.toNat : Int)) (.int .i64 (x2.toNat : Int)) (.int .i64 (x3.toNat : Int)) (.slice Ad dat.length cd) (.int .i64 le) (.bool false)
    rw [← hsz] at hsl
    have HROW := Lib.hid hrow
    have HZER := Lib.hid hzer
    have HSL := Lib.hid hsl
    have HSZ := Lib.hid hsz
    have HBEL := Lib.hid hbel
    clear hrow hzer hsl hsz hbel
    go_wp2_with fail
    refine (HCK.out _ _ _).mono ?_
    rintro e w2 ⟨rfl, hb2⟩
    have hr2 := (hb2.block (w.heap.size + 1) (by rw [HSZ.out]; exact HS1.out)).trans HROW.out
    have hz2 := (hb2.block w.heap.size (by rw [HSZ.out]; have := HS1.out; omega)).trans HZER.out
    have HBEL2 := Lib.hid (HBEL.out.trans (hb2.mono HBEL.out.size))
    have HSL2 := Lib.hid (HSL.out.on hb2)
    have HZ2 := Lib.hid hz2
    clear p0 p1 p2 p3 p4 p5 p6 s0 s1 s2 s3 s4 s5 s6 q0 q1 q2 q3 q4 q5 q6 t0 t1 t2 t3 t4 t5 t6 hb2
    have p0 := cell_of_row _ _ 0 _ _ _ hr2
    have p1 := cell_of_row _ _ 1 _ _ _ hr2
    have p2 := cell_of_row _ _ 2 _ _ _ hr2
    have p3 := cell_of_row _ _ 3 _ _ _ hr2
    have p4 := cell_of_row _ _ 4 _ _ _ hr2
    have p5 := cell_of_row _ _ 5 _ _ _ hr2
    have p6 := cell_of_row _ _ 6 _ _ _ hr2
    have q0 := cell_of_row _ _ 0 _ _ _ hz2
    have q1 := cell_of_row _ _ 1 _ _ _ hz2
    have q2 := cell_of_row _ _ 2 _ _ _ hz2
    have q3 := cell_of_row _ _ 3 _ _ _ hz2
    have q4 := cell_of_row _ _ 4 _ _ _ hz2
    have q5 := cell_of_row _ _ 5 _ _ _ hz2
    have q6 := cell_of_row _ _ 6 _ _ _ hz2
    have t0 := frozen_of_row _ _ 0 _ _ hz2
    have t1 := frozen_of_row _ _ 1 _ _ hz2
    have t2 := frozen_of_row _ _ 2 _ _ hz2
    have t3 := frozen_of_row _ _ 3 _ _ hz2
    have t4 := frozen_of_row _ _ 4 _ _ hz2
    have t5 := frozen_of_row _ _ 5 _ _ hz2
    have t6 := frozen_of_row _ _ 6 _ _ hz2
    clear hr2 hz2
    by_cases hck : ck = 0
    · have HV := Lib.hid (HYES.out hck)
      have HE : Hid (decE l = 0) := by show _ = _; rw [HDEC.out, hck]
      subst hck
      go_wp2_with fail
      refine bodyPost_ret (results_cell2 rfl _ _ w.heap.size 24 _ (0, 0) _ rfl (row7_set _ _ _ _ _ _ _ _ _ _ _ _ _ _ _ _ _ HZ2.out) Try.underlying24 rfl (by kernel_rfl)) rfl ⟨.slice Ad dat.length cd, by rw [HE.out, HV.out]; rfl, ?_, below7 HBEL2.out _ _ _ _ _ _ _⟩
      rw [HV.out]
      show SL _ _ _ dat
      rw [size_set7]
      exact sl_set7 _ _ _ _ _ _ _ HSL2.out HZ2.out
    · have HV := Lib.hid (HNO.out hck)
      have cn : (ck != 0) = true := by rw [bne_iff_ne]; exact hck
      clear hck
      go_wp2_with fail
      exact bodyPost_ret (results_cell2 rfl _ _ w.heap.size 24 _ (0, 0) _ rfl (row7_set _ _ _ _ _ _ _ _ _ _ _ _ _ _ _ _ _ HZ2.out) Try.underlying24 rfl (by kernel_rfl)) rfl ⟨.slice none 0 0, by rw [HDEC.out, HV.out]; rfl, by rw [HV.out]; exact SL.nil _ _ _ _ (Nat.zero_le _), below7 HBEL2.out _ _ _ _ _ _ _⟩

set_option maxRecDepth 100000 in
set_option maxHeartbeats 3200000 in
theorem rdc_Bno (l : List UInt8) (v : Value) (w : World) (h : SL w w.heap.size v l) (hl : l.length ≤ 80000) (h5 : 4 < l.length) (h0 : ¬ (5 < l.length ∧ l.getD 4 0 = 0)) (dat : List UInt8) (le er : Int) (hb0 : bodyL 1 (l.drop 4) = (dat, le, er)) (he : er ≠ 0)  : Calls Try.prog 20 #[v] w (DecR l w) := by
  have HS := Lib.hid h
  obtain ⟨A, c, rfl, k1, k2, k3⟩ := h
  unfold maxLen at k2
  obtain ⟨b, o, rfl, hbl, hc⟩ := k3 (by omega)
  have g0 : w.cell? ⟨b, o, none⟩ = some (.int .u8 ((l.getD 0 0).toNat : Int)) := hc 0 (by omega)
  have g1 := hc 1 (by omega)
  have g2 := hc 2 (by omega)
  have g3 := hc 3 (by omega)
  have g4 := hc 4 (by omega)
  have hlong : longB l = false := by
    rw [longB]
    by_cases hh : 5 < l.length
    · have h00 : ¬ l.getD 4 0 = 0 := fun e => h0 ⟨hh, e⟩
      simp [hh]
      simpa [List.getD] using h00
    · simp [hh]
  have hrest : restL l = l.drop 4 := by rw [restL, hlong]; rfl
  have hside : (l.drop 4).length = 1 ∨ (l.drop 4).getD 0 0 ≠ 0 := by
    by_cases hh : 5 < l.length
    · right
      intro e
      exact h0 ⟨hh, by simpa [List.getD, List.getElem?_drop] using e⟩
    · left
      rw [List.length_drop]
      omega
  have hread : readC l = ⟨((l.getD 0 0).toNat : Int), ((l.getD 1 0).toNat : Int), ((l.getD 2 0).toNat : Int), ((l.getD 3 0).toNat : Int), dat, le, false⟩ := by rw [readC, hlong, hrest, show widN false = 1 from rfl, hb0]
  have hdec : decE l = er := by rw [decE, if_neg (by omega), hlong, hrest, show widN false = 1 from rfl, hb0, if_pos he]
  have HNO : Hid (decV l = zeroC) := by show _ = _; rw [decV, if_neg (by rw [hdec]; exact he)]
  have en : (er == 0) = false := beq_eq_false_iff_ne.2 he
  have en2 : (er != 0) = true := by rw [bne_iff_ne]; exact he
  have hx0 := (l.getD 0 0).toNat_lt
  have hx1 := (l.getD 1 0).toNat_lt
  have hx2 := (l.getD 2 0).toNat_lt
  have hx3 := (l.getD 3 0).toNat_lt
  have HEX := fun (W : World) (hW : Below w.heap.size w W) => (rsh_any ((l.getD 0 0).toNat : Int) ((l.getD 1 0).toNat : Int) ((l.getD 2 0).toNat : Int) ((l.getD 3 0).toNat : Int) (l.drop 4) (.slice (some ⟨b, o + 4, none⟩) (l.length - 4) (c - 4)) W ((HS.out.cut (by omega)).on hW) (by rw [List.length_drop]; omega) (by rw [List.length_drop]; omega) hside).mono fun _ _ hr => ShR.no hb0 he hr
  simp only [Cm.val] at HEX
  have hq5 : decide (5 < (l.length : Int)) = decide (5 < l.length) := by congr 1; rw [eq_iff_iff]; omega
  generalize l.getD 0 0 = x0 at *
  generalize l.getD 1 0 = x1 at *
  generalize l.getD 2 0 = x2 at *
  generalize l.getD 3 0 = x3 at *
  have HEX2 := Lib.hid HEX
  clear HEX
  have HDEC := Lib.hid hdec
  have j0 : 0 < l.length := by omega
  have j1 : (1 : Int) < (l.length : Int) := by omega
  have j2 : (2 : Int) < (l.length : Int) := by omega
  have j3 : (3 : Int) < (l.length : Int) := by omega
  have j4 : (4 : Int) < (l.length : Int) := by omega
  have hne : ¬ c = 4 := by omega
  have HDR := Lib.hid (DW_row w x0 x1 x2 x3 false)
  have HDZ := Lib.hid (DW_zero w x0 x1 x2 x3 false)
  have HDS : Hid (w.heap.size + 1 < (DW w x0 x1 x2 x3 false).heap.size) := by show _ < _; rw [DW_size]; omega
  have HDB := Lib.hid (DW_below w x0 x1 x2 x3 false)
  obtain ⟨bb, hbb⟩ : ∃ bb, bb = ((l.getD 4 0).toNat : Int) := ⟨_, rfl⟩
  rw [← hbb] at g4
  have hb5 : (decide (5 < (l.length : Int)) && (bb == 0)) = false := by
    rw [hbb]
    by_cases hh : 5 < l.length
    · have h00 : ¬ l.getD 4 0 = 0 := fun e => h0 ⟨hh, e⟩
      have : ((((l.getD 4 0).toNat : Int) == 0) : Bool) = false := by rw [beq_eq_false_iff_ne]; intro e; exact h00 (UInt8.toNat_inj.1 (by simpa using e))
      rw [this, Bool.and_false]
    · rw [show decide (5 < (l.length : Int)) = false from by rw [decide_eq_false_iff_not]; omega]; rfl
  have hlt5 : 5 < l.length → (bb == 0) = false := by
    intro hh
    have d5 : decide (5 < (l.length : Int)) = true := by rw [decide_eq_true_iff]; omega
    rw [d5, Bool.true_and] at hb5
    exact hb5
  clear hbb hb5
  clear hside hc k3 h0 hlong hrest hread hdec hb0 hq5 he
  by_cases hh : 5 < l.length
  · have hb0 := hlt5 hh
    clear hlt5
    go_enter Try.func20, Try.ntmps20
    go_wp2_with fail
    go_region_held3 (fun w' => w'.cell? ⟨b, o, none⟩ = some (.int .u8 (x0.toNat : Int)) ∧ w'.cell? ⟨b, o + 1, none⟩ = some (.int .u8 (x1.toNat : Int)) ∧ w'.cell? ⟨b, o + 2, none⟩ = some (.int .u8 (x2.toNat : Int)) ∧ w'.cell? ⟨b, o + 3, none⟩ = some (.int .u8 (x3.toNat : Int)))
      (first | (go_keep; done) | exact ⟨g0, g1, g2, g3⟩) (fail)
    go_wp2_with fail
    go_region_with ((go_at_call 48; refine (HEX2.out _ (by first | exact HDB.out | exact HDB.out.drew)).mono ?_; rintro e w1 ⟨d, rfl, hd, hb1'⟩; have hb1 : Below (DW w x0 x1 x2 x3 false).heap.size (DW w x0 x1 x2 x3 false) w1 := (by first | exact hb1' | exact ((Below.refl _ _).drew).trans hb1'); clear hb1'; have hr1 := (hb1.block _ HDS.out).trans HDR.out; have hz1 := (hb1.block w.heap.size (by have := HDS.out; omega)).trans HDZ.out; have HD := Lib.hid hd; obtain ⟨Ad, cd, rfl, _, _, _⟩ := hd; have p0 := cell_of_row _ _ 0 _ _ _ hr1; have p1 := cell_of_row _ _ 1 _ _ _ hr1; have p2 := cell_of_row _ _ 2 _ _ _ hr1; have p3 := cell_of_row _ _ 3 _ _ _ hr1; have p4 := cell_of_row _ _ 4 _ _ _ hr1; have p5 := cell_of_row _ _ 5 _ _ _ hr1; have p6 := cell_of_row _ _ 6 _ _ _ hr1; have s0 := frozen_of_row _ _ 0 _ _ hr1; have s1 := frozen_of_row _ _ 1 _ _ hr1; have s2 := frozen_of_row _ _ 2 _ _ hr1; have s3 := frozen_of_row _ _ 3 _ _ hr1; have s4 := frozen_of_row _ _ 4 _ _ hr1; have s5 := frozen_of_row _ _ 5 _ _ hr1; have s6 := frozen_of_row _ _ 6 _ _ hr1; have q0 := cell_of_row _ _ 0 _ _ _ hz1; have q1 := cell_of_row _ _ 1 _ _ _ hz1; have q2 := cell_of_row _ _ 2 _ _ _ hz1; have q3 := cell_of_row _ _ 3 _ _ _ hz1; have q4 := cell_of_row _ _ 4 _ _ _ hz1; have q5 := cell_of_row _ _ 5 _ _ _ hz1; have q6 := cell_of_row _ _ 6 _ _ _ hz1; have t0 := frozen_of_row _ _ 0 _ _ hz1; have t1 := frozen_of_row _ _ 1 _ _ hz1; have t2 := frozen_of_row _ _ 2 _ _ hz1; have t3 := frozen_of_row _ _ 3 _ _ hz1; have t4 := frozen_of_row _ _ 4 _ _ hz1; have t5 := frozen_of_row _ _ 5 _ _ hz1; have t6 := frozen_of_row _ _ 6 _ _ hz1; have HR1 := Lib.hid hr1; have HZ1 := Lib.hid hz1; have HB1 := Lib.hid (HDB.out.trans (hb1.mono HDB.out.size)); have HS1 : Hid (w.heap.size + 1 < w1.heap.size) := (by show _ < _; have h1 := hb1.size; have h2 := HDS.out; omega); clear hr1 hz1 hb1))
    go_wp2_with fail
    exact bodyPost_ret (results_cell2 rfl _ _ w.heap.size 24 _ (0, 0) _ rfl (row7_set _ _ _ _ _ _ _ _ _ _ _ _ _ _ _ _ _ ((other_set7 w1 (w.heap.size + 1) w.heap.size _ _ _ _ _ _ _ (by omega)).trans HZ1.out)) Try.underlying24 rfl (by kernel_rfl)) rfl ⟨.slice none 0 0, by rw [HDEC.out, HNO.out]; rfl, by rw [HNO.out]; exact SL.nil _ _ _ _ (Nat.zero_le _), below7 (below7g HB1.out (show w.heap.size ≤ w.heap.size + 1 by omega) _ _ _ _ _ _ _) _ _ _ _ _ _ _⟩
  · have h5' : l.length = 5 := by omega
    have h5a : l.length ≤ 5 := by omega
    have h5b : 5 ≤ l.length := by omega
    clear hlt5 hh h5'
    go_enter Try.func20, Try.ntmps20
    go_wp2_with fail
    go_region_held3 (fun w' => w'.cell? ⟨b, o, none⟩ = some (.int .u8 (x0.toNat : Int)) ∧ w'.cell? ⟨b, o + 1, none⟩ = some (.int .u8 (x1.toNat : Int)) ∧ w'.cell? ⟨b, o + 2, none⟩ = some (.int .u8 (x2.toNat : Int)) ∧ w'.cell? ⟨b, o + 3, none⟩ = some (.int .u8 (x3.toNat : Int)))
      (first | (go_keep; done) | exact ⟨g0, g1, g2, g3⟩) (fail)
    go_wp2_with fail
    go_region_with ((go_at_call 48; refine (HEX2.out _ (by first | exact HDB.out | exact HDB.out.drew)).mono ?_; rintro e w1 ⟨d, rfl, hd, hb1'⟩; have hb1 : Below (DW w x0 x1 x2 x3 false).heap.size (DW w x0 x1 x2 x3 false) w1 := (by first | exact hb1' | exact ((Below.refl _ _).drew).trans hb1'); clear hb1'; have hr1 := (hb1.block _ HDS.out).trans HDR.out; have hz1 := (hb1.block w.heap.size (by have := HDS.out; omega)).trans HDZ.out; have HD := Lib.hid hd; obtain ⟨Ad, cd, rfl, _, _, _⟩ := hd; have p0 := cell_of_row _ _ 0 _ _ _ hr1; have p1 := cell_of_row _ _ 1 _ _ _ hr1; have p2 := cell_of_row _ _ 2 _ _ _ hr1; have p3 := cell_of_row _ _ 3 _ _ _ hr1; have p4 := cell_of_row _ _ 4 _ _ _ hr1; have p5 := cell_of_row _ _ 5 _ _ _ hr1; have p6 := cell_of_row _ _ 6 _ _ _ hr1; have s0 := frozen_of_row _ _ 0 _ _ hr1; have s1 := frozen_of_row _ _ 1 _ _ hr1; have s2 := frozen_of_row _ _ 2 _ _ hr1; have s3 := frozen_of_row _ _ 3 _ _ hr1; have s4 := frozen_of_row _ _ 4 _ _ hr1; have s5 := frozen_of_row _ _ 5 _ _ hr1; have s6 := frozen_of_row _ _ 6 _ _ hr1; have q0 := cell_of_row _ _ 0 _ _ _ hz1; have q1 := cell_of_row _ _ 1 _ _ _ hz1; have q2 := cell_of_row _ _ 2 _ _ _ hz1; have q3 := cell_of_row _ _ 3 _ _ _ hz1; have q4 := cell_of_row _ _ 4 _ _ _ hz1; have q5 := cell_of_row _ _ 5 _ _ _ hz1; have q6 := cell_of_row _ _ 6 _ _ _ hz1; have t0 := frozen_of_row _ _ 0 _ _ hz1; have t1 := frozen_of_row _ _ 1 _ _ hz1; have t2 := frozen_of_row _ _ 2 _ _ hz1; have t3 := frozen_of_row _ _ 3 _ _ hz1; have t4 := frozen_of_row _ _ 4 _ _ hz1; have t5 := frozen_of_row _ _ 5 _ _ hz1; have t6 := frozen_of_row _ _ 6 _ _ hz1; have HR1 := Lib.hid hr1; have HZ1 := Lib.hid hz1; have HB1 := Lib.hid (HDB.out.trans (hb1.mono HDB.out.size)); have HS1 : Hid (w.heap.size + 1 < w1.heap.size) := (by show _ < _; have h1 := hb1.size; have h2 := HDS.out; omega); clear hr1 hz1 hb1))
    go_wp2_with fail
    exact bodyPost_ret (results_cell2 rfl _ _ w.heap.size 24 _ (0, 0) _ rfl (row7_set _ _ _ _ _ _ _ _ _ _ _ _ _ _ _ _ _ ((other_set7 w1 (w.heap.size + 1) w.heap.size _ _ _ _ _ _ _ (by omega)).trans HZ1.out)) Try.underlying24 rfl (by kernel_rfl)) rfl ⟨.slice none 0 0, by rw [HDEC.out, HNO.out]; rfl, by rw [HNO.out]; exact SL.nil _ _ _ _ (Nat.zero_le _), below7 (below7g HB1.out (show w.heap.size ≤ w.heap.size + 1 by omega) _ _ _ _ _ _ _) _ _ _ _ _ _ _⟩

set_option maxRecDepth 100000 in
theorem rdc_few (l : List UInt8) (v : Value) (w : World) (h : SL w w.heap.size v l) (h4 : l.length < 4) : Calls Try.prog 20 #[v] w (DecR l w) := by
  have HE : Hid (decE l = 5) := by show _ = _; rw [decE, if_pos h4]
  have HV : Hid (decV l = zeroC) := by show _ = _; rw [decV, HE.out, if_neg (by decide)]
  obtain ⟨A, c, rfl, k1, k2, k3⟩ := h
  go_enter Try.func20, Try.ntmps20
  go_wp2_with fail
  refine bodyPost_ret (results_cell2 rfl _ _ w.heap.size 24 _ (0, 0) _ rfl (heap_alloc_new w _) Try.underlying24 rfl (by kernel_rfl)) rfl ⟨.slice none 0 0, by rw [HE.out, HV.out]; rfl, by rw [HV.out]; exact SL.nil _ _ _ _ (Nat.zero_le _), alloc_below _ _⟩
set_option maxRecDepth 100000 in
set_option maxHeartbeats 3200000 in
theorem rdc_four (l : List UInt8) (v : Value) (w : World) (h : SL w w.heap.size v l) (h4 : l.length = 4) : Calls Try.prog 20 #[v] w (DecR l w) := by
  have HS := Lib.hid h
  obtain ⟨A, c, rfl, k1, k2, k3⟩ := h
  unfold maxLen at k2
  obtain ⟨b, o, rfl, hbl, hc⟩ := k3 (by omega)
  have g0 : w.cell? ⟨b, o, none⟩ = some (.int .u8 ((l.getD 0 0).toNat : Int)) := hc 0 (by omega)
  have g1 := hc 1 (by omega)
  have g2 := hc 2 (by omega)
  have g3 := hc 3 (by omega)
  have hlong : longB l = false := by rw [longB, h4]; rfl
  have hrest : restL l = [] := by rw [restL, hlong]; exact List.drop_eq_nil_of_le (by omega)
  have hb0 : bodyL 1 [] = ([], 0, 0) := rfl
  have hread : readC l = ⟨((l.getD 0 0).toNat : Int), ((l.getD 1 0).toNat : Int), ((l.getD 2 0).toNat : Int), ((l.getD 3 0).toNat : Int), [], 0, false⟩ := by rw [readC, hlong, hrest, show widN false = 1 from rfl, hb0]
  have hdec : decE l = chkC (readC l) := by rw [decE, if_neg (by omega), hlong, hrest, show widN false = 1 from rfl, hb0, if_neg (by simp)]
  have HYES := Lib.hid (fun (hk : chkC (readC l) = 0) => (show decV l = readC l from by rw [decV, if_pos (by rw [hdec]; exact hk)]))
  have HNO := Lib.hid (fun (hk : chkC (readC l) ≠ 0) => (show decV l = zeroC from by rw [decV, if_neg (by rw [hdec]; exact hk)]))
  rw [hread] at hdec HYES HNO
  have hx0 := (l.getD 0 0).toNat_lt
  have hx1 := (l.getD 1 0).toNat_lt
  have hx2 := (l.getD 2 0).toNat_lt
  have hx3 := (l.getD 3 0).toNat_lt
  generalize l.getD 0 0 = x0 at *
  generalize l.getD 1 0 = x1 at *
  generalize l.getD 2 0 = x2 at *
  generalize l.getD 3 0 = x3 at *
  have HDEC := Lib.hid hdec
  have HCK0 := (fun (W : World) => rchk_any ⟨(x0.toNat : Int), (x1.toNat : Int), (x2.toNat : Int), (x3.toNat : Int), [], 0, false⟩ none 0 0 W rfl (by show -9223372036854775808 ≤ (0 : Int) ∧ (0 : Int) ≤ 9223372036854775807; omega))
  obtain ⟨ck, hck⟩ : ∃ ck, ck = chkC ⟨(x0.toNat : Int), (x1.toNat : Int), (x2.toNat : Int), (x3.toNat : Int), [], 0, false⟩ := ⟨_, rfl⟩
  rw [← hck] at HCK0 HDEC HYES HNO
  simp only [Cm.val] at HCK0
  have HCK := Lib.hid HCK0
  clear HCK0
  have j0 : 0 < l.length := by omega
  have j1 : (1 : Int) < (l.length : Int) := by omega
  have j2 : (2 : Int) < (l.length : Int) := by omega
  have j3 : (3 : Int) < (l.length : Int) := by omega
  have j4 : l.length ≤ 4 := by omega
  have j5 : 4 ≤ l.length := by omega
  have HDR := Lib.hid (DW_row w x0 x1 x2 x3 false)
  have HDZ := Lib.hid (DW_zero w x0 x1 x2 x3 false)
  have HDS : Hid (w.heap.size + 1 < (DW w x0 x1 x2 x3 false).heap.size) := by show _ < _; rw [DW_size]; omega
  have HDB := Lib.hid (DW_below w x0 x1 x2 x3 false)
  clear hc k3 h4 hlong hrest hread hdec hb0 hck
  go_enter Try.func20, Try.ntmps20
  go_wp2_with fail
  go_region_held3 (fun w' => w'.cell? ⟨b, o, none⟩ = some (.int .u8 (x0.toNat : Int)) ∧ w'.cell? ⟨b, o + 1, none⟩ = some (.int .u8 (x1.toNat : Int)) ∧ w'.cell? ⟨b, o + 2, none⟩ = some (.int .u8 (x2.toNat : Int)) ∧ w'.cell? ⟨b, o + 3, none⟩ = some (.int .u8 (x3.toNat : Int)))
    (first | (go_keep; done) | exact ⟨g0, g1, g2, g3⟩) (fail)
  go_wp2_with fail
  refine (HCK.out (DW w x0 x1 x2 x3 false)).mono ?_
  rintro e w2 ⟨rfl, hb2⟩
  have hr2 := (hb2.block (w.heap.size + 1) HDS.out).trans HDR.out
  have hz2 := (hb2.block w.heap.size (by have := HDS.out; omega)).trans HDZ.out
  have HBEL2 := Lib.hid (HDB.out.trans (hb2.mono HDB.out.size))
  have HZ2 := Lib.hid hz2
  clear hb2
  have p0 := cell_of_row _ _ 0 _ _ _ hr2
  have p1 := cell_of_row _ _ 1 _ _ _ hr2
  have p2 := cell_of_row _ _ 2 _ _ _ hr2
  have p3 := cell_of_row _ _ 3 _ _ _ hr2
  have p4 := cell_of_row _ _ 4 _ _ _ hr2
  have p5 := cell_of_row _ _ 5 _ _ _ hr2
  have p6 := cell_of_row _ _ 6 _ _ _ hr2
  have q0 := cell_of_row _ _ 0 _ _ _ hz2
  have q1 := cell_of_row _ _ 1 _ _ _ hz2
  have q2 := cell_of_row _ _ 2 _ _ _ hz2
  have q3 := cell_of_row _ _ 3 _ _ _ hz2
  have q4 := cell_of_row _ _ 4 _ _ _ hz2
  have q5 := cell_of_row _ _ 5 _ _ _ hz2
  have q6 := cell_of_row _ _ 6 _ _ _ hz2
  have t0 := frozen_of_row _ _ 0 _ _ hz2
  have t1 := frozen_of_row _ _ 1 _ _ hz2
  have t2 := frozen_of_row _ _ 2 _ _ hz2
  have t3 := frozen_of_row _ _ 3 _ _ hz2
  have t4 := frozen_of_row _ _ 4 _ _ hz2
  have t5 := frozen_of_row _ _ 5 _ _ hz2
  have t6 := frozen_of_row _ _ 6 _ _ hz2
  clear hr2 hz2
  by_cases hck : ck = 0
  · have HV := Lib.hid (HYES.out hck)
    have HE : Hid (decE l = 0) := by show _ = _; rw [HDEC.out, hck]
    subst hck
    go_wp2_with fail
    refine bodyPost_ret (results_cell2 rfl _ _ w.heap.size 24 _ (0, 0) _ rfl (row7_set _ _ _ _ _ _ _ _ _ _ _ _ _ _ _ _ _ HZ2.out) Try.underlying24 rfl (by kernel_rfl)) rfl ⟨.slice none 0 0, by rw [HE.out, HV.out]; rfl, by rw [HV.out]; exact SL.nil _ _ _ _ (Nat.zero_le _), below7 HBEL2.out _ _ _ _ _ _ _⟩
  · have HV := Lib.hid (HNO.out hck)
    have cn : (ck != 0) = true := by rw [bne_iff_ne]; exact hck
    clear hck
    go_wp2_with fail
    exact bodyPost_ret (results_cell2 rfl _ _ w.heap.size 24 _ (0, 0) _ rfl (row7_set _ _ _ _ _ _ _ _ _ _ _ _ _ _ _ _ _ HZ2.out) Try.underlying24 rfl (by kernel_rfl)) rfl ⟨.slice none 0 0, by rw [HDEC.out, HV.out]; rfl, by rw [HV.out]; exact SL.nil _ _ _ _ (Nat.zero_le _), below7 HBEL2.out _ _ _ _ _ _ _⟩

/-- Decode, of the reference. -/
theorem rdec_any (l : List UInt8) (v : Value) (w : World) (h : SL w w.heap.size v l) (hl : l.length ≤ 80000) : Calls Try.prog 20 #[v] w (DecR l w) := by
  by_cases h3 : l.length < 4
  · exact rdc_few l v w h h3
  by_cases h4 : l.length = 4
  · exact rdc_four l v w h h4
  by_cases hA : 5 < l.length ∧ l.getD 4 0 = 0
  · have hok := (bodyL_ok 2 ((l.drop 4).drop 1) (by rw [List.length_drop, List.length_drop]; omega)).resolve_right (by decide)
    by_cases he : (bodyL 2 ((l.drop 4).drop 1)).2.2 = 0
    · exact rdc_Ayes l v w h hl hA.1 hA.2 (bodyL 2 ((l.drop 4).drop 1)).1 (bodyL 2 ((l.drop 4).drop 1)).2.1 (by rw [← he]) hok
    · exact rdc_Ano l v w h hl hA.1 hA.2 (bodyL 2 ((l.drop 4).drop 1)).1 (bodyL 2 ((l.drop 4).drop 1)).2.1 _ rfl he
  · have hok := (bodyL_ok 1 (l.drop 4) (by rw [List.length_drop]; omega)).resolve_right (by decide)
    by_cases he : (bodyL 1 (l.drop 4)).2.2 = 0
    · exact rdc_Byes l v w h hl (by omega) hA (bodyL 1 (l.drop 4)).1 (bodyL 1 (l.drop 4)).2.1 (by rw [← he]) hok
    · exact rdc_Bno l v w h hl (by omega) hA (bodyL 1 (l.drop 4)).1 (bodyL 1 (l.drop 4)).2.1 _ rfl he
end Go.Proofs.Ytjoibonbmalbdaa
