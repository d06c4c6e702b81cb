
/-
  The program's read: too short, or a condition with a number.
-/
import Derived.Test.YtjkbfogjfgnhiaaDoorCib
namespace Go.Proofs.YtjkbfogjfgnhiaaDoor
set_option linter.unusedVariables false
set_option linter.unusedSimpArgs false
open Go.RowKit

set_option maxRecDepth 100000 in
set_option maxHeartbeats 6400000 in
theorem rd_short_n (f : Nat) (b : List UInt8) (v : Value) (w : World) (B0 : Nat) (hle : B0 ≤ w.heap.size) (hT : Tb w) (hv : SL w B0 v b) (h0 : b.length = 1) (hb : byN b 0 < 6) (hb2 : 2 ≤ byN b 0) :
    Calls Tryd.prog 84 #[v] w fun e w' => RdP B0 w (rdF (f + 1) b) e w' := by
  have HV := Lib.hid hv
  obtain ⟨A, c, rfl, h1, h2, h3⟩ := id hv
  obtain ⟨B, o, rfl, hB, hc⟩ := h3 (by omega)
  have g0 : w.cell? ⟨B, o, none⟩ = some (.int .u8 ((byN b 0 : Nat) : Int)) := hc 0 (by omega)
  rw [rdF_short f b h0 (by omega)]
  rw [h0]
  obtain ⟨y, hy⟩ : ∃ y, y = byN b 0 := ⟨_, rfl⟩
  have hy2 : y < 256 := hy ▸ byN_lt b 0
  have HY := Lib.hid hy
  rw [← hy] at g0 hb hb2
  have hyi : ¬ (8 : Int) ≤ (y : Int) := by omega
  have hlt : B < w.heap.size := by omega
  obtain ⟨k0, k1, k2, k3, k4⟩ := hT.kd y (by omega)
  have e1 : (kindOf y).kd = false := by match y, hb, hb2 with | 2, _, _ | 3, _, _ | 4, _, _ | 5, _, _ => rfl
  have e2 : decide (0 < (kindOf y).hi) = true := by match y, hb, hb2 with | 2, _, _ | 3, _, _ | 4, _, _ | 5, _, _ => rfl
  rw [e1] at k1
  generalize (kindOf y).nm = K0 at *
  generalize (kindOf y).lo = K2 at *
  generalize (kindOf y).hi = K3 at *
  generalize (kindOf y).bs = K4 at *
  have hnd := fun W => numd_any K0 false K2 K3 K4 W
  rw [e2] at hnd
  have HND := Lib.hid hnd
  have hz := hT.size
  have hwr : IntKind.wrap .i64 (y : Int) = (y : Int) := by simp [IntKind.wrap, IntKind.signed, IntKind.bits]; omega
  obtain ⟨m, rfl⟩ : ∃ m, c = m + 1 := ⟨c - 1, by omega⟩
  clear h3 hv hc hy h1 hT e1 e2 hnd HV
  rcases m with _ | m
  · go_enter Tryd.func84, Tryd.ntmps84
    go_wp2_with fail
    have hb2 := alloc2_below w (Obj.cells #[.int .i64 0, .int .i64 0, .slice none 0 0] 24) (Obj.cells #[.string K0, .bool false, .int .i64 K2, .int .i64 K3, .int .i64 K4] 93)
    have hr := heap_alloc2_old w (Obj.cells #[.int .i64 0, .int .i64 0, .slice none 0 0] 24) (Obj.cells #[.string K0, .bool false, .int .i64 K2, .int .i64 K3, .int .i64 K4] 93)
    have hr2 := heap2_new w (Obj.cells #[.int .i64 0, .int .i64 0, .slice none 0 0] 24) (Obj.cells #[.string K0, .bool false, .int .i64 K2, .int .i64 K3, .int .i64 K4] 93)
    generalize (w.alloc (Obj.cells #[.int .i64 0, .int .i64 0, .slice none 0 0] 24)).alloc (Obj.cells #[.string K0, .bool false, .int .i64 K2, .int .i64 K3, .int .i64 K4] 93) = w3 at *
    have g3 : w3.cell? ⟨B, o, none⟩ = some (.int .u8 (y : Int)) := (hb2.cell hlt).trans g0
    have z0 := cell_of_row _ _ 0 _ _ _ hr
    have z1 := cell_of_row _ _ 1 _ _ _ hr
    have z2 := cell_of_row _ _ 2 _ _ _ hr
    have y0 := frozen_of_row _ _ 0 _ _ hr
    have y1 := frozen_of_row _ _ 1 _ _ hr
    have y2 := frozen_of_row _ _ 2 _ _ hr
    have p0 := cell_of_row _ _ 0 _ _ _ hr2
    have p1 := cell_of_row _ _ 1 _ _ _ hr2
    have p2 := cell_of_row _ _ 2 _ _ _ hr2
    have p3 := cell_of_row _ _ 3 _ _ _ hr2
    have p4 := cell_of_row _ _ 4 _ _ _ hr2
    have e0 : B ≠ w.heap.size := by omega
    have HR2 := Lib.hid hr
    have HR3 := Lib.hid hr2
    have HB2 := Lib.hid hb2
    clear hr hr2 hb2 k0 k1 k2 k3 k4
    go_region_with fail
    all_goals
      try simp only [hwr]
      obtain ⟨w5, hw5⟩ : ∃ w5, w5 = (((w3.setCell ⟨w.heap.size, 0, none⟩ (.int .i64 (y : Int))).setCell ⟨w.heap.size, 1, none⟩ (.int .i64 0)).setCell ⟨w.heap.size, 2, none⟩ (.slice none 0 0)).drew := ⟨_, rfl⟩
      rw [← hw5]
      obtain ⟨r5, r6, hb5⟩ := rd_mid HB2.out HR2.out HR3.out hw5
      clear hw5 p0 p1 p2 p3 p4 z0 z1 z2 y0 y1 y2 g3
      have p0 := cell_of_row _ _ 0 _ _ _ r6
      have p1 := cell_of_row _ _ 1 _ _ _ r6
      have p2 := cell_of_row _ _ 2 _ _ _ r6
      have p3 := cell_of_row _ _ 3 _ _ _ r6
      have p4 := cell_of_row _ _ 4 _ _ _ r6
      go_wp2_with fail
      refine (HND.out _).mono ?_
      rintro e w6 ⟨rfl, hb6⟩
      have i6 := (hb6.block w.heap.size ((Array.getElem?_eq_some_iff.1 r5).1)).trans r5
      have i7 := (hb6.block (w.heap.size + 1) ((Array.getElem?_eq_some_iff.1 r6).1)).trans r6
      clear p0 p1 p2 p3 p4
      have p0 := cell_of_row _ _ 0 _ _ _ i7
      have p1 := cell_of_row _ _ 1 _ _ _ i7
      have p2 := cell_of_row _ _ 2 _ _ _ i7
      have p3 := cell_of_row _ _ 3 _ _ _ i7
      have p4 := cell_of_row _ _ 4 _ _ _ i7
      have z0 := cell_of_row _ _ 0 _ _ _ i6
      have z1 := cell_of_row _ _ 1 _ _ _ i6
      have z2 := cell_of_row _ _ 2 _ _ _ i6
      have y0 := frozen_of_row _ _ 0 _ _ i6
      have y1 := frozen_of_row _ _ 1 _ _ i6
      have y2 := frozen_of_row _ _ 2 _ _ i6
      have hb7 := hb5.trans (hb6.mono hb5.size)
      have HB7 := Lib.hid hb7
      have I6 := Lib.hid i6
      have I7 := Lib.hid i7
      clear i6 i7 hb5 hb6 r5 r6 hb7
      go_wp2_with fail
      exact bodyPost_ret (results_cell3 rfl _ _ w.heap.size 24 #[.int .i64 0, .int .i64 0, .slice none 0 0] (0, 0) _ rfl (row3_set _ _ _ _ _ _ _ _ _ I6.out) Tryd.underlying24 rfl (by kernel_rfl)) rfl (rdp_none (set3_below HB7.out _ (Nat.le_refl _) _ _ _))
  · go_enter Tryd.func84, Tryd.ntmps84
    go_wp2_with fail
    have hb2 := alloc2_below w (Obj.cells #[.int .i64 0, .int .i64 0, .slice none 0 0] 24) (Obj.cells #[.string K0, .bool false, .int .i64 K2, .int .i64 K3, .int .i64 K4] 93)
    have hr := heap_alloc2_old w (Obj.cells #[.int .i64 0, .int .i64 0, .slice none 0 0] 24) (Obj.cells #[.string K0, .bool false, .int .i64 K2, .int .i64 K3, .int .i64 K4] 93)
    have hr2 := heap2_new w (Obj.cells #[.int .i64 0, .int .i64 0, .slice none 0 0] 24) (Obj.cells #[.string K0, .bool false, .int .i64 K2, .int .i64 K3, .int .i64 K4] 93)
    generalize (w.alloc (Obj.cells #[.int .i64 0, .int .i64 0, .slice none 0 0] 24)).alloc (Obj.cells #[.string K0, .bool false, .int .i64 K2, .int .i64 K3, .int .i64 K4] 93) = w3 at *
    have g3 : w3.cell? ⟨B, o, none⟩ = some (.int .u8 (y : Int)) := (hb2.cell hlt).trans g0
    have z0 := cell_of_row _ _ 0 _ _ _ hr
    have z1 := cell_of_row _ _ 1 _ _ _ hr
    have z2 := cell_of_row _ _ 2 _ _ _ hr
    have y0 := frozen_of_row _ _ 0 _ _ hr
    have y1 := frozen_of_row _ _ 1 _ _ hr
    have y2 := frozen_of_row _ _ 2 _ _ hr
    have p0 := cell_of_row _ _ 0 _ _ _ hr2
    have p1 := cell_of_row _ _ 1 _ _ _ hr2
    have p2 := cell_of_row _ _ 2 _ _ _ hr2
    have p3 := cell_of_row _ _ 3 _ _ _ hr2
    have p4 := cell_of_row _ _ 4 _ _ _ hr2
    have e0 : B ≠ w.heap.size := by omega
    have HR2 := Lib.hid hr
    have HR3 := Lib.hid hr2
    have HB2 := Lib.hid hb2
    clear hr hr2 hb2 k0 k1 k2 k3 k4
    go_region_with fail
    all_goals
      try simp only [hwr]
      obtain ⟨w5, hw5⟩ : ∃ w5, w5 = (((w3.setCell ⟨w.heap.size, 0, none⟩ (.int .i64 (y : Int))).setCell ⟨w.heap.size, 1, none⟩ (.int .i64 0)).setCell ⟨w.heap.size, 2, none⟩ (.slice none 0 0)).drew := ⟨_, rfl⟩
      rw [← hw5]
      obtain ⟨r5, r6, hb5⟩ := rd_mid HB2.out HR2.out HR3.out hw5
      clear hw5 p0 p1 p2 p3 p4 z0 z1 z2 y0 y1 y2 g3
      have p0 := cell_of_row _ _ 0 _ _ _ r6
      have p1 := cell_of_row _ _ 1 _ _ _ r6
      have p2 := cell_of_row _ _ 2 _ _ _ r6
      have p3 := cell_of_row _ _ 3 _ _ _ r6
      have p4 := cell_of_row _ _ 4 _ _ _ r6
      go_wp2_with fail
      refine (HND.out _).mono ?_
      rintro e w6 ⟨rfl, hb6⟩
      have i6 := (hb6.block w.heap.size ((Array.getElem?_eq_some_iff.1 r5).1)).trans r5
      have i7 := (hb6.block (w.heap.size + 1) ((Array.getElem?_eq_some_iff.1 r6).1)).trans r6
      clear p0 p1 p2 p3 p4
      have p0 := cell_of_row _ _ 0 _ _ _ i7
      have p1 := cell_of_row _ _ 1 _ _ _ i7
      have p2 := cell_of_row _ _ 2 _ _ _ i7
      have p3 := cell_of_row _ _ 3 _ _ _ i7
      have p4 := cell_of_row _ _ 4 _ _ _ i7
      have z0 := cell_of_row _ _ 0 _ _ _ i6
      have z1 := cell_of_row _ _ 1 _ _ _ i6
      have z2 := cell_of_row _ _ 2 _ _ _ i6
      have y0 := frozen_of_row _ _ 0 _ _ i6
      have y1 := frozen_of_row _ _ 1 _ _ i6
      have y2 := frozen_of_row _ _ 2 _ _ i6
      have hb7 := hb5.trans (hb6.mono hb5.size)
      have HB7 := Lib.hid hb7
      have I6 := Lib.hid i6
      have I7 := Lib.hid i7
      clear i6 i7 hb5 hb6 r5 r6 hb7
      go_wp2_with fail
      exact bodyPost_ret (results_cell3 rfl _ _ w.heap.size 24 #[.int .i64 0, .int .i64 0, .slice none 0 0] (0, 0) _ rfl (row3_set _ _ _ _ _ _ _ _ _ I6.out) Tryd.underlying24 rfl (by kernel_rfl)) rfl (rdp_none (set3_below HB7.out _ (Nat.le_refl _) _ _ _))

set_option maxRecDepth 100000 in
set_option maxHeartbeats 6400000 in
theorem rd_short_k (f : Nat) (b : List UInt8) (v : Value) (w : World) (B0 : Nat) (hle : B0 ≤ w.heap.size) (hT : Tb w) (hv : SL w B0 v b) (h0 : b.length = 1) (hb : byN b 0 < 8) (hb2 : 6 ≤ byN b 0) :
    Calls Tryd.prog 84 #[v] w fun e w' => RdP B0 w (rdF (f + 1) b) e w' := by
  have HV := Lib.hid hv
  obtain ⟨A, c, rfl, h1, h2, h3⟩ := id hv
  obtain ⟨B, o, rfl, hB, hc⟩ := h3 (by omega)
  have g0 : w.cell? ⟨B, o, none⟩ = some (.int .u8 ((byN b 0 : Nat) : Int)) := hc 0 (by omega)
  rw [rdF_short f b h0 (by omega)]
  rw [h0]
  obtain ⟨y, hy⟩ : ∃ y, y = byN b 0 := ⟨_, rfl⟩
  have hy2 : y < 256 := hy ▸ byN_lt b 0
  have HY := Lib.hid hy
  rw [← hy] at g0 hb hb2
  have hyi : ¬ (8 : Int) ≤ (y : Int) := by omega
  have hlt : B < w.heap.size := by omega
  obtain ⟨k0, k1, k2, k3, k4⟩ := hT.kd y (by omega)
  have e1 : (kindOf y).kd = true := by match y, hb, hb2 with | 6, _, _ | 7, _, _ => rfl
  have e2 : decide (0 < (kindOf y).hi) = false := by match y, hb, hb2 with | 6, _, _ | 7, _, _ => rfl
  rw [e1] at k1
  generalize (kindOf y).nm = K0 at *
  generalize (kindOf y).lo = K2 at *
  generalize (kindOf y).hi = K3 at *
  generalize (kindOf y).bs = K4 at *
  have hnd := fun W => numd_any K0 true K2 K3 K4 W
  rw [e2] at hnd
  have HND := Lib.hid hnd
  have hz := hT.size
  have hwr : IntKind.wrap .i64 (y : Int) = (y : Int) := by simp [IntKind.wrap, IntKind.signed, IntKind.bits]; omega
  obtain ⟨m, rfl⟩ : ∃ m, c = m + 1 := ⟨c - 1, by omega⟩
  clear h3 hv hc hy h1 hT e1 e2 hnd HV
  rcases m with _ | m
  · go_enter Tryd.func84, Tryd.ntmps84
    go_wp2_with fail
    have hb2 := alloc2_below w (Obj.cells #[.int .i64 0, .int .i64 0, .slice none 0 0] 24) (Obj.cells #[.string K0, .bool true, .int .i64 K2, .int .i64 K3, .int .i64 K4] 93)
    have hr := heap_alloc2_old w (Obj.cells #[.int .i64 0, .int .i64 0, .slice none 0 0] 24) (Obj.cells #[.string K0, .bool true, .int .i64 K2, .int .i64 K3, .int .i64 K4] 93)
    have hr2 := heap2_new w (Obj.cells #[.int .i64 0, .int .i64 0, .slice none 0 0] 24) (Obj.cells #[.string K0, .bool true, .int .i64 K2, .int .i64 K3, .int .i64 K4] 93)
    generalize (w.alloc (Obj.cells #[.int .i64 0, .int .i64 0, .slice none 0 0] 24)).alloc (Obj.cells #[.string K0, .bool true, .int .i64 K2, .int .i64 K3, .int .i64 K4] 93) = w3 at *
    have g3 : w3.cell? ⟨B, o, none⟩ = some (.int .u8 (y : Int)) := (hb2.cell hlt).trans g0
    have z0 := cell_of_row _ _ 0 _ _ _ hr
    have z1 := cell_of_row _ _ 1 _ _ _ hr
    have z2 := cell_of_row _ _ 2 _ _ _ hr
    have y0 := frozen_of_row _ _ 0 _ _ hr
    have y1 := frozen_of_row _ _ 1 _ _ hr
    have y2 := frozen_of_row _ _ 2 _ _ hr
    have p0 := cell_of_row _ _ 0 _ _ _ hr2
    have p1 := cell_of_row _ _ 1 _ _ _ hr2
    have p2 := cell_of_row _ _ 2 _ _ _ hr2
    have p3 := cell_of_row _ _ 3 _ _ _ hr2
    have p4 := cell_of_row _ _ 4 _ _ _ hr2
    have e0 : B ≠ w.heap.size := by omega
    have HR2 := Lib.hid hr
    have HR3 := Lib.hid hr2
    have HB2 := Lib.hid hb2
    clear hr hr2 hb2 k0 k1 k2 k3 k4
    go_region_with fail
    all_goals
      try simp only [hwr]
      obtain ⟨w5, hw5⟩ : ∃ w5, w5 = (((w3.setCell ⟨w.heap.size, 0, none⟩ (.int .i64 (y : Int))).setCell ⟨w.heap.size, 1, none⟩ (.int .i64 0)).setCell ⟨w.heap.size, 2, none⟩ (.slice none 0 0)).drew := ⟨_, rfl⟩
      rw [← hw5]
      obtain ⟨r5, r6, hb5⟩ := rd_mid HB2.out HR2.out HR3.out hw5
      clear hw5 p0 p1 p2 p3 p4 z0 z1 z2 y0 y1 y2 g3
      have p0 := cell_of_row _ _ 0 _ _ _ r6
      have p1 := cell_of_row _ _ 1 _ _ _ r6
      have p2 := cell_of_row _ _ 2 _ _ _ r6
      have p3 := cell_of_row _ _ 3 _ _ _ r6
      have p4 := cell_of_row _ _ 4 _ _ _ r6
      go_wp2_with fail
      refine (HND.out _).mono ?_
      rintro e w6 ⟨rfl, hb6⟩
      have i6 := (hb6.block w.heap.size ((Array.getElem?_eq_some_iff.1 r5).1)).trans r5
      have i7 := (hb6.block (w.heap.size + 1) ((Array.getElem?_eq_some_iff.1 r6).1)).trans r6
      clear p0 p1 p2 p3 p4
      have p0 := cell_of_row _ _ 0 _ _ _ i7
      have p1 := cell_of_row _ _ 1 _ _ _ i7
      have p2 := cell_of_row _ _ 2 _ _ _ i7
      have p3 := cell_of_row _ _ 3 _ _ _ i7
      have p4 := cell_of_row _ _ 4 _ _ _ i7
      have z0 := cell_of_row _ _ 0 _ _ _ i6
      have z1 := cell_of_row _ _ 1 _ _ _ i6
      have z2 := cell_of_row _ _ 2 _ _ _ i6
      have y0 := frozen_of_row _ _ 0 _ _ i6
      have y1 := frozen_of_row _ _ 1 _ _ i6
      have y2 := frozen_of_row _ _ 2 _ _ i6
      have hb7 := hb5.trans (hb6.mono hb5.size)
      have HB7 := Lib.hid hb7
      have I6 := Lib.hid i6
      have I7 := Lib.hid i7
      clear i6 i7 hb5 hb6 r5 r6 hb7
      go_wp2_with fail
      exact bodyPost_ret (results_cell3 rfl _ _ w.heap.size 24 #[.int .i64 0, .int .i64 0, .slice none 0 0] (0, 0) _ rfl (row3_set _ _ _ _ _ _ _ _ _ I6.out) Tryd.underlying24 rfl (by kernel_rfl)) rfl (rdp_none (set3_below HB7.out _ (Nat.le_refl _) _ _ _))
  · go_enter Tryd.func84, Tryd.ntmps84
    go_wp2_with fail
    have hb2 := alloc2_below w (Obj.cells #[.int .i64 0, .int .i64 0, .slice none 0 0] 24) (Obj.cells #[.string K0, .bool true, .int .i64 K2, .int .i64 K3, .int .i64 K4] 93)
    have hr := heap_alloc2_old w (Obj.cells #[.int .i64 0, .int .i64 0, .slice none 0 0] 24) (Obj.cells #[.string K0, .bool true, .int .i64 K2, .int .i64 K3, .int .i64 K4] 93)
    have hr2 := heap2_new w (Obj.cells #[.int .i64 0, .int .i64 0, .slice none 0 0] 24) (Obj.cells #[.string K0, .bool true, .int .i64 K2, .int .i64 K3, .int .i64 K4] 93)
    generalize (w.alloc (Obj.cells #[.int .i64 0, .int .i64 0, .slice none 0 0] 24)).alloc (Obj.cells #[.string K0, .bool true, .int .i64 K2, .int .i64 K3, .int .i64 K4] 93) = w3 at *
    have g3 : w3.cell? ⟨B, o, none⟩ = some (.int .u8 (y : Int)) := (hb2.cell hlt).trans g0
    have z0 := cell_of_row _ _ 0 _ _ _ hr
    have z1 := cell_of_row _ _ 1 _ _ _ hr
    have z2 := cell_of_row _ _ 2 _ _ _ hr
    have y0 := frozen_of_row _ _ 0 _ _ hr
    have y1 := frozen_of_row _ _ 1 _ _ hr
    have y2 := frozen_of_row _ _ 2 _ _ hr
    have p0 := cell_of_row _ _ 0 _ _ _ hr2
    have p1 := cell_of_row _ _ 1 _ _ _ hr2
    have p2 := cell_of_row _ _ 2 _ _ _ hr2
    have p3 := cell_of_row _ _ 3 _ _ _ hr2
    have p4 := cell_of_row _ _ 4 _ _ _ hr2
    have e0 : B ≠ w.heap.size := by omega
    have HR2 := Lib.hid hr
    have HR3 := Lib.hid hr2
    have HB2 := Lib.hid hb2
    clear hr hr2 hb2 k0 k1 k2 k3 k4
    go_region_with fail
    all_goals
      try simp only [hwr]
      obtain ⟨w5, hw5⟩ : ∃ w5, w5 = (((w3.setCell ⟨w.heap.size, 0, none⟩ (.int .i64 (y : Int))).setCell ⟨w.heap.size, 1, none⟩ (.int .i64 0)).setCell ⟨w.heap.size, 2, none⟩ (.slice none 0 0)).drew := ⟨_, rfl⟩
      rw [← hw5]
      obtain ⟨r5, r6, hb5⟩ := rd_mid HB2.out HR2.out HR3.out hw5
      clear hw5 p0 p1 p2 p3 p4 z0 z1 z2 y0 y1 y2 g3
      have p0 := cell_of_row _ _ 0 _ _ _ r6
      have p1 := cell_of_row _ _ 1 _ _ _ r6
      have p2 := cell_of_row _ _ 2 _ _ _ r6
      have p3 := cell_of_row _ _ 3 _ _ _ r6
      have p4 := cell_of_row _ _ 4 _ _ _ r6
      go_wp2_with fail
      refine (HND.out _).mono ?_
      rintro e w6 ⟨rfl, hb6⟩
      have i6 := (hb6.block w.heap.size ((Array.getElem?_eq_some_iff.1 r5).1)).trans r5
      have i7 := (hb6.block (w.heap.size + 1) ((Array.getElem?_eq_some_iff.1 r6).1)).trans r6
      clear p0 p1 p2 p3 p4
      have p0 := cell_of_row _ _ 0 _ _ _ i7
      have p1 := cell_of_row _ _ 1 _ _ _ i7
      have p2 := cell_of_row _ _ 2 _ _ _ i7
      have p3 := cell_of_row _ _ 3 _ _ _ i7
      have p4 := cell_of_row _ _ 4 _ _ _ i7
      have z0 := cell_of_row _ _ 0 _ _ _ i6
      have z1 := cell_of_row _ _ 1 _ _ _ i6
      have z2 := cell_of_row _ _ 2 _ _ _ i6
      have y0 := frozen_of_row _ _ 0 _ _ i6
      have y1 := frozen_of_row _ _ 1 _ _ i6
      have y2 := frozen_of_row _ _ 2 _ _ i6
      have hb7 := hb5.trans (hb6.mono hb5.size)
      have HB7 := Lib.hid hb7
      have I6 := Lib.hid i6
      have I7 := Lib.hid i7
      clear i6 i7 hb5 hb6 r5 r6 hb7
      go_wp2_with fail
      exact bodyPost_ret (results_cell3 rfl _ _ w.heap.size 24 #[.int .i64 0, .int .i64 0, .slice none 0 0] (0, 0) _ rfl (row3_set _ _ _ _ _ _ _ _ _ I6.out) Tryd.underlying24 rfl (by kernel_rfl)) rfl (rdp_none (set3_below HB7.out _ (Nat.le_refl _) _ _ _))

theorem sl_tail2 {w : World} {B0 B o c n : Nat} {b : List UInt8} (h : SL w B0 (.slice (some ⟨B, o, none⟩) b.length (c + 1 + 1)) b) (hn : b.length = n + 1 + 1) : SL w B0 (.slice (some ⟨B, o + 1 + 1, none⟩) n c) (b.drop 2) := by
  have s1 := sl_tail h hn
  have hd1 : (b.drop 1).length = n + 1 := by rw [List.length_drop]; omega
  rw [← hd1] at s1
  have s2 := sl_tail s1 hd1
  rwa [List.drop_drop] at s2

set_option maxRecDepth 100000 in
set_option maxHeartbeats 6400000 in
theorem rd_num (f : Nat) (b : List UInt8) (v : Value) (w : World) (B0 : Nat) (hle : B0 ≤ w.heap.size) (hT : Tb w) (hv : SL w B0 v b) (h0 : 2 ≤ b.length) (hb : byN b 0 < 6) (hb2 : 2 ≤ byN b 0) :
    Calls Tryd.prog 84 #[v] w fun e w' => RdP B0 w (rdF (f + 1) b) e w' := by
  have HV := Lib.hid hv
  obtain ⟨A, c, rfl, h1, h2, h3⟩ := id hv
  obtain ⟨B, o, rfl, hB, hc⟩ := h3 (by omega)
  have g0 : w.cell? ⟨B, o, none⟩ = some (.int .u8 ((byN b 0 : Nat) : Int)) := hc 0 (by omega)
  have g1 : w.cell? ⟨B, o + 1, none⟩ = some (.int .u8 ((byN b 1 : Nat) : Int)) := hc 1 (by omega)
  obtain ⟨R, hR⟩ : ∃ R, R = rdF (f + 1) b := ⟨_, rfl⟩
  rw [← hR]
  have HR := Lib.hid (hR.trans (rdF_num f b h0 hb2 hb))
  obtain ⟨n, hn⟩ : ∃ n, b.length = n + 1 + 1 := ⟨b.length - 2, by omega⟩
  rw [hn]
  obtain ⟨x, hx⟩ : ∃ x, x = byN b 1 := ⟨_, rfl⟩
  have hx2 : x < 256 := hx ▸ byN_lt b 1
  have HX := Lib.hid hx
  rw [← hx] at g1
  have hwx : IntKind.wrap .i64 (x : Int) = (x : Int) := by simp [IntKind.wrap, IntKind.signed, IntKind.bits]; omega
  have h1n : (1 : Int) ≤ ((n + 1 + 1 : Nat) : Int) := by omega
  have h1m : (1 : Int) ≤ ((n + 1 : Nat) : Int) := by omega
  have HN := Lib.hid hn
  obtain ⟨y, hy⟩ : ∃ y, y = byN b 0 := ⟨_, rfl⟩
  have hy2 : y < 256 := hy ▸ byN_lt b 0
  have HY := Lib.hid hy
  rw [← hy] at g0 hb hb2
  have hyi : ¬ (8 : Int) ≤ (y : Int) := by omega
  have hlt : B < w.heap.size := by omega
  obtain ⟨k0, k1, k2, k3, k4⟩ := hT.kd y (by omega)
  have e1 : (kindOf y).kd = false := by match y, hb, hb2 with | 2, _, _ | 3, _, _ | 4, _, _ | 5, _, _ => rfl
  have e2 : decide (0 < (kindOf y).hi) = true := by match y, hb, hb2 with | 2, _, _ | 3, _, _ | 4, _, _ | 5, _, _ => rfl
  rw [e1] at k1
  generalize (kindOf y).nm = K0 at *
  generalize (kindOf y).lo = K2 at *
  generalize (kindOf y).hi = K3 at *
  generalize (kindOf y).bs = K4 at *
  have hnd := fun W => numd_any K0 false K2 K3 K4 W
  rw [e2] at hnd
  have HND := Lib.hid hnd
  have hz := hT.size
  have hwr : IntKind.wrap .i64 (y : Int) = (y : Int) := by simp [IntKind.wrap, IntKind.signed, IntKind.bits]; omega
  obtain ⟨m, rfl⟩ : ∃ m, c = m + 1 + 1 := ⟨c - 2, by omega⟩
  have hnm : n ≤ m := by omega
  clear h3 hv hc hy h1 h0 hT e1 e2 hnd hR hx hn
  rcases m with _ | m
  · obtain rfl : n = 0 := by omega
    go_enter Tryd.func84, Tryd.ntmps84
    go_wp2_with fail
    have hb2 := alloc2_below w (Obj.cells #[.int .i64 0, .int .i64 0, .slice none 0 0] 24) (Obj.cells #[.string K0, .bool false, .int .i64 K2, .int .i64 K3, .int .i64 K4] 93)
    have hr := heap_alloc2_old w (Obj.cells #[.int .i64 0, .int .i64 0, .slice none 0 0] 24) (Obj.cells #[.string K0, .bool false, .int .i64 K2, .int .i64 K3, .int .i64 K4] 93)
    have hr2 := heap2_new w (Obj.cells #[.int .i64 0, .int .i64 0, .slice none 0 0] 24) (Obj.cells #[.string K0, .bool false, .int .i64 K2, .int .i64 K3, .int .i64 K4] 93)
    generalize (w.alloc (Obj.cells #[.int .i64 0, .int .i64 0, .slice none 0 0] 24)).alloc (Obj.cells #[.string K0, .bool false, .int .i64 K2, .int .i64 K3, .int .i64 K4] 93) = w3 at *
    have g3 : w3.cell? ⟨B, o, none⟩ = some (.int .u8 (y : Int)) := (hb2.cell hlt).trans g0
    have z0 := cell_of_row _ _ 0 _ _ _ hr
    have z1 := cell_of_row _ _ 1 _ _ _ hr
    have z2 := cell_of_row _ _ 2 _ _ _ hr
    have y0 := frozen_of_row _ _ 0 _ _ hr
    have y1 := frozen_of_row _ _ 1 _ _ hr
    have y2 := frozen_of_row _ _ 2 _ _ hr
    have p0 := cell_of_row _ _ 0 _ _ _ hr2
    have p1 := cell_of_row _ _ 1 _ _ _ hr2
    have p2 := cell_of_row _ _ 2 _ _ _ hr2
    have p3 := cell_of_row _ _ 3 _ _ _ hr2
    have p4 := cell_of_row _ _ 4 _ _ _ hr2
    have e0 : B ≠ w.heap.size := by omega
    have HR2 := Lib.hid hr
    have HR3 := Lib.hid hr2
    have HB2 := Lib.hid hb2
    clear hr hr2 hb2 k0 k1 k2 k3 k4
    go_region_with fail
    all_goals
      try simp only [hwr]
      obtain ⟨w5, hw5⟩ : ∃ w5, w5 = (((w3.setCell ⟨w.heap.size, 0, none⟩ (.int .i64 (y : Int))).setCell ⟨w.heap.size, 1, none⟩ (.int .i64 0)).setCell ⟨w.heap.size, 2, none⟩ (.slice none 0 0)).drew := ⟨_, rfl⟩
      rw [← hw5]
      obtain ⟨r5, r6, hb5⟩ := rd_mid HB2.out HR2.out HR3.out hw5
      clear hw5 p0 p1 p2 p3 p4 z0 z1 z2 y0 y1 y2 g3
      have p0 := cell_of_row _ _ 0 _ _ _ r6
      have p1 := cell_of_row _ _ 1 _ _ _ r6
      have p2 := cell_of_row _ _ 2 _ _ _ r6
      have p3 := cell_of_row _ _ 3 _ _ _ r6
      have p4 := cell_of_row _ _ 4 _ _ _ r6
      go_wp2_with fail
      refine (HND.out _).mono ?_
      rintro e w6 ⟨rfl, hb6⟩
      have i6 := (hb6.block w.heap.size ((Array.getElem?_eq_some_iff.1 r5).1)).trans r5
      have i7 := (hb6.block (w.heap.size + 1) ((Array.getElem?_eq_some_iff.1 r6).1)).trans r6
      clear p0 p1 p2 p3 p4
      have p0 := cell_of_row _ _ 0 _ _ _ i7
      have p1 := cell_of_row _ _ 1 _ _ _ i7
      have p2 := cell_of_row _ _ 2 _ _ _ i7
      have p3 := cell_of_row _ _ 3 _ _ _ i7
      have p4 := cell_of_row _ _ 4 _ _ _ i7
      have z0 := cell_of_row _ _ 0 _ _ _ i6
      have z1 := cell_of_row _ _ 1 _ _ _ i6
      have z2 := cell_of_row _ _ 2 _ _ _ i6
      have y0 := frozen_of_row _ _ 0 _ _ i6
      have y1 := frozen_of_row _ _ 1 _ _ i6
      have y2 := frozen_of_row _ _ 2 _ _ i6
      have hb7 := hb5.trans (hb6.mono hb5.size)
      have HB7 := Lib.hid hb7
      have I6 := Lib.hid i6
      have I7 := Lib.hid i7
      have g6 : w6.cell? ⟨B, o + 1, none⟩ = some (.int .u8 (x : Int)) := (hb7.cell hlt).trans g1
      clear i6 i7 hb5 hb6 r5 r6 hb7
      go_wp2_with fail
      go_region_with fail
      all_goals
        try simp only [hwx]
        go_wp2_with fail
        refine (HND.out _).mono ?_
        rintro e w8 ⟨rfl, hb8⟩
        have hb9 : Below w6.heap.size w6 w8 := by first | exact hb8 | exact ((Below.refl _ _).drew).trans hb8
        clear hb8
        have i8 := (hb9.block w.heap.size ((Array.getElem?_eq_some_iff.1 I6.out).1)).trans I6.out
        clear p0 p1 p2 p3 p4 z0 z1 z2 y0 y1 y2
        have z0 := cell_of_row _ _ 0 _ _ _ i8
        have z1 := cell_of_row _ _ 1 _ _ _ i8
        have z2 := cell_of_row _ _ 2 _ _ _ i8
        have y0 := frozen_of_row _ _ 0 _ _ i8
        have y1 := frozen_of_row _ _ 1 _ _ i8
        have y2 := frozen_of_row _ _ 2 _ _ i8
        have HB9 := Lib.hid (HB7.out.trans (hb9.mono HB7.out.size))
        have I8 := Lib.hid i8
        clear i8 hb9
        go_wp2_with fail
        have hn := HN.out
        have r8 : (w8.setCell ⟨w.heap.size, 1, none⟩ (.int .i64 (x : Int))).heap[w.heap.size]? = some (.cells #[.int .i64 y, .int .i64 x, .slice none 0 0] 24 (0, 0)) := by
          rw [heap_setCell_same _ _ 1 _ _ _ I8.out]
          simp
        have hb11 := set3_below (HB9.out.setCell (p := ⟨w.heap.size, 1, none⟩) (Nat.le_refl _) (.int .i64 (x : Int))) _ (Nat.le_refl _) (.int .i64 (y : Int)) (.int .i64 (x : Int)) (.slice none 0 0)
        refine bodyPost_ret (results_cell3 rfl _ _ w.heap.size 24 #[.int .i64 y, .int .i64 x, .slice none 0 0] (0, 0) _ rfl (row3_set _ _ _ _ _ _ _ _ _ r8) Tryd.underlying24 rfl (by kernel_rfl)) rfl ?_
        first
          | exact rdp_some (r := b.drop 2) (by rw [HR.out, HY.out, HX.out]) (by rw [List.length_drop]; omega) ((sl_tail2 HV.out hn).below (hb11.mono hle)) hb11
          | (have hd : b.drop 2 = [] := List.eq_nil_of_length_eq_zero (by rw [List.length_drop]; omega)
             exact rdp_some (r := []) (by rw [HR.out, hd, HY.out, HX.out]) rfl (SL.nil _ _ _ _ (Nat.zero_le _)) hb11)
  · go_enter Tryd.func84, Tryd.ntmps84
    go_wp2_with fail
    have hb2 := alloc2_below w (Obj.cells #[.int .i64 0, .int .i64 0, .slice none 0 0] 24) (Obj.cells #[.string K0, .bool false, .int .i64 K2, .int .i64 K3, .int .i64 K4] 93)
    have hr := heap_alloc2_old w (Obj.cells #[.int .i64 0, .int .i64 0, .slice none 0 0] 24) (Obj.cells #[.string K0, .bool false, .int .i64 K2, .int .i64 K3, .int .i64 K4] 93)
    have hr2 := heap2_new w (Obj.cells #[.int .i64 0, .int .i64 0, .slice none 0 0] 24) (Obj.cells #[.string K0, .bool false, .int .i64 K2, .int .i64 K3, .int .i64 K4] 93)
    generalize (w.alloc (Obj.cells #[.int .i64 0, .int .i64 0, .slice none 0 0] 24)).alloc (Obj.cells #[.string K0, .bool false, .int .i64 K2, .int .i64 K3, .int .i64 K4] 93) = w3 at *
    have g3 : w3.cell? ⟨B, o, none⟩ = some (.int .u8 (y : Int)) := (hb2.cell hlt).trans g0
    have z0 := cell_of_row _ _ 0 _ _ _ hr
    have z1 := cell_of_row _ _ 1 _ _ _ hr
    have z2 := cell_of_row _ _ 2 _ _ _ hr
    have y0 := frozen_of_row _ _ 0 _ _ hr
    have y1 := frozen_of_row _ _ 1 _ _ hr
    have y2 := frozen_of_row _ _ 2 _ _ hr
    have p0 := cell_of_row _ _ 0 _ _ _ hr2
    have p1 := cell_of_row _ _ 1 _ _ _ hr2
    have p2 := cell_of_row _ _ 2 _ _ _ hr2
    have p3 := cell_of_row _ _ 3 _ _ _ hr2
    have p4 := cell_of_row _ _ 4 _ _ _ hr2
    have e0 : B ≠ w.heap.size := by omega
    have HR2 := Lib.hid hr
    have HR3 := Lib.hid hr2
    have HB2 := Lib.hid hb2
    clear hr hr2 hb2 k0 k1 k2 k3 k4
    go_region_with fail
    all_goals
      try simp only [hwr]
      obtain ⟨w5, hw5⟩ : ∃ w5, w5 = (((w3.setCell ⟨w.heap.size, 0, none⟩ (.int .i64 (y : Int))).setCell ⟨w.heap.size, 1, none⟩ (.int .i64 0)).setCell ⟨w.heap.size, 2, none⟩ (.slice none 0 0)).drew := ⟨_, rfl⟩
      rw [← hw5]
      obtain ⟨r5, r6, hb5⟩ := rd_mid HB2.out HR2.out HR3.out hw5
      clear hw5 p0 p1 p2 p3 p4 z0 z1 z2 y0 y1 y2 g3
      have p0 := cell_of_row _ _ 0 _ _ _ r6
      have p1 := cell_of_row _ _ 1 _ _ _ r6
      have p2 := cell_of_row _ _ 2 _ _ _ r6
      have p3 := cell_of_row _ _ 3 _ _ _ r6
      have p4 := cell_of_row _ _ 4 _ _ _ r6
      go_wp2_with fail
      refine (HND.out _).mono ?_
      rintro e w6 ⟨rfl, hb6⟩
      have i6 := (hb6.block w.heap.size ((Array.getElem?_eq_some_iff.1 r5).1)).trans r5
      have i7 := (hb6.block (w.heap.size + 1) ((Array.getElem?_eq_some_iff.1 r6).1)).trans r6
      clear p0 p1 p2 p3 p4
      have p0 := cell_of_row _ _ 0 _ _ _ i7
      have p1 := cell_of_row _ _ 1 _ _ _ i7
      have p2 := cell_of_row _ _ 2 _ _ _ i7
      have p3 := cell_of_row _ _ 3 _ _ _ i7
      have p4 := cell_of_row _ _ 4 _ _ _ i7
      have z0 := cell_of_row _ _ 0 _ _ _ i6
      have z1 := cell_of_row _ _ 1 _ _ _ i6
      have z2 := cell_of_row _ _ 2 _ _ _ i6
      have y0 := frozen_of_row _ _ 0 _ _ i6
      have y1 := frozen_of_row _ _ 1 _ _ i6
      have y2 := frozen_of_row _ _ 2 _ _ i6
      have hb7 := hb5.trans (hb6.mono hb5.size)
      have HB7 := Lib.hid hb7
      have I6 := Lib.hid i6
      have I7 := Lib.hid i7
      have g6 : w6.cell? ⟨B, o + 1, none⟩ = some (.int .u8 (x : Int)) := (hb7.cell hlt).trans g1
      clear i6 i7 hb5 hb6 r5 r6 hb7
      go_wp2_with fail
      go_region_with fail
      all_goals
        try simp only [hwx]
        go_wp2_with fail
        refine (HND.out _).mono ?_
        rintro e w8 ⟨rfl, hb8⟩
        have hb9 : Below w6.heap.size w6 w8 := by first | exact hb8 | exact ((Below.refl _ _).drew).trans hb8
        clear hb8
        have i8 := (hb9.block w.heap.size ((Array.getElem?_eq_some_iff.1 I6.out).1)).trans I6.out
        clear p0 p1 p2 p3 p4 z0 z1 z2 y0 y1 y2
        have z0 := cell_of_row _ _ 0 _ _ _ i8
        have z1 := cell_of_row _ _ 1 _ _ _ i8
        have z2 := cell_of_row _ _ 2 _ _ _ i8
        have y0 := frozen_of_row _ _ 0 _ _ i8
        have y1 := frozen_of_row _ _ 1 _ _ i8
        have y2 := frozen_of_row _ _ 2 _ _ i8
        have HB9 := Lib.hid (HB7.out.trans (hb9.mono HB7.out.size))
        have I8 := Lib.hid i8
        clear i8 hb9
        go_wp2_with fail
        have hn := HN.out
        have r8 : (w8.setCell ⟨w.heap.size, 1, none⟩ (.int .i64 (x : Int))).heap[w.heap.size]? = some (.cells #[.int .i64 y, .int .i64 x, .slice none 0 0] 24 (0, 0)) := by
          rw [heap_setCell_same _ _ 1 _ _ _ I8.out]
          simp
        have hb11 := set3_below (HB9.out.setCell (p := ⟨w.heap.size, 1, none⟩) (Nat.le_refl _) (.int .i64 (x : Int))) _ (Nat.le_refl _) (.int .i64 (y : Int)) (.int .i64 (x : Int)) (.slice none 0 0)
        refine bodyPost_ret (results_cell3 rfl _ _ w.heap.size 24 #[.int .i64 y, .int .i64 x, .slice none 0 0] (0, 0) _ rfl (row3_set _ _ _ _ _ _ _ _ _ r8) Tryd.underlying24 rfl (by kernel_rfl)) rfl ?_
        first
          | exact rdp_some (r := b.drop 2) (by rw [HR.out, HY.out, HX.out]) (by rw [List.length_drop]; omega) ((sl_tail2 HV.out hn).below (hb11.mono hle)) hb11
          | (have hd : b.drop 2 = [] := List.eq_nil_of_length_eq_zero (by rw [List.length_drop]; omega)
             exact rdp_some (r := []) (by rw [HR.out, hd, HY.out, HX.out]) rfl (SL.nil _ _ _ _ (Nat.zero_le _)) hb11)

end Go.Proofs.YtjkbfogjfgnhiaaDoor
