
/-
  readObject, by cases.
  readObject, by cases.
  readObject, by cases.
-/
import Derived.Test.YtjkbfogjfgnhiaaDoorDmb
namespace Go.Proofs.YtjkbfogjfgnhiaaDoor
set_option linter.unusedVariables false
set_option linter.unusedSimpArgs false
open Go.RowKit


set_option maxRecDepth 100000 in
set_option maxHeartbeats 6400000 in
theorem roB_L1Ve_z (B o x y t z d : Nat) (er : Int) (w : World) (hd : d ≤ 8) (g0 : w.cell? ⟨B, o, none⟩ = some (.int .u8 (x : Int))) (hx : x < 256) (hx0 : ((x : Int) == 0) = false) (ha : bits .and .i64 (x : Int) 31 = (x : Int) % 32) (hx1 : (x : Int) % 32 = 31) (g1 : w.cell? ⟨B, o + 1, none⟩ = some (.int .u8 (y : Int))) (hy : y < 256) (ht : bits .or .i64 ((x : Int) * 256) (y : Int) = (t : Int)) (hv : validB (t : Int) = true) (gz : w.cell? ⟨B, o + 1 + 1, none⟩ = some (.int .u8 (z : Int))) (hz : z < 256) (hz1 : (z : Int) < 128) (hnm : ¬ (0 : Int) < (z : Int)) (hnle : z ≤ 0) (her : (er == 0) = false) (HW0 : ∀ A c W, Below w.heap.size w W → (0 < z → A = some ⟨B, o + 3, none⟩) → z ≤ c → c ≤ 9223372036854775807 → Calls Tryd.prog 113 #[.int .i64 t, .slice A z c, .int .i64 d] W fun e w' => ∃ A1 c1 A2 c2, e = .returned (.tuple #[.agg #[.int .i64 0, .slice A1 0 c1, .slice A2 0 c2], .int .i64 er]) ∧ Below W.heap.size W w') :
    Calls Tryd.prog 98 #[.slice (some ⟨B, o, none⟩) (0 + 1 + 1 + 1) (0 + 1 + 1 + 1), .int .i64 d] w fun e w' => e = .returned (.tuple #[.agg #[.int .i64 0, .slice none 0 0, .slice none 0 0], .slice none 0 0, .int .i64 er]) ∧ Below w.heap.size w w' := by
  have hlt := World.block_lt_of_cell? w _ g0
  have hd1 : decide (8 < (d : Int)) = false := decide_eq_false (by omega)
  have hx3 : (decide (8 < (d : Int)) || ((x : Int) == 0)) = false := by rw [hd1, hx0]; rfl
  have hx4 : ((x : Int) % 32 != 31) = false := by rw [hx1]; rfl
  have hval := fun W => pvalid_any (t : Int) W
  rw [hv] at hval
  have HVAL := Lib.hid hval
  clear hval hv
  have HWV := Lib.hid HW0
  clear HW0
  obtain rfl : z = 0 := by omega
  go_enter Tryd.func98, Tryd.ntmps98
  go_wp2_with fail
  refine wp_scope_fwd 4 ?_
  intro C hC
  have HC := Lib.hid hC
  clear hC
  go_wp2_with fail
  go_region
  go_wp2_with fail
  go_region
  go_wp2_with (go_at_call 107; refine (HVAL.out _).mono ?_; rintro e w' ⟨rfl, rfl⟩)
  go_step3
  go_wp2_with fail
  go_region
  go_wp2_with fail
  go_step3
  refine Exit.fwd_goto (by rw [HC.out]; rfl) ?_
  go_wp2_with fail
  obtain ⟨w3, hw3⟩ : ∃ w3, w3 = ((w.alloc (Obj.cells #[Value.int IntKind.i64 0, Value.slice none 0 0, Value.slice none 0 0] 70)).alloc (Obj.cells #[Value.int IntKind.i64 t, Value.slice none 0 0, Value.slice none 0 0] 70)).drew.drew.drew := ⟨_, rfl⟩
  try rw [← hw3]
  have e0 : w.heap.size < w3.heap.size := by rw [hw3]; show w.heap.size < ((w.alloc _).alloc _).heap.size; rw [alloc_size, alloc_size]; omega
  have e1 : w.heap.size + 1 < w3.heap.size := by rw [hw3]; show w.heap.size + 1 < ((w.alloc _).alloc _).heap.size; rw [alloc_size, alloc_size]; omega
  have hrow : w3.heap[w.heap.size]? = some (.cells #[.int .i64 0, .slice none 0 0, .slice none 0 0] 70 (0, 0)) := by rw [hw3]; exact heap_alloc2_old w _ _
  have hrow1 : w3.heap[w.heap.size + 1]? = some (.cells #[.int .i64 t, .slice none 0 0, .slice none 0 0] 70 (0, 0)) := by rw [hw3]; exact heap2_new w _ _
  have hbel : Below w.heap.size w w3 := by rw [hw3]; exact (alloc2_below w _ _).drew.drew.drew
  clear hw3
  have q0 : w3.cell? ⟨w.heap.size + 1, 0, none⟩ = some (.int .i64 t) := cell_of_row _ _ 0 _ _ _ hrow1
  have HROW := Lib.hid hrow
  have HROW1 := Lib.hid hrow1
  clear hrow hrow1
  go_region_with (go_at_call 113; (refine (HWV.out _ _ _ (by first | exact hbel | exact hbel.drew) (fun h => absurd h (by omega)) (by omega) (by omega)).mono ?_); rintro e w4 ⟨A1, c1, A2, c2, rfl, hb4⟩; have hr1 : w4.heap[w.heap.size + 1]? = some (.cells #[.int .i64 t, .slice none 0 0, .slice none 0 0] 70 (0, 0)) := (hb4.block _ e1).trans HROW1.out; have hr0 : w4.heap[w.heap.size]? = some (.cells #[.int .i64 0, .slice none 0 0, .slice none 0 0] 70 (0, 0)) := (hb4.block _ e0).trans HROW.out; have p0 : w4.cell? ⟨w.heap.size + 1, 0, none⟩ = some (.int .i64 t) := cell_of_row _ _ 0 _ _ _ hr1; have p1 : w4.cell? ⟨w.heap.size + 1, 1, none⟩ = some (.slice none 0 0) := cell_of_row _ _ 1 _ _ _ hr1; have p2 : w4.cell? ⟨w.heap.size + 1, 2, none⟩ = some (.slice none 0 0) := cell_of_row _ _ 2 _ _ _ hr1; have f0 := frozen_of_row _ _ 0 _ _ hr1; have f1 := frozen_of_row _ _ 1 _ _ hr1; have f2 := frozen_of_row _ _ 2 _ _ hr1; have z0 : w4.cell? ⟨w.heap.size, 0, none⟩ = some (.int .i64 0) := cell_of_row _ _ 0 _ _ _ hr0; have z1 : w4.cell? ⟨w.heap.size, 1, none⟩ = some (.slice none 0 0) := cell_of_row _ _ 1 _ _ _ hr0; have z2 : w4.cell? ⟨w.heap.size, 2, none⟩ = some (.slice none 0 0) := cell_of_row _ _ 2 _ _ _ hr0; have y0 := frozen_of_row _ _ 0 _ _ hr0; have y1 := frozen_of_row _ _ 1 _ _ hr0; have y2 := frozen_of_row _ _ 2 _ _ hr0; have HR1 := Lib.hid hr1; have HR0 := Lib.hid hr0; clear hr1 hr0)
  all_goals
    go_wp2_with fail
    try rw [Exit.fwd_ret]
    exact bodyPost_ret (results_cell3 rfl _ _ w.heap.size 70 #[.int .i64 0, .slice none 0 0, .slice none 0 0] (0, 0) _ rfl (row3_set _ _ _ _ _ _ _ _ _ ((set3_other w4 (w.heap.size + 1) w.heap.size _ _ _ (by omega)).trans HR0.out)) Tryd.underlying70 rfl (by kernel_rfl)) rfl ⟨rfl, set3_below (set3_below (hbel.drew.trans (hb4.mono (Nat.le_of_lt e0))) _ (Nat.le_succ _) _ _ _) _ (Nat.le_refl _) _ _ _⟩

set_option maxRecDepth 100000 in
set_option maxHeartbeats 6400000 in
theorem roB_L1Ve_p (B o x y t z m q d : Nat) (er : Int) (w : World) (hd : d ≤ 8) (g0 : w.cell? ⟨B, o, none⟩ = some (.int .u8 (x : Int))) (hx : x < 256) (hx0 : ((x : Int) == 0) = false) (ha : bits .and .i64 (x : Int) 31 = (x : Int) % 32) (hx1 : (x : Int) % 32 = 31) (g1 : w.cell? ⟨B, o + 1, none⟩ = some (.int .u8 (y : Int))) (hy : y < 256) (ht : bits .or .i64 ((x : Int) * 256) (y : Int) = (t : Int)) (hv : validB (t : Int) = true) (gz : w.cell? ⟨B, o + 1 + 1, none⟩ = some (.int .u8 (z : Int))) (hz : z < 256) (hL : m ≤ q) (hc2 : q + 1 + 1 + 1 ≤ 9223372036854775807) (hq0 : ¬ q = 0) (hz1 : (z : Int) < 128) (hnm : ¬ (m : Int) < (z : Int)) (hnle : z ≤ m) (her : (er == 0) = false) (HW0 : ∀ A c W, Below w.heap.size w W → (0 < z → A = some ⟨B, o + 3, none⟩) → z ≤ c → c ≤ 9223372036854775807 → Calls Tryd.prog 113 #[.int .i64 t, .slice A z c, .int .i64 d] W fun e w' => ∃ A1 c1 A2 c2, e = .returned (.tuple #[.agg #[.int .i64 0, .slice A1 0 c1, .slice A2 0 c2], .int .i64 er]) ∧ Below W.heap.size W w') :
    Calls Tryd.prog 98 #[.slice (some ⟨B, o, none⟩) (m + 1 + 1 + 1) (q + 1 + 1 + 1), .int .i64 d] w fun e w' => e = .returned (.tuple #[.agg #[.int .i64 0, .slice none 0 0, .slice none 0 0], .slice none 0 0, .int .i64 er]) ∧ Below w.heap.size w w' := by
  have hlt := World.block_lt_of_cell? w _ g0
  have hd1 : decide (8 < (d : Int)) = false := decide_eq_false (by omega)
  have hx3 : (decide (8 < (d : Int)) || ((x : Int) == 0)) = false := by rw [hd1, hx0]; rfl
  have hx4 : ((x : Int) % 32 != 31) = false := by rw [hx1]; rfl
  have hval := fun W => pvalid_any (t : Int) W
  rw [hv] at hval
  have HVAL := Lib.hid hval
  clear hval hv
  have HWV := Lib.hid HW0
  clear HW0
  have hnq : z ≤ q := by omega
  have hnq2 : (z : Int) ≤ (q : Int) := by omega
  have hn0 : (0 : Int) ≤ (z : Int) := by omega
  have hnm3 : (z : Int) ≤ (m : Int) := by omega
  go_enter Tryd.func98, Tryd.ntmps98
  go_wp2_with fail
  refine wp_scope_fwd 4 ?_
  intro C hC
  have HC := Lib.hid hC
  clear hC
  go_wp2_with fail
  go_region
  go_wp2_with fail
  go_region
  go_wp2_with (go_at_call 107; refine (HVAL.out _).mono ?_; rintro e w' ⟨rfl, rfl⟩)
  go_step3
  go_wp2_with fail
  go_region
  go_wp2_with fail
  go_step3
  refine Exit.fwd_goto (by rw [HC.out]; rfl) ?_
  go_wp2_with fail
  obtain ⟨w3, hw3⟩ : ∃ w3, w3 = ((w.alloc (Obj.cells #[Value.int IntKind.i64 0, Value.slice none 0 0, Value.slice none 0 0] 70)).alloc (Obj.cells #[Value.int IntKind.i64 t, Value.slice none 0 0, Value.slice none 0 0] 70)).drew.drew.drew := ⟨_, rfl⟩
  try rw [← hw3]
  have e0 : w.heap.size < w3.heap.size := by rw [hw3]; show w.heap.size < ((w.alloc _).alloc _).heap.size; rw [alloc_size, alloc_size]; omega
  have e1 : w.heap.size + 1 < w3.heap.size := by rw [hw3]; show w.heap.size + 1 < ((w.alloc _).alloc _).heap.size; rw [alloc_size, alloc_size]; omega
  have hrow : w3.heap[w.heap.size]? = some (.cells #[.int .i64 0, .slice none 0 0, .slice none 0 0] 70 (0, 0)) := by rw [hw3]; exact heap_alloc2_old w _ _
  have hrow1 : w3.heap[w.heap.size + 1]? = some (.cells #[.int .i64 t, .slice none 0 0, .slice none 0 0] 70 (0, 0)) := by rw [hw3]; exact heap2_new w _ _
  have hbel : Below w.heap.size w w3 := by rw [hw3]; exact (alloc2_below w _ _).drew.drew.drew
  clear hw3
  have q0 : w3.cell? ⟨w.heap.size + 1, 0, none⟩ = some (.int .i64 t) := cell_of_row _ _ 0 _ _ _ hrow1
  have HROW := Lib.hid hrow
  have HROW1 := Lib.hid hrow1
  clear hrow hrow1
  go_region_with (go_at_call 113; (refine (HWV.out _ _ _ (by first | exact hbel | exact hbel.drew) (fun _ => rfl) (by omega) (by omega)).mono ?_); rintro e w4 ⟨A1, c1, A2, c2, rfl, hb4⟩; have hr1 : w4.heap[w.heap.size + 1]? = some (.cells #[.int .i64 t, .slice none 0 0, .slice none 0 0] 70 (0, 0)) := (hb4.block _ e1).trans HROW1.out; have hr0 : w4.heap[w.heap.size]? = some (.cells #[.int .i64 0, .slice none 0 0, .slice none 0 0] 70 (0, 0)) := (hb4.block _ e0).trans HROW.out; have p0 : w4.cell? ⟨w.heap.size + 1, 0, none⟩ = some (.int .i64 t) := cell_of_row _ _ 0 _ _ _ hr1; have p1 : w4.cell? ⟨w.heap.size + 1, 1, none⟩ = some (.slice none 0 0) := cell_of_row _ _ 1 _ _ _ hr1; have p2 : w4.cell? ⟨w.heap.size + 1, 2, none⟩ = some (.slice none 0 0) := cell_of_row _ _ 2 _ _ _ hr1; have f0 := frozen_of_row _ _ 0 _ _ hr1; have f1 := frozen_of_row _ _ 1 _ _ hr1; have f2 := frozen_of_row _ _ 2 _ _ hr1; have z0 : w4.cell? ⟨w.heap.size, 0, none⟩ = some (.int .i64 0) := cell_of_row _ _ 0 _ _ _ hr0; have z1 : w4.cell? ⟨w.heap.size, 1, none⟩ = some (.slice none 0 0) := cell_of_row _ _ 1 _ _ _ hr0; have z2 : w4.cell? ⟨w.heap.size, 2, none⟩ = some (.slice none 0 0) := cell_of_row _ _ 2 _ _ _ hr0; have y0 := frozen_of_row _ _ 0 _ _ hr0; have y1 := frozen_of_row _ _ 1 _ _ hr0; have y2 := frozen_of_row _ _ 2 _ _ hr0; have HR1 := Lib.hid hr1; have HR0 := Lib.hid hr0; clear hr1 hr0)
  all_goals
    go_wp2_with fail
    try rw [Exit.fwd_ret]
    exact bodyPost_ret (results_cell3 rfl _ _ w.heap.size 70 #[.int .i64 0, .slice none 0 0, .slice none 0 0] (0, 0) _ rfl (row3_set _ _ _ _ _ _ _ _ _ ((set3_other w4 (w.heap.size + 1) w.heap.size _ _ _ (by omega)).trans HR0.out)) Tryd.underlying70 rfl (by kernel_rfl)) rfl ⟨rfl, set3_below (set3_below (hbel.drew.trans (hb4.mono (Nat.le_of_lt e0))) _ (Nat.le_succ _) _ _ _) _ (Nat.le_refl _) _ _ _⟩

set_option maxRecDepth 100000 in
set_option maxHeartbeats 6400000 in
theorem roB_L1Vo_z (B o x y t z d : Nat) (r : T) (w : World) (hd : d ≤ 8) (g0 : w.cell? ⟨B, o, none⟩ = some (.int .u8 (x : Int))) (hx : x < 256) (hx0 : ((x : Int) == 0) = false) (ha : bits .and .i64 (x : Int) 31 = (x : Int) % 32) (hx1 : (x : Int) % 32 = 31) (g1 : w.cell? ⟨B, o + 1, none⟩ = some (.int .u8 (y : Int))) (hy : y < 256) (ht : bits .or .i64 ((x : Int) * 256) (y : Int) = (t : Int)) (hv : validB (t : Int) = true) (gz : w.cell? ⟨B, o + 1 + 1, none⟩ = some (.int .u8 (z : Int))) (hz : z < 256) (hz1 : (z : Int) < 128) (hnm : ¬ (0 : Int) < (z : Int)) (hnle : z ≤ 0) (HW0 : ∀ A c W, Below w.heap.size w W → (0 < z → A = some ⟨B, o + 3, none⟩) → z ≤ c → c ≤ 9223372036854775807 → Calls Tryd.prog 113 #[.int .i64 t, .slice A z c, .int .i64 d] W fun e w' => ∃ A1 c1 A2 c2, e = .returned (.tuple #[.agg #[.int .i64 r.tag, .slice A1 r.val.length c1, .slice A2 r.kids.length c2], .int .i64 0]) ∧ VI w' (From w' W.heap.size) (.slice A1 r.val.length c1) r.val ∧ KI w' (From w' W.heap.size) (.slice A2 r.kids.length c2) r.kids ∧ Below W.heap.size W w') :
    Calls Tryd.prog 98 #[.slice (some ⟨B, o, none⟩) (0 + 1 + 1 + 1) (0 + 1 + 1 + 1), .int .i64 d] w fun e w' => RoP w B r (o + 3 + z) (0) e w' := by
  have hlt := World.block_lt_of_cell? w _ g0
  have hd1 : decide (8 < (d : Int)) = false := decide_eq_false (by omega)
  have hx3 : (decide (8 < (d : Int)) || ((x : Int) == 0)) = false := by rw [hd1, hx0]; rfl
  have hx4 : ((x : Int) % 32 != 31) = false := by rw [hx1]; rfl
  have hval := fun W => pvalid_any (t : Int) W
  rw [hv] at hval
  have HVAL := Lib.hid hval
  clear hval hv
  have HWV := Lib.hid HW0
  clear HW0
  obtain rfl : z = 0 := by omega
  go_enter Tryd.func98, Tryd.ntmps98
  go_wp2_with fail
  refine wp_scope_fwd 4 ?_
  intro C hC
  have HC := Lib.hid hC
  clear hC
  go_wp2_with fail
  go_region
  go_wp2_with fail
  go_region
  go_wp2_with (go_at_call 107; refine (HVAL.out _).mono ?_; rintro e w' ⟨rfl, rfl⟩)
  go_step3
  go_wp2_with fail
  go_region
  go_wp2_with fail
  go_step3
  refine Exit.fwd_goto (by rw [HC.out]; rfl) ?_
  go_wp2_with fail
  obtain ⟨w3, hw3⟩ : ∃ w3, w3 = ((w.alloc (Obj.cells #[Value.int IntKind.i64 0, Value.slice none 0 0, Value.slice none 0 0] 70)).alloc (Obj.cells #[Value.int IntKind.i64 t, Value.slice none 0 0, Value.slice none 0 0] 70)).drew.drew.drew := ⟨_, rfl⟩
  try rw [← hw3]
  have e0 : w.heap.size < w3.heap.size := by rw [hw3]; show w.heap.size < ((w.alloc _).alloc _).heap.size; rw [alloc_size, alloc_size]; omega
  have e1 : w.heap.size + 1 < w3.heap.size := by rw [hw3]; show w.heap.size + 1 < ((w.alloc _).alloc _).heap.size; rw [alloc_size, alloc_size]; omega
  have hrow : w3.heap[w.heap.size]? = some (.cells #[.int .i64 0, .slice none 0 0, .slice none 0 0] 70 (0, 0)) := by rw [hw3]; exact heap_alloc2_old w _ _
  have hrow1 : w3.heap[w.heap.size + 1]? = some (.cells #[.int .i64 t, .slice none 0 0, .slice none 0 0] 70 (0, 0)) := by rw [hw3]; exact heap2_new w _ _
  have hbel : Below w.heap.size w w3 := by rw [hw3]; exact (alloc2_below w _ _).drew.drew.drew
  clear hw3
  have q0 : w3.cell? ⟨w.heap.size + 1, 0, none⟩ = some (.int .i64 t) := cell_of_row _ _ 0 _ _ _ hrow1
  have HROW := Lib.hid hrow
  have HROW1 := Lib.hid hrow1
  clear hrow hrow1
  go_region_with (go_at_call 113; (refine (HWV.out _ _ _ (by first | exact hbel | exact hbel.drew) (fun h => absurd h (by omega)) (by omega) (by omega)).mono ?_); rintro e w4 ⟨A1, c1, A2, c2, rfl, hv4, hk4, hb4⟩; have hr1 : w4.heap[w.heap.size + 1]? = some (.cells #[.int .i64 t, .slice none 0 0, .slice none 0 0] 70 (0, 0)) := (hb4.block _ e1).trans HROW1.out; have hr0 : w4.heap[w.heap.size]? = some (.cells #[.int .i64 0, .slice none 0 0, .slice none 0 0] 70 (0, 0)) := (hb4.block _ e0).trans HROW.out; have p0 : w4.cell? ⟨w.heap.size + 1, 0, none⟩ = some (.int .i64 t) := cell_of_row _ _ 0 _ _ _ hr1; have p1 : w4.cell? ⟨w.heap.size + 1, 1, none⟩ = some (.slice none 0 0) := cell_of_row _ _ 1 _ _ _ hr1; have p2 : w4.cell? ⟨w.heap.size + 1, 2, none⟩ = some (.slice none 0 0) := cell_of_row _ _ 2 _ _ _ hr1; have f0 := frozen_of_row _ _ 0 _ _ hr1; have f1 := frozen_of_row _ _ 1 _ _ hr1; have f2 := frozen_of_row _ _ 2 _ _ hr1; have HR1 := Lib.hid hr1; have HR0 := Lib.hid hr0; clear hr1 hr0)
  all_goals
    go_wp2_with fail
    obtain ⟨w5, hw5⟩ : ∃ w5, w5 = ((w4.setCell ⟨w.heap.size + 1, 0, none⟩ (.int .i64 r.tag)).setCell ⟨w.heap.size + 1, 1, none⟩ (.slice A1 r.val.length c1)).setCell ⟨w.heap.size + 1, 2, none⟩ (.slice A2 r.kids.length c2) := ⟨_, rfl⟩
    rw [← hw5]
    have i1 : w5.heap[w.heap.size + 1]? = some (.cells #[.int .i64 r.tag, .slice A1 r.val.length c1, .slice A2 r.kids.length c2] 70 (0, 0)) := by rw [hw5]; exact row3_set _ _ _ _ _ _ _ _ _ HR1.out
    have i0 : w5.heap[w.heap.size]? = some (.cells #[.int .i64 0, .slice none 0 0, .slice none 0 0] 70 (0, 0)) := by rw [hw5, set3_other _ _ _ _ _ _ (by omega)]; exact HR0.out
    have HW5 := Lib.hid hw5
    have l0 := cell_of_row _ _ 0 _ _ _ i1
    have l1 := cell_of_row _ _ 1 _ _ _ i1
    have l2 := cell_of_row _ _ 2 _ _ _ i1
    have z0 := cell_of_row _ _ 0 _ _ _ i0
    have z1 := cell_of_row _ _ 1 _ _ _ i0
    have z2 := cell_of_row _ _ 2 _ _ _ i0
    have y0 := frozen_of_row _ _ 0 _ _ i0
    have y1 := frozen_of_row _ _ 1 _ _ i0
    have y2 := frozen_of_row _ _ 2 _ _ i0
    have I0 := Lib.hid i0
    clear hw5 p0 p1 p2 f0 f1 f2 i0 i1
    go_region
    all_goals go_wp2_with fail
    all_goals
      obtain ⟨E1, E2, E3⟩ := ro_keep w w3 w4 hbel e1 hb4 _ _ _ _ hv4 hk4 _ _ _ (.int .i64 r.tag) (.slice A1 r.val.length c1) (.slice A2 r.kids.length c2) w5 HW5.out _ rfl
      exact bodyPost_ret (results_cell3 rfl _ _ w.heap.size 70 #[.int .i64 r.tag, .slice A1 r.val.length c1, .slice A2 r.kids.length c2] (0, 0) _ rfl (row3_set _ _ _ _ _ _ _ _ _ I0.out) Tryd.underlying70 rfl (by kernel_rfl)) rfl ⟨E3, _, _, _, _, rfl, E1, E2, (by omega), (by omega), fun h => by first | rfl | (exfalso; omega)⟩

set_option maxRecDepth 100000 in
set_option maxHeartbeats 6400000 in
theorem roB_L1Vo_p (B o x y t z m q d : Nat) (r : T) (w : World) (hd : d ≤ 8) (g0 : w.cell? ⟨B, o, none⟩ = some (.int .u8 (x : Int))) (hx : x < 256) (hx0 : ((x : Int) == 0) = false) (ha : bits .and .i64 (x : Int) 31 = (x : Int) % 32) (hx1 : (x : Int) % 32 = 31) (g1 : w.cell? ⟨B, o + 1, none⟩ = some (.int .u8 (y : Int))) (hy : y < 256) (ht : bits .or .i64 ((x : Int) * 256) (y : Int) = (t : Int)) (hv : validB (t : Int) = true) (gz : w.cell? ⟨B, o + 1 + 1, none⟩ = some (.int .u8 (z : Int))) (hz : z < 256) (hL : m ≤ q) (hc2 : q + 1 + 1 + 1 ≤ 9223372036854775807) (hq0 : ¬ q = 0) (hz1 : (z : Int) < 128) (hnm : ¬ (m : Int) < (z : Int)) (hnle : z ≤ m) (HW0 : ∀ A c W, Below w.heap.size w W → (0 < z → A = some ⟨B, o + 3, none⟩) → z ≤ c → c ≤ 9223372036854775807 → Calls Tryd.prog 113 #[.int .i64 t, .slice A z c, .int .i64 d] W fun e w' => ∃ A1 c1 A2 c2, e = .returned (.tuple #[.agg #[.int .i64 r.tag, .slice A1 r.val.length c1, .slice A2 r.kids.length c2], .int .i64 0]) ∧ VI w' (From w' W.heap.size) (.slice A1 r.val.length c1) r.val ∧ KI w' (From w' W.heap.size) (.slice A2 r.kids.length c2) r.kids ∧ Below W.heap.size W w') :
    Calls Tryd.prog 98 #[.slice (some ⟨B, o, none⟩) (m + 1 + 1 + 1) (q + 1 + 1 + 1), .int .i64 d] w fun e w' => RoP w B r (o + 3 + z) (m - z) e w' := by
  have hlt := World.block_lt_of_cell? w _ g0
  have hd1 : decide (8 < (d : Int)) = false := decide_eq_false (by omega)
  have hx3 : (decide (8 < (d : Int)) || ((x : Int) == 0)) = false := by rw [hd1, hx0]; rfl
  have hx4 : ((x : Int) % 32 != 31) = false := by rw [hx1]; rfl
  have hval := fun W => pvalid_any (t : Int) W
  rw [hv] at hval
  have HVAL := Lib.hid hval
  clear hval hv
  have HWV := Lib.hid HW0
  clear HW0
  have hnq : z ≤ q := by omega
  have hnq2 : (z : Int) ≤ (q : Int) := by omega
  have hn0 : (0 : Int) ≤ (z : Int) := by omega
  have hnm3 : (z : Int) ≤ (m : Int) := by omega
  go_enter Tryd.func98, Tryd.ntmps98
  go_wp2_with fail
  refine wp_scope_fwd 4 ?_
  intro C hC
  have HC := Lib.hid hC
  clear hC
  go_wp2_with fail
  go_region
  go_wp2_with fail
  go_region
  go_wp2_with (go_at_call 107; refine (HVAL.out _).mono ?_; rintro e w' ⟨rfl, rfl⟩)
  go_step3
  go_wp2_with fail
  go_region
  go_wp2_with fail
  go_step3
  refine Exit.fwd_goto (by rw [HC.out]; rfl) ?_
  go_wp2_with fail
  obtain ⟨w3, hw3⟩ : ∃ w3, w3 = ((w.alloc (Obj.cells #[Value.int IntKind.i64 0, Value.slice none 0 0, Value.slice none 0 0] 70)).alloc (Obj.cells #[Value.int IntKind.i64 t, Value.slice none 0 0, Value.slice none 0 0] 70)).drew.drew.drew := ⟨_, rfl⟩
  try rw [← hw3]
  have e0 : w.heap.size < w3.heap.size := by rw [hw3]; show w.heap.size < ((w.alloc _).alloc _).heap.size; rw [alloc_size, alloc_size]; omega
  have e1 : w.heap.size + 1 < w3.heap.size := by rw [hw3]; show w.heap.size + 1 < ((w.alloc _).alloc _).heap.size; rw [alloc_size, alloc_size]; omega
  have hrow : w3.heap[w.heap.size]? = some (.cells #[.int .i64 0, .slice none 0 0, .slice none 0 0] 70 (0, 0)) := by rw [hw3]; exact heap_alloc2_old w _ _
  have hrow1 : w3.heap[w.heap.size + 1]? = some (.cells #[.int .i64 t, .slice none 0 0, .slice none 0 0] 70 (0, 0)) := by rw [hw3]; exact heap2_new w _ _
  have hbel : Below w.heap.size w w3 := by rw [hw3]; exact (alloc2_below w _ _).drew.drew.drew
  clear hw3
  have q0 : w3.cell? ⟨w.heap.size + 1, 0, none⟩ = some (.int .i64 t) := cell_of_row _ _ 0 _ _ _ hrow1
  have HROW := Lib.hid hrow
  have HROW1 := Lib.hid hrow1
  clear hrow hrow1
  go_region_with (go_at_call 113; (refine (HWV.out _ _ _ (by first | exact hbel | exact hbel.drew) (fun _ => rfl) (by omega) (by omega)).mono ?_); rintro e w4 ⟨A1, c1, A2, c2, rfl, hv4, hk4, hb4⟩; have hr1 : w4.heap[w.heap.size + 1]? = some (.cells #[.int .i64 t, .slice none 0 0, .slice none 0 0] 70 (0, 0)) := (hb4.block _ e1).trans HROW1.out; have hr0 : w4.heap[w.heap.size]? = some (.cells #[.int .i64 0, .slice none 0 0, .slice none 0 0] 70 (0, 0)) := (hb4.block _ e0).trans HROW.out; have p0 : w4.cell? ⟨w.heap.size + 1, 0, none⟩ = some (.int .i64 t) := cell_of_row _ _ 0 _ _ _ hr1; have p1 : w4.cell? ⟨w.heap.size + 1, 1, none⟩ = some (.slice none 0 0) := cell_of_row _ _ 1 _ _ _ hr1; have p2 : w4.cell? ⟨w.heap.size + 1, 2, none⟩ = some (.slice none 0 0) := cell_of_row _ _ 2 _ _ _ hr1; have f0 := frozen_of_row _ _ 0 _ _ hr1; have f1 := frozen_of_row _ _ 1 _ _ hr1; have f2 := frozen_of_row _ _ 2 _ _ hr1; have HR1 := Lib.hid hr1; have HR0 := Lib.hid hr0; clear hr1 hr0)
  all_goals
    go_wp2_with fail
    obtain ⟨w5, hw5⟩ : ∃ w5, w5 = ((w4.setCell ⟨w.heap.size + 1, 0, none⟩ (.int .i64 r.tag)).setCell ⟨w.heap.size + 1, 1, none⟩ (.slice A1 r.val.length c1)).setCell ⟨w.heap.size + 1, 2, none⟩ (.slice A2 r.kids.length c2) := ⟨_, rfl⟩
    rw [← hw5]
    have i1 : w5.heap[w.heap.size + 1]? = some (.cells #[.int .i64 r.tag, .slice A1 r.val.length c1, .slice A2 r.kids.length c2] 70 (0, 0)) := by rw [hw5]; exact row3_set _ _ _ _ _ _ _ _ _ HR1.out
    have i0 : w5.heap[w.heap.size]? = some (.cells #[.int .i64 0, .slice none 0 0, .slice none 0 0] 70 (0, 0)) := by rw [hw5, set3_other _ _ _ _ _ _ (by omega)]; exact HR0.out
    have HW5 := Lib.hid hw5
    have l0 := cell_of_row _ _ 0 _ _ _ i1
    have l1 := cell_of_row _ _ 1 _ _ _ i1
    have l2 := cell_of_row _ _ 2 _ _ _ i1
    have z0 := cell_of_row _ _ 0 _ _ _ i0
    have z1 := cell_of_row _ _ 1 _ _ _ i0
    have z2 := cell_of_row _ _ 2 _ _ _ i0
    have y0 := frozen_of_row _ _ 0 _ _ i0
    have y1 := frozen_of_row _ _ 1 _ _ i0
    have y2 := frozen_of_row _ _ 2 _ _ i0
    have I0 := Lib.hid i0
    clear hw5 p0 p1 p2 f0 f1 f2 i0 i1
    go_region
    all_goals go_wp2_with fail
    all_goals
      obtain ⟨E1, E2, E3⟩ := ro_keep w w3 w4 hbel e1 hb4 _ _ _ _ hv4 hk4 _ _ _ (.int .i64 r.tag) (.slice A1 r.val.length c1) (.slice A2 r.kids.length c2) w5 HW5.out _ rfl
      exact bodyPost_ret (results_cell3 rfl _ _ w.heap.size 70 #[.int .i64 r.tag, .slice A1 r.val.length c1, .slice A2 r.kids.length c2] (0, 0) _ rfl (row3_set _ _ _ _ _ _ _ _ _ I0.out) Tryd.underlying70 rfl (by kernel_rfl)) rfl ⟨E3, _, _, _, _, rfl, E1, E2, (by omega), (by omega), fun h => by first | rfl | (exfalso; omega)⟩



set_option maxRecDepth 100000 in
set_option maxHeartbeats 6400000 in
theorem roB_bad_z (B o x y t z d : Nat) (w : World) (hd : d ≤ 8) (g0 : w.cell? ⟨B, o, none⟩ = some (.int .u8 (x : Int))) (hx : x < 256) (hx0 : ((x : Int) == 0) = false) (ha : bits .and .i64 (x : Int) 31 = (x : Int) % 32) (hx1 : (x : Int) % 32 = 31) (g1 : w.cell? ⟨B, o + 1, none⟩ = some (.int .u8 (y : Int))) (hy : y < 256) (ht : bits .or .i64 ((x : Int) * 256) (y : Int) = (t : Int)) (hv : validB (t : Int) = true) (gz : w.cell? ⟨B, o + 1 + 1, none⟩ = some (.int .u8 (z : Int))) (hz : z < 256) (hz1 : ¬ (z : Int) < 128) (hz2 : (z : Int) - 128 < 1 ∨ (1 ≤ (z : Int) - 128 ∧ 2 < (z : Int) - 128)) :
    Calls Tryd.prog 98 #[.slice (some ⟨B, o, none⟩) (0 + 1 + 1 + 1) (0 + 1 + 1 + 1), .int .i64 d] w fun e w' => e = .returned (.tuple #[.agg #[.int .i64 0, .slice none 0 0, .slice none 0 0], .slice none 0 0, .int .i64 4]) ∧ Below w.heap.size w w' := by
  have hlt := World.block_lt_of_cell? w _ g0
  have hd1 : decide (8 < (d : Int)) = false := decide_eq_false (by omega)
  have hx3 : (decide (8 < (d : Int)) || ((x : Int) == 0)) = false := by rw [hd1, hx0]; rfl
  have hx4 : ((x : Int) % 32 != 31) = false := by rw [hx1]; rfl
  have hval := fun W => pvalid_any (t : Int) W
  rw [hv] at hval
  have HVAL := Lib.hid hval
  clear hval hv
  go_enter Tryd.func98, Tryd.ntmps98
  go_wp2_with fail
  refine wp_scope_fwd 4 ?_
  intro C hC
  have HC := Lib.hid hC
  clear hC
  go_wp2_with fail
  go_region
  go_wp2_with fail
  go_region
  go_wp2_with (go_at_call 107; refine (HVAL.out _).mono ?_; rintro e w' ⟨rfl, rfl⟩)
  go_step3
  go_wp2_with fail
  go_region
  go_wp2_with fail
  all_goals (go_step3; refine Exit.fwd_goto (by rw [HC.out]; rfl) ?_; go_wp2_with fail; exact bodyPost_ret (results_cell3 rfl _ _ w.heap.size 70 #[.int .i64 0, .slice none 0 0, .slice none 0 0] (0, 0) _ rfl (heap_alloc2_old _ _ _) Tryd.underlying70 rfl (by kernel_rfl)) rfl ⟨rfl, (alloc2_below _ _ _).drew.drew.drew⟩)

set_option maxRecDepth 100000 in
set_option maxHeartbeats 6400000 in
theorem roB_bad_p (B o x y t z m q d : Nat) (w : World) (hd : d ≤ 8) (g0 : w.cell? ⟨B, o, none⟩ = some (.int .u8 (x : Int))) (hx : x < 256) (hx0 : ((x : Int) == 0) = false) (ha : bits .and .i64 (x : Int) 31 = (x : Int) % 32) (hx1 : (x : Int) % 32 = 31) (g1 : w.cell? ⟨B, o + 1, none⟩ = some (.int .u8 (y : Int))) (hy : y < 256) (ht : bits .or .i64 ((x : Int) * 256) (y : Int) = (t : Int)) (hv : validB (t : Int) = true) (gz : w.cell? ⟨B, o + 1 + 1, none⟩ = some (.int .u8 (z : Int))) (hz : z < 256) (hL : m ≤ q) (hc2 : q + 1 + 1 + 1 ≤ 9223372036854775807) (hq0 : ¬ q = 0) (hz1 : ¬ (z : Int) < 128) (hz2 : (z : Int) - 128 < 1 ∨ (1 ≤ (z : Int) - 128 ∧ 2 < (z : Int) - 128)) :
    Calls Tryd.prog 98 #[.slice (some ⟨B, o, none⟩) (m + 1 + 1 + 1) (q + 1 + 1 + 1), .int .i64 d] w fun e w' => e = .returned (.tuple #[.agg #[.int .i64 0, .slice none 0 0, .slice none 0 0], .slice none 0 0, .int .i64 4]) ∧ Below w.heap.size w w' := by
  have hlt := World.block_lt_of_cell? w _ g0
  have hd1 : decide (8 < (d : Int)) = false := decide_eq_false (by omega)
  have hx3 : (decide (8 < (d : Int)) || ((x : Int) == 0)) = false := by rw [hd1, hx0]; rfl
  have hx4 : ((x : Int) % 32 != 31) = false := by rw [hx1]; rfl
  have hval := fun W => pvalid_any (t : Int) W
  rw [hv] at hval
  have HVAL := Lib.hid hval
  clear hval hv
  go_enter Tryd.func98, Tryd.ntmps98
  go_wp2_with fail
  refine wp_scope_fwd 4 ?_
  intro C hC
  have HC := Lib.hid hC
  clear hC
  go_wp2_with fail
  go_region
  go_wp2_with fail
  go_region
  go_wp2_with (go_at_call 107; refine (HVAL.out _).mono ?_; rintro e w' ⟨rfl, rfl⟩)
  go_step3
  go_wp2_with fail
  go_region
  go_wp2_with fail
  all_goals (go_step3; refine Exit.fwd_goto (by rw [HC.out]; rfl) ?_; go_wp2_with fail; exact bodyPost_ret (results_cell3 rfl _ _ w.heap.size 70 #[.int .i64 0, .slice none 0 0, .slice none 0 0] (0, 0) _ rfl (heap_alloc2_old _ _ _) Tryd.underlying70 rfl (by kernel_rfl)) rfl ⟨rfl, (alloc2_below _ _ _).drew.drew.drew⟩)

set_option maxRecDepth 100000 in
set_option maxHeartbeats 6400000 in
theorem roB_short_z (B o x y t z wd d : Nat) (w : World) (hd : d ≤ 8) (g0 : w.cell? ⟨B, o, none⟩ = some (.int .u8 (x : Int))) (hx : x < 256) (hx0 : ((x : Int) == 0) = false) (ha : bits .and .i64 (x : Int) 31 = (x : Int) % 32) (hx1 : (x : Int) % 32 = 31) (g1 : w.cell? ⟨B, o + 1, none⟩ = some (.int .u8 (y : Int))) (hy : y < 256) (ht : bits .or .i64 ((x : Int) * 256) (y : Int) = (t : Int)) (hv : validB (t : Int) = true) (gz : w.cell? ⟨B, o + 1 + 1, none⟩ = some (.int .u8 (z : Int))) (hz : z < 256) (hz1 : ¬ (z : Int) < 128) (hz2 : (z : Int) - 128 = (wd : Int)) (hw1 : ¬ (wd : Int) < 1) (hw2 : ¬ 2 < (wd : Int)) (hLw : (0 : Int) < (wd : Int)) :
    Calls Tryd.prog 98 #[.slice (some ⟨B, o, none⟩) (0 + 1 + 1 + 1) (0 + 1 + 1 + 1), .int .i64 d] w fun e w' => e = .returned (.tuple #[.agg #[.int .i64 0, .slice none 0 0, .slice none 0 0], .slice none 0 0, .int .i64 5]) ∧ Below w.heap.size w w' := by
  have hlt := World.block_lt_of_cell? w _ g0
  have hd1 : decide (8 < (d : Int)) = false := decide_eq_false (by omega)
  have hx3 : (decide (8 < (d : Int)) || ((x : Int) == 0)) = false := by rw [hd1, hx0]; rfl
  have hx4 : ((x : Int) % 32 != 31) = false := by rw [hx1]; rfl
  have hval := fun W => pvalid_any (t : Int) W
  rw [hv] at hval
  have HVAL := Lib.hid hval
  clear hval hv
  go_enter Tryd.func98, Tryd.ntmps98
  go_wp2_with fail
  refine wp_scope_fwd 4 ?_
  intro C hC
  have HC := Lib.hid hC
  clear hC
  go_wp2_with fail
  go_region
  go_wp2_with fail
  go_region
  go_wp2_with (go_at_call 107; refine (HVAL.out _).mono ?_; rintro e w' ⟨rfl, rfl⟩)
  go_step3
  go_wp2_with fail
  go_region
  go_wp2_with fail
  go_step3
  refine Exit.fwd_goto (by rw [HC.out]; rfl) ?_
  go_wp2_with fail
  exact bodyPost_ret (results_cell3 rfl _ _ w.heap.size 70 #[.int .i64 0, .slice none 0 0, .slice none 0 0] (0, 0) _ rfl (heap_alloc2_old _ _ _) Tryd.underlying70 rfl (by kernel_rfl)) rfl ⟨rfl, (alloc2_below _ _ _).drew.drew.drew⟩

set_option maxRecDepth 100000 in
set_option maxHeartbeats 6400000 in
theorem roB_short_p (B o x y t z m q wd d : Nat) (w : World) (hd : d ≤ 8) (g0 : w.cell? ⟨B, o, none⟩ = some (.int .u8 (x : Int))) (hx : x < 256) (hx0 : ((x : Int) == 0) = false) (ha : bits .and .i64 (x : Int) 31 = (x : Int) % 32) (hx1 : (x : Int) % 32 = 31) (g1 : w.cell? ⟨B, o + 1, none⟩ = some (.int .u8 (y : Int))) (hy : y < 256) (ht : bits .or .i64 ((x : Int) * 256) (y : Int) = (t : Int)) (hv : validB (t : Int) = true) (gz : w.cell? ⟨B, o + 1 + 1, none⟩ = some (.int .u8 (z : Int))) (hz : z < 256) (hL : m ≤ q) (hc2 : q + 1 + 1 + 1 ≤ 9223372036854775807) (hq0 : ¬ q = 0) (hz1 : ¬ (z : Int) < 128) (hz2 : (z : Int) - 128 = (wd : Int)) (hw1 : ¬ (wd : Int) < 1) (hw2 : ¬ 2 < (wd : Int)) (hLw : (m : Int) < (wd : Int)) :
    Calls Tryd.prog 98 #[.slice (some ⟨B, o, none⟩) (m + 1 + 1 + 1) (q + 1 + 1 + 1), .int .i64 d] w fun e w' => e = .returned (.tuple #[.agg #[.int .i64 0, .slice none 0 0, .slice none 0 0], .slice none 0 0, .int .i64 5]) ∧ Below w.heap.size w w' := by
  have hlt := World.block_lt_of_cell? w _ g0
  have hd1 : decide (8 < (d : Int)) = false := decide_eq_false (by omega)
  have hx3 : (decide (8 < (d : Int)) || ((x : Int) == 0)) = false := by rw [hd1, hx0]; rfl
  have hx4 : ((x : Int) % 32 != 31) = false := by rw [hx1]; rfl
  have hval := fun W => pvalid_any (t : Int) W
  rw [hv] at hval
  have HVAL := Lib.hid hval
  clear hval hv
  go_enter Tryd.func98, Tryd.ntmps98
  go_wp2_with fail
  refine wp_scope_fwd 4 ?_
  intro C hC
  have HC := Lib.hid hC
  clear hC
  go_wp2_with fail
  go_region
  go_wp2_with fail
  go_region
  go_wp2_with (go_at_call 107; refine (HVAL.out _).mono ?_; rintro e w' ⟨rfl, rfl⟩)
  go_step3
  go_wp2_with fail
  go_region
  go_wp2_with fail
  go_step3
  refine Exit.fwd_goto (by rw [HC.out]; rfl) ?_
  go_wp2_with fail
  exact bodyPost_ret (results_cell3 rfl _ _ w.heap.size 70 #[.int .i64 0, .slice none 0 0, .slice none 0 0] (0, 0) _ rfl (heap_alloc2_old _ _ _) Tryd.underlying70 rfl (by kernel_rfl)) rfl ⟨rfl, (alloc2_below _ _ _).drew.drew.drew⟩



set_option maxRecDepth 100000 in
set_option maxHeartbeats 6400000 in
theorem roB_form_z (B o x y t z wd n F d : Nat) (w : World) (hd : d ≤ 8) (g0 : w.cell? ⟨B, o, none⟩ = some (.int .u8 (x : Int))) (hx : x < 256) (hx0 : ((x : Int) == 0) = false) (ha : bits .and .i64 (x : Int) 31 = (x : Int) % 32) (hx1 : (x : Int) % 32 = 31) (g1 : w.cell? ⟨B, o + 1, none⟩ = some (.int .u8 (y : Int))) (hy : y < 256) (ht : bits .or .i64 ((x : Int) * 256) (y : Int) = (t : Int)) (hv : validB (t : Int) = true) (gz : w.cell? ⟨B, o + 1 + 1, none⟩ = some (.int .u8 (z : Int))) (hz : z < 256) (hz1 : ¬ (z : Int) < 128) (hz2 : (z : Int) - 128 = (wd : Int)) (hw1 : ¬ (wd : Int) < 1) (hw2 : ¬ 2 < (wd : Int)) (hc2 : wd + 1 + 1 + 1 ≤ 9223372036854775807) (HG0 : ∀ W, Below w.heap.size w W → Calls Tryd.prog 112 #[.slice (some ⟨B, o + 3, none⟩) wd wd] W fun e w' => e = .returned (.tuple #[.int .i64 n, .int .i64 0]) ∧ W = w') (hF : ¬ (F : Int) = 1 + (wd : Int)) (HF0 : ∀ W, Calls Tryd.prog 93 #[.int .i64 n] W fun e w' => ∃ A c, e = .returned (.slice A F c) ∧ Below W.heap.size W w') :
    Calls Tryd.prog 98 #[.slice (some ⟨B, o, none⟩) (wd + 1 + 1 + 1) (wd + 1 + 1 + 1), .int .i64 d] w fun e w' => e = .returned (.tuple #[.agg #[.int .i64 0, .slice none 0 0, .slice none 0 0], .slice none 0 0, .int .i64 4]) ∧ Below w.heap.size w w' := by
  have hlt := World.block_lt_of_cell? w _ g0
  have hd1 : decide (8 < (d : Int)) = false := decide_eq_false (by omega)
  have hx3 : (decide (8 < (d : Int)) || ((x : Int) == 0)) = false := by rw [hd1, hx0]; rfl
  have hx4 : ((x : Int) % 32 != 31) = false := by rw [hx1]; rfl
  have hval := fun W => pvalid_any (t : Int) W
  rw [hv] at hval
  have HVAL := Lib.hid hval
  clear hval hv
  have HG := Lib.hid HG0
  have HLF := Lib.hid HF0
  clear HG0 HF0
  have hq0 : ¬ wd = 0 := by omega
  have hF2 : ((F : Int) != 1 + (wd : Int)) = true := by simpa using hF
  go_enter Tryd.func98, Tryd.ntmps98
  go_wp2_with fail
  refine wp_scope_fwd 4 ?_
  intro C hC
  have HC := Lib.hid hC
  clear hC
  go_wp2_with fail
  go_region
  go_wp2_with fail
  go_region
  go_wp2_with (go_at_call 107; refine (HVAL.out _).mono ?_; rintro e w' ⟨rfl, rfl⟩)
  go_step3
  go_wp2_with fail
  go_region
  go_wp2_with fail
  refine (HG.out _ ((alloc2_below _ _ _).drew.drew.drew)).mono ?_
  rintro e W ⟨rfl, rfl⟩
  go_wp2_with fail
  refine (HLF.out _).mono ?_
  rintro e w3 ⟨A3, c3, rfl, hb3⟩
  have e0 : w.heap.size < ((w.alloc (Obj.cells #[Value.int IntKind.i64 0, Value.slice none 0 0, Value.slice none 0 0] 70)).alloc (Obj.cells #[Value.int IntKind.i64 t, Value.slice none 0 0, Value.slice none 0 0] 70)).drew.drew.drew.heap.size := by show w.heap.size < ((w.alloc _).alloc _).heap.size; rw [alloc_size, alloc_size]; omega
  have e1 : w.heap.size + 1 < ((w.alloc (Obj.cells #[Value.int IntKind.i64 0, Value.slice none 0 0, Value.slice none 0 0] 70)).alloc (Obj.cells #[Value.int IntKind.i64 t, Value.slice none 0 0, Value.slice none 0 0] 70)).drew.drew.drew.heap.size := by show w.heap.size + 1 < ((w.alloc _).alloc _).heap.size; rw [alloc_size, alloc_size]; omega
  have hrow : w3.heap[w.heap.size]? = some (.cells #[.int .i64 0, .slice none 0 0, .slice none 0 0] 70 (0, 0)) := (hb3.block _ e0).trans (heap_alloc2_old w _ _)
  have hrow1 : w3.heap[w.heap.size + 1]? = some (.cells #[.int .i64 t, .slice none 0 0, .slice none 0 0] 70 (0, 0)) := (hb3.block _ e1).trans (heap2_new w _ _)
  have hbel : Below w.heap.size w w3 := ((alloc2_below w _ _).drew.drew.drew).trans (hb3.mono (Nat.le_of_lt e0))
  have s3 := hb3.size
  replace e0 := Nat.lt_of_lt_of_le e0 s3
  replace e1 := Nat.lt_of_lt_of_le e1 s3
  clear s3 hb3
  have q0 : w3.cell? ⟨w.heap.size + 1, 0, none⟩ = some (.int .i64 t) := cell_of_row _ _ 0 _ _ _ hrow1
  have z0 : w3.cell? ⟨w.heap.size, 0, none⟩ = some (.int .i64 0) := cell_of_row _ _ 0 _ _ _ hrow
  have z1 : w3.cell? ⟨w.heap.size, 1, none⟩ = some (.slice none 0 0) := cell_of_row _ _ 1 _ _ _ hrow
  have z2 : w3.cell? ⟨w.heap.size, 2, none⟩ = some (.slice none 0 0) := cell_of_row _ _ 2 _ _ _ hrow
  have y0 := frozen_of_row _ _ 0 _ _ hrow
  have y1 := frozen_of_row _ _ 1 _ _ hrow
  have y2 := frozen_of_row _ _ 2 _ _ hrow
  have HROW := Lib.hid hrow
  have HROW1 := Lib.hid hrow1
  clear hrow hrow1
  go_wp2_with fail
  go_step3
  refine Exit.fwd_goto (by rw [HC.out]; rfl) ?_
  go_wp2_with fail
  exact bodyPost_ret (results_cell3 rfl _ _ w.heap.size 70 #[.int .i64 0, .slice none 0 0, .slice none 0 0] (0, 0) _ rfl (row3_set _ _ _ _ _ _ _ _ _ HROW.out) Tryd.underlying70 rfl (by kernel_rfl)) rfl ⟨rfl, set3_below hbel _ (Nat.le_refl _) _ _ _⟩

set_option maxRecDepth 100000 in
set_option maxHeartbeats 6400000 in
theorem roB_form_p (B o x y t z m q wd n F d : Nat) (w : World) (hd : d ≤ 8) (g0 : w.cell? ⟨B, o, none⟩ = some (.int .u8 (x : Int))) (hx : x < 256) (hx0 : ((x : Int) == 0) = false) (ha : bits .and .i64 (x : Int) 31 = (x : Int) % 32) (hx1 : (x : Int) % 32 = 31) (g1 : w.cell? ⟨B, o + 1, none⟩ = some (.int .u8 (y : Int))) (hy : y < 256) (ht : bits .or .i64 ((x : Int) * 256) (y : Int) = (t : Int)) (hv : validB (t : Int) = true) (gz : w.cell? ⟨B, o + 1 + 1, none⟩ = some (.int .u8 (z : Int))) (hz : z < 256) (hL : m ≤ q) (hc2 : q + 1 + 1 + 1 ≤ 9223372036854775807) (hz1 : ¬ (z : Int) < 128) (hz2 : (z : Int) - 128 = (wd : Int)) (hw1 : ¬ (wd : Int) < 1) (hw2 : ¬ 2 < (wd : Int)) (hLw : ¬ (m : Int) < (wd : Int)) (hwm : wd ≤ m) (hqw : ¬ q = wd) (HG0 : ∀ W, Below w.heap.size w W → Calls Tryd.prog 112 #[.slice (some ⟨B, o + 3, none⟩) wd q] W fun e w' => e = .returned (.tuple #[.int .i64 n, .int .i64 0]) ∧ W = w') (hF : ¬ (F : Int) = 1 + (wd : Int)) (HF0 : ∀ W, Calls Tryd.prog 93 #[.int .i64 n] W fun e w' => ∃ A c, e = .returned (.slice A F c) ∧ Below W.heap.size W w') :
    Calls Tryd.prog 98 #[.slice (some ⟨B, o, none⟩) (m + 1 + 1 + 1) (q + 1 + 1 + 1), .int .i64 d] w fun e w' => e = .returned (.tuple #[.agg #[.int .i64 0, .slice none 0 0, .slice none 0 0], .slice none 0 0, .int .i64 4]) ∧ Below w.heap.size w w' := by
  have hlt := World.block_lt_of_cell? w _ g0
  have hd1 : decide (8 < (d : Int)) = false := decide_eq_false (by omega)
  have hx3 : (decide (8 < (d : Int)) || ((x : Int) == 0)) = false := by rw [hd1, hx0]; rfl
  have hx4 : ((x : Int) % 32 != 31) = false := by rw [hx1]; rfl
  have hval := fun W => pvalid_any (t : Int) W
  rw [hv] at hval
  have HVAL := Lib.hid hval
  clear hval hv
  have HG := Lib.hid HG0
  have HLF := Lib.hid HF0
  clear HG0 HF0
  have hq0 : ¬ q = 0 := by omega
  have hF2 : ((F : Int) != 1 + (wd : Int)) = true := by simpa using hF
  go_enter Tryd.func98, Tryd.ntmps98
  go_wp2_with fail
  refine wp_scope_fwd 4 ?_
  intro C hC
  have HC := Lib.hid hC
  clear hC
  go_wp2_with fail
  go_region
  go_wp2_with fail
  go_region
  go_wp2_with (go_at_call 107; refine (HVAL.out _).mono ?_; rintro e w' ⟨rfl, rfl⟩)
  go_step3
  go_wp2_with fail
  go_region
  go_wp2_with fail
  refine (HG.out _ ((alloc2_below _ _ _).drew.drew.drew)).mono ?_
  rintro e W ⟨rfl, rfl⟩
  go_wp2_with fail
  refine (HLF.out _).mono ?_
  rintro e w3 ⟨A3, c3, rfl, hb3⟩
  have e0 : w.heap.size < ((w.alloc (Obj.cells #[Value.int IntKind.i64 0, Value.slice none 0 0, Value.slice none 0 0] 70)).alloc (Obj.cells #[Value.int IntKind.i64 t, Value.slice none 0 0, Value.slice none 0 0] 70)).drew.drew.drew.heap.size := by show w.heap.size < ((w.alloc _).alloc _).heap.size; rw [alloc_size, alloc_size]; omega
  have e1 : w.heap.size + 1 < ((w.alloc (Obj.cells #[Value.int IntKind.i64 0, Value.slice none 0 0, Value.slice none 0 0] 70)).alloc (Obj.cells #[Value.int IntKind.i64 t, Value.slice none 0 0, Value.slice none 0 0] 70)).drew.drew.drew.heap.size := by show w.heap.size + 1 < ((w.alloc _).alloc _).heap.size; rw [alloc_size, alloc_size]; omega
  have hrow : w3.heap[w.heap.size]? = some (.cells #[.int .i64 0, .slice none 0 0, .slice none 0 0] 70 (0, 0)) := (hb3.block _ e0).trans (heap_alloc2_old w _ _)
  have hrow1 : w3.heap[w.heap.size + 1]? = some (.cells #[.int .i64 t, .slice none 0 0, .slice none 0 0] 70 (0, 0)) := (hb3.block _ e1).trans (heap2_new w _ _)
  have hbel : Below w.heap.size w w3 := ((alloc2_below w _ _).drew.drew.drew).trans (hb3.mono (Nat.le_of_lt e0))
  have s3 := hb3.size
  replace e0 := Nat.lt_of_lt_of_le e0 s3
  replace e1 := Nat.lt_of_lt_of_le e1 s3
  clear s3 hb3
  have q0 : w3.cell? ⟨w.heap.size + 1, 0, none⟩ = some (.int .i64 t) := cell_of_row _ _ 0 _ _ _ hrow1
  have z0 : w3.cell? ⟨w.heap.size, 0, none⟩ = some (.int .i64 0) := cell_of_row _ _ 0 _ _ _ hrow
  have z1 : w3.cell? ⟨w.heap.size, 1, none⟩ = some (.slice none 0 0) := cell_of_row _ _ 1 _ _ _ hrow
  have z2 : w3.cell? ⟨w.heap.size, 2, none⟩ = some (.slice none 0 0) := cell_of_row _ _ 2 _ _ _ hrow
  have y0 := frozen_of_row _ _ 0 _ _ hrow
  have y1 := frozen_of_row _ _ 1 _ _ hrow
  have y2 := frozen_of_row _ _ 2 _ _ hrow
  have HROW := Lib.hid hrow
  have HROW1 := Lib.hid hrow1
  clear hrow hrow1
  go_wp2_with fail
  go_step3
  refine Exit.fwd_goto (by rw [HC.out]; rfl) ?_
  go_wp2_with fail
  exact bodyPost_ret (results_cell3 rfl _ _ w.heap.size 70 #[.int .i64 0, .slice none 0 0, .slice none 0 0] (0, 0) _ rfl (row3_set _ _ _ _ _ _ _ _ _ HROW.out) Tryd.underlying70 rfl (by kernel_rfl)) rfl ⟨rfl, set3_below hbel _ (Nat.le_refl _) _ _ _⟩

set_option maxRecDepth 100000 in
set_option maxHeartbeats 6400000 in
theorem roB_wideVs_z (B o x y t z wd n d : Nat) (w : World) (hd : d ≤ 8) (g0 : w.cell? ⟨B, o, none⟩ = some (.int .u8 (x : Int))) (hx : x < 256) (hx0 : ((x : Int) == 0) = false) (ha : bits .and .i64 (x : Int) 31 = (x : Int) % 32) (hx1 : (x : Int) % 32 = 31) (g1 : w.cell? ⟨B, o + 1, none⟩ = some (.int .u8 (y : Int))) (hy : y < 256) (ht : bits .or .i64 ((x : Int) * 256) (y : Int) = (t : Int)) (hv : validB (t : Int) = true) (gz : w.cell? ⟨B, o + 1 + 1, none⟩ = some (.int .u8 (z : Int))) (hz : z < 256) (hz1 : ¬ (z : Int) < 128) (hz2 : (z : Int) - 128 = (wd : Int)) (hw1 : ¬ (wd : Int) < 1) (hw2 : ¬ 2 < (wd : Int)) (hc2 : wd + 1 + 1 + 1 ≤ 9223372036854775807) (HG0 : ∀ W, Below w.heap.size w W → Calls Tryd.prog 112 #[.slice (some ⟨B, o + 3, none⟩) wd wd] W fun e w' => e = .returned (.tuple #[.int .i64 n, .int .i64 0]) ∧ W = w') (HF0 : ∀ W, Calls Tryd.prog 93 #[.int .i64 n] W fun e w' => ∃ A c, e = .returned (.slice A (wd + 1) c) ∧ Below W.heap.size W w') (hnm : (0 : Int) < (n : Int)) :
    Calls Tryd.prog 98 #[.slice (some ⟨B, o, none⟩) (wd + 1 + 1 + 1) (wd + 1 + 1 + 1), .int .i64 d] w fun e w' => e = .returned (.tuple #[.agg #[.int .i64 0, .slice none 0 0, .slice none 0 0], .slice none 0 0, .int .i64 5]) ∧ Below w.heap.size w w' := by
  have hlt := World.block_lt_of_cell? w _ g0
  have hd1 : decide (8 < (d : Int)) = false := decide_eq_false (by omega)
  have hx3 : (decide (8 < (d : Int)) || ((x : Int) == 0)) = false := by rw [hd1, hx0]; rfl
  have hx4 : ((x : Int) % 32 != 31) = false := by rw [hx1]; rfl
  have hval := fun W => pvalid_any (t : Int) W
  rw [hv] at hval
  have HVAL := Lib.hid hval
  clear hval hv
  have HG := Lib.hid HG0
  have HLF := Lib.hid HF0
  clear HG0 HF0
  have hq0 : ¬ wd = 0 := by omega
  go_enter Tryd.func98, Tryd.ntmps98
  go_wp2_with fail
  refine wp_scope_fwd 4 ?_
  intro C hC
  have HC := Lib.hid hC
  clear hC
  go_wp2_with fail
  go_region
  go_wp2_with fail
  go_region
  go_wp2_with (go_at_call 107; refine (HVAL.out _).mono ?_; rintro e w' ⟨rfl, rfl⟩)
  go_step3
  go_wp2_with fail
  go_region
  go_wp2_with fail
  refine (HG.out _ ((alloc2_below _ _ _).drew.drew.drew)).mono ?_
  rintro e W ⟨rfl, rfl⟩
  go_wp2_with fail
  refine (HLF.out _).mono ?_
  rintro e w3 ⟨A3, c3, rfl, hb3⟩
  have e0 : w.heap.size < ((w.alloc (Obj.cells #[Value.int IntKind.i64 0, Value.slice none 0 0, Value.slice none 0 0] 70)).alloc (Obj.cells #[Value.int IntKind.i64 t, Value.slice none 0 0, Value.slice none 0 0] 70)).drew.drew.drew.heap.size := by show w.heap.size < ((w.alloc _).alloc _).heap.size; rw [alloc_size, alloc_size]; omega
  have e1 : w.heap.size + 1 < ((w.alloc (Obj.cells #[Value.int IntKind.i64 0, Value.slice none 0 0, Value.slice none 0 0] 70)).alloc (Obj.cells #[Value.int IntKind.i64 t, Value.slice none 0 0, Value.slice none 0 0] 70)).drew.drew.drew.heap.size := by show w.heap.size + 1 < ((w.alloc _).alloc _).heap.size; rw [alloc_size, alloc_size]; omega
  have hrow : w3.heap[w.heap.size]? = some (.cells #[.int .i64 0, .slice none 0 0, .slice none 0 0] 70 (0, 0)) := (hb3.block _ e0).trans (heap_alloc2_old w _ _)
  have hrow1 : w3.heap[w.heap.size + 1]? = some (.cells #[.int .i64 t, .slice none 0 0, .slice none 0 0] 70 (0, 0)) := (hb3.block _ e1).trans (heap2_new w _ _)
  have hbel : Below w.heap.size w w3 := ((alloc2_below w _ _).drew.drew.drew).trans (hb3.mono (Nat.le_of_lt e0))
  have s3 := hb3.size
  replace e0 := Nat.lt_of_lt_of_le e0 s3
  replace e1 := Nat.lt_of_lt_of_le e1 s3
  clear s3 hb3
  have q0 : w3.cell? ⟨w.heap.size + 1, 0, none⟩ = some (.int .i64 t) := cell_of_row _ _ 0 _ _ _ hrow1
  have z0 : w3.cell? ⟨w.heap.size, 0, none⟩ = some (.int .i64 0) := cell_of_row _ _ 0 _ _ _ hrow
  have z1 : w3.cell? ⟨w.heap.size, 1, none⟩ = some (.slice none 0 0) := cell_of_row _ _ 1 _ _ _ hrow
  have z2 : w3.cell? ⟨w.heap.size, 2, none⟩ = some (.slice none 0 0) := cell_of_row _ _ 2 _ _ _ hrow
  have y0 := frozen_of_row _ _ 0 _ _ hrow
  have y1 := frozen_of_row _ _ 1 _ _ hrow
  have y2 := frozen_of_row _ _ 2 _ _ hrow
  have HROW := Lib.hid hrow
  have HROW1 := Lib.hid hrow1
  clear hrow hrow1
  go_wp2_with fail
  go_step3
  go_wp2_with fail
  go_step3
  refine Exit.fwd_goto (by rw [HC.out]; rfl) ?_
  go_wp2_with fail
  exact bodyPost_ret (results_cell3 rfl _ _ w.heap.size 70 #[.int .i64 0, .slice none 0 0, .slice none 0 0] (0, 0) _ rfl (row3_set _ _ _ _ _ _ _ _ _ HROW.out) Tryd.underlying70 rfl (by kernel_rfl)) rfl ⟨rfl, set3_below hbel _ (Nat.le_refl _) _ _ _⟩

set_option maxRecDepth 100000 in
set_option maxHeartbeats 6400000 in
theorem roB_wideVs_p (B o x y t z m q wd n d : Nat) (w : World) (hd : d ≤ 8) (g0 : w.cell? ⟨B, o, none⟩ = some (.int .u8 (x : Int))) (hx : x < 256) (hx0 : ((x : Int) == 0) = false) (ha : bits .and .i64 (x : Int) 31 = (x : Int) % 32) (hx1 : (x : Int) % 32 = 31) (g1 : w.cell? ⟨B, o + 1, none⟩ = some (.int .u8 (y : Int))) (hy : y < 256) (ht : bits .or .i64 ((x : Int) * 256) (y : Int) = (t : Int)) (hv : validB (t : Int) = true) (gz : w.cell? ⟨B, o + 1 + 1, none⟩ = some (.int .u8 (z : Int))) (hz : z < 256) (hL : m ≤ q) (hc2 : q + 1 + 1 + 1 ≤ 9223372036854775807) (hz1 : ¬ (z : Int) < 128) (hz2 : (z : Int) - 128 = (wd : Int)) (hw1 : ¬ (wd : Int) < 1) (hw2 : ¬ 2 < (wd : Int)) (hLw : ¬ (m : Int) < (wd : Int)) (hwm : wd ≤ m) (hqw : ¬ q = wd) (HG0 : ∀ W, Below w.heap.size w W → Calls Tryd.prog 112 #[.slice (some ⟨B, o + 3, none⟩) wd q] W fun e w' => e = .returned (.tuple #[.int .i64 n, .int .i64 0]) ∧ W = w') (HF0 : ∀ W, Calls Tryd.prog 93 #[.int .i64 n] W fun e w' => ∃ A c, e = .returned (.slice A (wd + 1) c) ∧ Below W.heap.size W w') (hnm : (m : Int) - (wd : Int) < (n : Int)) :
    Calls Tryd.prog 98 #[.slice (some ⟨B, o, none⟩) (m + 1 + 1 + 1) (q + 1 + 1 + 1), .int .i64 d] w fun e w' => e = .returned (.tuple #[.agg #[.int .i64 0, .slice none 0 0, .slice none 0 0], .slice none 0 0, .int .i64 5]) ∧ Below w.heap.size w w' := by
  have hlt := World.block_lt_of_cell? w _ g0
  have hd1 : decide (8 < (d : Int)) = false := decide_eq_false (by omega)
  have hx3 : (decide (8 < (d : Int)) || ((x : Int) == 0)) = false := by rw [hd1, hx0]; rfl
  have hx4 : ((x : Int) % 32 != 31) = false := by rw [hx1]; rfl
  have hval := fun W => pvalid_any (t : Int) W
  rw [hv] at hval
  have HVAL := Lib.hid hval
  clear hval hv
  have HG := Lib.hid HG0
  have HLF := Lib.hid HF0
  clear HG0 HF0
  have hq0 : ¬ q = 0 := by omega
  go_enter Tryd.func98, Tryd.ntmps98
  go_wp2_with fail
  refine wp_scope_fwd 4 ?_
  intro C hC
  have HC := Lib.hid hC
  clear hC
  go_wp2_with fail
  go_region
  go_wp2_with fail
  go_region
  go_wp2_with (go_at_call 107; refine (HVAL.out _).mono ?_; rintro e w' ⟨rfl, rfl⟩)
  go_step3
  go_wp2_with fail
  go_region
  go_wp2_with fail
  refine (HG.out _ ((alloc2_below _ _ _).drew.drew.drew)).mono ?_
  rintro e W ⟨rfl, rfl⟩
  go_wp2_with fail
  refine (HLF.out _).mono ?_
  rintro e w3 ⟨A3, c3, rfl, hb3⟩
  have e0 : w.heap.size < ((w.alloc (Obj.cells #[Value.int IntKind.i64 0, Value.slice none 0 0, Value.slice none 0 0] 70)).alloc (Obj.cells #[Value.int IntKind.i64 t, Value.slice none 0 0, Value.slice none 0 0] 70)).drew.drew.drew.heap.size := by show w.heap.size < ((w.alloc _).alloc _).heap.size; rw [alloc_size, alloc_size]; omega
  have e1 : w.heap.size + 1 < ((w.alloc (Obj.cells #[Value.int IntKind.i64 0, Value.slice none 0 0, Value.slice none 0 0] 70)).alloc (Obj.cells #[Value.int IntKind.i64 t, Value.slice none 0 0, Value.slice none 0 0] 70)).drew.drew.drew.heap.size := by show w.heap.size + 1 < ((w.alloc _).alloc _).heap.size; rw [alloc_size, alloc_size]; omega
  have hrow : w3.heap[w.heap.size]? = some (.cells #[.int .i64 0, .slice none 0 0, .slice none 0 0] 70 (0, 0)) := (hb3.block _ e0).trans (heap_alloc2_old w _ _)
  have hrow1 : w3.heap[w.heap.size + 1]? = some (.cells #[.int .i64 t, .slice none 0 0, .slice none 0 0] 70 (0, 0)) := (hb3.block _ e1).trans (heap2_new w _ _)
  have hbel : Below w.heap.size w w3 := ((alloc2_below w _ _).drew.drew.drew).trans (hb3.mono (Nat.le_of_lt e0))
  have s3 := hb3.size
  replace e0 := Nat.lt_of_lt_of_le e0 s3
  replace e1 := Nat.lt_of_lt_of_le e1 s3
  clear s3 hb3
  have q0 : w3.cell? ⟨w.heap.size + 1, 0, none⟩ = some (.int .i64 t) := cell_of_row _ _ 0 _ _ _ hrow1
  have z0 : w3.cell? ⟨w.heap.size, 0, none⟩ = some (.int .i64 0) := cell_of_row _ _ 0 _ _ _ hrow
  have z1 : w3.cell? ⟨w.heap.size, 1, none⟩ = some (.slice none 0 0) := cell_of_row _ _ 1 _ _ _ hrow
  have z2 : w3.cell? ⟨w.heap.size, 2, none⟩ = some (.slice none 0 0) := cell_of_row _ _ 2 _ _ _ hrow
  have y0 := frozen_of_row _ _ 0 _ _ hrow
  have y1 := frozen_of_row _ _ 1 _ _ hrow
  have y2 := frozen_of_row _ _ 2 _ _ hrow
  have HROW := Lib.hid hrow
  have HROW1 := Lib.hid hrow1
  clear hrow hrow1
  go_wp2_with fail
  go_step3
  go_wp2_with fail
  go_step3
  refine Exit.fwd_goto (by rw [HC.out]; rfl) ?_
  go_wp2_with fail
  exact bodyPost_ret (results_cell3 rfl _ _ w.heap.size 70 #[.int .i64 0, .slice none 0 0, .slice none 0 0] (0, 0) _ rfl (row3_set _ _ _ _ _ _ _ _ _ HROW.out) Tryd.underlying70 rfl (by kernel_rfl)) rfl ⟨rfl, set3_below hbel _ (Nat.le_refl _) _ _ _⟩

end Go.Proofs.YtjkbfogjfgnhiaaDoor
