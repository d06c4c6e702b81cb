
/-
  readObject, by cases.
  readObject, by cases: no tag.
  readObject in general.
  withValue, readList and Decode in general.
  readList and Decode in general.
  The reference: read and Decode.
-/
import Derived.Test.YtjkbfogjfgnhiaaDoorDmc
import Derived.Test.YtjkbfogjfgnhiaaDoorDmd
namespace Go.Proofs.YtjkbfogjfgnhiaaDoor
set_option linter.unusedVariables false
set_option linter.unusedSimpArgs false
open Go.RowKit


set_option maxRecDepth 100000 in
set_option maxHeartbeats 6400000 in
theorem roB_wideVe_p (B o x y t z m q wd n d : Nat) (er : Int) (w : World) (hd : d ≤ 8) (g0 : w.cell? ⟨B, o, none⟩ = some (.int .u8 (x : Int))) (hx : x < 256) (hx0 : ((x : Int) == 0) = false) (ha : bits .and .i64 (x : Int) 31 = (x : Int) % 32) (hx1 : (x : Int) % 32 = 31) (g1 : w.cell? ⟨B, o + 1, none⟩ = some (.int .u8 (y : Int))) (hy : y < 256) (ht : bits .or .i64 ((x : Int) * 256) (y : Int) = (t : Int)) (hv : validB (t : Int) = true) (gz : w.cell? ⟨B, o + 1 + 1, none⟩ = some (.int .u8 (z : Int))) (hz : z < 256) (hL : m ≤ q) (hc2 : q + 1 + 1 + 1 ≤ 9223372036854775807) (hz1 : ¬ (z : Int) < 128) (hz2 : (z : Int) - 128 = (wd : Int)) (hw1 : ¬ (wd : Int) < 1) (hw2 : ¬ 2 < (wd : Int)) (hLw : ¬ (m : Int) < (wd : Int)) (hwm : wd ≤ m) (hqw : ¬ q = wd) (HG0 : ∀ W, Below w.heap.size w W → Calls Tryd.prog 112 #[.slice (some ⟨B, o + 3, none⟩) wd q] W fun e w' => e = .returned (.tuple #[.int .i64 n, .int .i64 0]) ∧ W = w') (HF0 : ∀ W, Calls Tryd.prog 93 #[.int .i64 n] W fun e w' => ∃ A c, e = .returned (.slice A (wd + 1) c) ∧ Below W.heap.size W w') (hnm : ¬ (m : Int) - (wd : Int) < (n : Int)) (hnle : n ≤ m - wd) (her : (er == 0) = false) (HW0 : ∀ A c W, Below w.heap.size w W → (0 < n → A = some ⟨B, o + 3 + wd, none⟩) → n ≤ c → c ≤ 9223372036854775807 → Calls Tryd.prog 113 #[.int .i64 t, .slice A n c, .int .i64 d] W fun e w' => ∃ A1 c1 A2 c2, e = .returned (.tuple #[.agg #[.int .i64 0, .slice A1 0 c1, .slice A2 0 c2], .int .i64 er]) ∧ Below W.heap.size W w') :
    Calls Tryd.prog 98 #[.slice (some ⟨B, o, none⟩) (m + 1 + 1 + 1) (q + 1 + 1 + 1), .int .i64 d] w fun e w' => e = .returned (.tuple #[.agg #[.int .i64 0, .slice none 0 0, .slice none 0 0], .slice none 0 0, .int .i64 er]) ∧ Below w.heap.size w w' := by
  have hlt := World.block_lt_of_cell? w _ g0
  have hd1 : decide (8 < (d : Int)) = false := decide_eq_false (by omega)
  have hx3 : (decide (8 < (d : Int)) || ((x : Int) == 0)) = false := by rw [hd1, hx0]; rfl
  have hx4 : ((x : Int) % 32 != 31) = false := by rw [hx1]; rfl
  have hval := fun W => pvalid_any (t : Int) W
  rw [hv] at hval
  have HVAL := Lib.hid hval
  clear hval hv
  have HG := Lib.hid HG0
  have HLF := Lib.hid HF0
  clear HG0 HF0
  have hq0 : ¬ q = 0 := by omega
  have HWV := Lib.hid HW0
  clear HW0
  have hnq : n ≤ q - wd := by omega
  have hnq2 : (n : Int) ≤ ((q - wd : Nat) : Int) := by omega
  have hnq3 : (n : Int) ≤ (q : Int) - (wd : Int) := by omega
  have hn0 : (0 : Int) ≤ (n : Int) := by omega
  have hnm3 : (n : Int) ≤ ((m - wd : Nat) : Int) := by omega
  have hnm4 : (n : Int) ≤ (m : Int) - (wd : Int) := by omega
  go_enter Tryd.func98, Tryd.ntmps98
  go_wp2_with fail
  refine wp_scope_fwd 4 ?_
  intro C hC
  have HC := Lib.hid hC
  clear hC
  go_wp2_with fail
  go_region
  go_wp2_with fail
  go_region
  go_wp2_with (go_at_call 107; refine (HVAL.out _).mono ?_; rintro e w' ⟨rfl, rfl⟩)
  go_step3
  go_wp2_with fail
  go_region
  go_wp2_with fail
  refine (HG.out _ ((alloc2_below _ _ _).drew.drew.drew)).mono ?_
  rintro e W ⟨rfl, rfl⟩
  go_wp2_with fail
  refine (HLF.out _).mono ?_
  rintro e w3 ⟨A3, c3, rfl, hb3⟩
  have e0 : w.heap.size < ((w.alloc (Obj.cells #[Value.int IntKind.i64 0, Value.slice none 0 0, Value.slice none 0 0] 70)).alloc (Obj.cells #[Value.int IntKind.i64 t, Value.slice none 0 0, Value.slice none 0 0] 70)).drew.drew.drew.heap.size := by show w.heap.size < ((w.alloc _).alloc _).heap.size; rw [alloc_size, alloc_size]; omega
  have e1 : w.heap.size + 1 < ((w.alloc (Obj.cells #[Value.int IntKind.i64 0, Value.slice none 0 0, Value.slice none 0 0] 70)).alloc (Obj.cells #[Value.int IntKind.i64 t, Value.slice none 0 0, Value.slice none 0 0] 70)).drew.drew.drew.heap.size := by show w.heap.size + 1 < ((w.alloc _).alloc _).heap.size; rw [alloc_size, alloc_size]; omega
  have hrow : w3.heap[w.heap.size]? = some (.cells #[.int .i64 0, .slice none 0 0, .slice none 0 0] 70 (0, 0)) := (hb3.block _ e0).trans (heap_alloc2_old w _ _)
  have hrow1 : w3.heap[w.heap.size + 1]? = some (.cells #[.int .i64 t, .slice none 0 0, .slice none 0 0] 70 (0, 0)) := (hb3.block _ e1).trans (heap2_new w _ _)
  have hbel : Below w.heap.size w w3 := ((alloc2_below w _ _).drew.drew.drew).trans (hb3.mono (Nat.le_of_lt e0))
  have s3 := hb3.size
  replace e0 := Nat.lt_of_lt_of_le e0 s3
  replace e1 := Nat.lt_of_lt_of_le e1 s3
  clear s3 hb3
  have q0 : w3.cell? ⟨w.heap.size + 1, 0, none⟩ = some (.int .i64 t) := cell_of_row _ _ 0 _ _ _ hrow1
  have HROW := Lib.hid hrow
  have HROW1 := Lib.hid hrow1
  clear hrow hrow1
  go_wp2_with fail
  go_step3
  go_wp2_with fail
  go_region_with (go_at_call 113; (refine (HWV.out _ _ _ (by first | exact hbel | exact hbel.drew) (fun _ => rfl) (by omega) (by omega)).mono ?_); rintro e w4 ⟨A1, c1, A2, c2, rfl, hb4⟩; have hr1 : w4.heap[w.heap.size + 1]? = some (.cells #[.int .i64 t, .slice none 0 0, .slice none 0 0] 70 (0, 0)) := (hb4.block _ e1).trans HROW1.out; have hr0 : w4.heap[w.heap.size]? = some (.cells #[.int .i64 0, .slice none 0 0, .slice none 0 0] 70 (0, 0)) := (hb4.block _ e0).trans HROW.out; have p0 : w4.cell? ⟨w.heap.size + 1, 0, none⟩ = some (.int .i64 t) := cell_of_row _ _ 0 _ _ _ hr1; have p1 : w4.cell? ⟨w.heap.size + 1, 1, none⟩ = some (.slice none 0 0) := cell_of_row _ _ 1 _ _ _ hr1; have p2 : w4.cell? ⟨w.heap.size + 1, 2, none⟩ = some (.slice none 0 0) := cell_of_row _ _ 2 _ _ _ hr1; have f0 := frozen_of_row _ _ 0 _ _ hr1; have f1 := frozen_of_row _ _ 1 _ _ hr1; have f2 := frozen_of_row _ _ 2 _ _ hr1; have z0 : w4.cell? ⟨w.heap.size, 0, none⟩ = some (.int .i64 0) := cell_of_row _ _ 0 _ _ _ hr0; have z1 : w4.cell? ⟨w.heap.size, 1, none⟩ = some (.slice none 0 0) := cell_of_row _ _ 1 _ _ _ hr0; have z2 : w4.cell? ⟨w.heap.size, 2, none⟩ = some (.slice none 0 0) := cell_of_row _ _ 2 _ _ _ hr0; have y0 := frozen_of_row _ _ 0 _ _ hr0; have y1 := frozen_of_row _ _ 1 _ _ hr0; have y2 := frozen_of_row _ _ 2 _ _ hr0; have HR1 := Lib.hid hr1; have HR0 := Lib.hid hr0; clear hr1 hr0)
  all_goals
    go_wp2_with fail
    try rw [Exit.fwd_ret]
    exact bodyPost_ret (results_cell3 rfl _ _ w.heap.size 70 #[.int .i64 0, .slice none 0 0, .slice none 0 0] (0, 0) _ rfl (row3_set _ _ _ _ _ _ _ _ _ ((set3_other w4 (w.heap.size + 1) w.heap.size _ _ _ (by omega)).trans HR0.out)) Tryd.underlying70 rfl (by kernel_rfl)) rfl ⟨rfl, set3_below (set3_below (hbel.drew.trans (hb4.mono (Nat.le_of_lt e0))) _ (Nat.le_succ _) _ _ _) _ (Nat.le_refl _) _ _ _⟩

set_option maxRecDepth 100000 in
set_option maxHeartbeats 6400000 in
theorem roB_wideVo_p (B o x y t z m q wd n d : Nat) (r : T) (w : World) (hd : d ≤ 8) (g0 : w.cell? ⟨B, o, none⟩ = some (.int .u8 (x : Int))) (hx : x < 256) (hx0 : ((x : Int) == 0) = false) (ha : bits .and .i64 (x : Int) 31 = (x : Int) % 32) (hx1 : (x : Int) % 32 = 31) (g1 : w.cell? ⟨B, o + 1, none⟩ = some (.int .u8 (y : Int))) (hy : y < 256) (ht : bits .or .i64 ((x : Int) * 256) (y : Int) = (t : Int)) (hv : validB (t : Int) = true) (gz : w.cell? ⟨B, o + 1 + 1, none⟩ = some (.int .u8 (z : Int))) (hz : z < 256) (hL : m ≤ q) (hc2 : q + 1 + 1 + 1 ≤ 9223372036854775807) (hz1 : ¬ (z : Int) < 128) (hz2 : (z : Int) - 128 = (wd : Int)) (hw1 : ¬ (wd : Int) < 1) (hw2 : ¬ 2 < (wd : Int)) (hLw : ¬ (m : Int) < (wd : Int)) (hwm : wd ≤ m) (hqw : ¬ q = wd) (HG0 : ∀ W, Below w.heap.size w W → Calls Tryd.prog 112 #[.slice (some ⟨B, o + 3, none⟩) wd q] W fun e w' => e = .returned (.tuple #[.int .i64 n, .int .i64 0]) ∧ W = w') (HF0 : ∀ W, Calls Tryd.prog 93 #[.int .i64 n] W fun e w' => ∃ A c, e = .returned (.slice A (wd + 1) c) ∧ Below W.heap.size W w') (hnm : ¬ (m : Int) - (wd : Int) < (n : Int)) (hnle : n ≤ m - wd) (HW0 : ∀ A c W, Below w.heap.size w W → (0 < n → A = some ⟨B, o + 3 + wd, none⟩) → n ≤ c → c ≤ 9223372036854775807 → Calls Tryd.prog 113 #[.int .i64 t, .slice A n c, .int .i64 d] W fun e w' => ∃ A1 c1 A2 c2, e = .returned (.tuple #[.agg #[.int .i64 r.tag, .slice A1 r.val.length c1, .slice A2 r.kids.length c2], .int .i64 0]) ∧ VI w' (From w' W.heap.size) (.slice A1 r.val.length c1) r.val ∧ KI w' (From w' W.heap.size) (.slice A2 r.kids.length c2) r.kids ∧ Below W.heap.size W w') :
    Calls Tryd.prog 98 #[.slice (some ⟨B, o, none⟩) (m + 1 + 1 + 1) (q + 1 + 1 + 1), .int .i64 d] w fun e w' => RoP w B r (o + 3 + wd + n) (m - wd - n) e w' := by
  have hlt := World.block_lt_of_cell? w _ g0
  have hd1 : decide (8 < (d : Int)) = false := decide_eq_false (by omega)
  have hx3 : (decide (8 < (d : Int)) || ((x : Int) == 0)) = false := by rw [hd1, hx0]; rfl
  have hx4 : ((x : Int) % 32 != 31) = false := by rw [hx1]; rfl
  have hval := fun W => pvalid_any (t : Int) W
  rw [hv] at hval
  have HVAL := Lib.hid hval
  clear hval hv
  have HG := Lib.hid HG0
  have HLF := Lib.hid HF0
  clear HG0 HF0
  have hq0 : ¬ q = 0 := by omega
  have HWV := Lib.hid HW0
  clear HW0
  have hnq : n ≤ q - wd := by omega
  have hnq2 : (n : Int) ≤ ((q - wd : Nat) : Int) := by omega
  have hnq3 : (n : Int) ≤ (q : Int) - (wd : Int) := by omega
  have hn0 : (0 : Int) ≤ (n : Int) := by omega
  have hnm3 : (n : Int) ≤ ((m - wd : Nat) : Int) := by omega
  have hnm4 : (n : Int) ≤ (m : Int) - (wd : Int) := by omega
  go_enter Tryd.func98, Tryd.ntmps98
  go_wp2_with fail
  refine wp_scope_fwd 4 ?_
  intro C hC
  have HC := Lib.hid hC
  clear hC
  go_wp2_with fail
  go_region
  go_wp2_with fail
  go_region
  go_wp2_with (go_at_call 107; refine (HVAL.out _).mono ?_; rintro e w' ⟨rfl, rfl⟩)
  go_step3
  go_wp2_with fail
  go_region
  go_wp2_with fail
  refine (HG.out _ ((alloc2_below _ _ _).drew.drew.drew)).mono ?_
  rintro e W ⟨rfl, rfl⟩
  go_wp2_with fail
  refine (HLF.out _).mono ?_
  rintro e w3 ⟨A3, c3, rfl, hb3⟩
  have e0 : w.heap.size < ((w.alloc (Obj.cells #[Value.int IntKind.i64 0, Value.slice none 0 0, Value.slice none 0 0] 70)).alloc (Obj.cells #[Value.int IntKind.i64 t, Value.slice none 0 0, Value.slice none 0 0] 70)).drew.drew.drew.heap.size := by show w.heap.size < ((w.alloc _).alloc _).heap.size; rw [alloc_size, alloc_size]; omega
  have e1 : w.heap.size + 1 < ((w.alloc (Obj.cells #[Value.int IntKind.i64 0, Value.slice none 0 0, Value.slice none 0 0] 70)).alloc (Obj.cells #[Value.int IntKind.i64 t, Value.slice none 0 0, Value.slice none 0 0] 70)).drew.drew.drew.heap.size := by show w.heap.size + 1 < ((w.alloc _).alloc _).heap.size; rw [alloc_size, alloc_size]; omega
  have hrow : w3.heap[w.heap.size]? = some (.cells #[.int .i64 0, .slice none 0 0, .slice none 0 0] 70 (0, 0)) := (hb3.block _ e0).trans (heap_alloc2_old w _ _)
  have hrow1 : w3.heap[w.heap.size + 1]? = some (.cells #[.int .i64 t, .slice none 0 0, .slice none 0 0] 70 (0, 0)) := (hb3.block _ e1).trans (heap2_new w _ _)
  have hbel : Below w.heap.size w w3 := ((alloc2_below w _ _).drew.drew.drew).trans (hb3.mono (Nat.le_of_lt e0))
  have s3 := hb3.size
  replace e0 := Nat.lt_of_lt_of_le e0 s3
  replace e1 := Nat.lt_of_lt_of_le e1 s3
  clear s3 hb3
  have q0 : w3.cell? ⟨w.heap.size + 1, 0, none⟩ = some (.int .i64 t) := cell_of_row _ _ 0 _ _ _ hrow1
  have HROW := Lib.hid hrow
  have HROW1 := Lib.hid hrow1
  clear hrow hrow1
  go_wp2_with fail
  go_step3
  go_wp2_with fail
  go_region_with (go_at_call 113; (refine (HWV.out _ _ _ (by first | exact hbel | exact hbel.drew) (fun _ => rfl) (by omega) (by omega)).mono ?_); rintro e w4 ⟨A1, c1, A2, c2, rfl, hv4, hk4, hb4⟩; have hr1 : w4.heap[w.heap.size + 1]? = some (.cells #[.int .i64 t, .slice none 0 0, .slice none 0 0] 70 (0, 0)) := (hb4.block _ e1).trans HROW1.out; have hr0 : w4.heap[w.heap.size]? = some (.cells #[.int .i64 0, .slice none 0 0, .slice none 0 0] 70 (0, 0)) := (hb4.block _ e0).trans HROW.out; have p0 : w4.cell? ⟨w.heap.size + 1, 0, none⟩ = some (.int .i64 t) := cell_of_row _ _ 0 _ _ _ hr1; have p1 : w4.cell? ⟨w.heap.size + 1, 1, none⟩ = some (.slice none 0 0) := cell_of_row _ _ 1 _ _ _ hr1; have p2 : w4.cell? ⟨w.heap.size + 1, 2, none⟩ = some (.slice none 0 0) := cell_of_row _ _ 2 _ _ _ hr1; have f0 := frozen_of_row _ _ 0 _ _ hr1; have f1 := frozen_of_row _ _ 1 _ _ hr1; have f2 := frozen_of_row _ _ 2 _ _ hr1; have HR1 := Lib.hid hr1; have HR0 := Lib.hid hr0; clear hr1 hr0)
  all_goals
    go_wp2_with fail
    obtain ⟨w5, hw5⟩ : ∃ w5, w5 = ((w4.setCell ⟨w.heap.size + 1, 0, none⟩ (.int .i64 r.tag)).setCell ⟨w.heap.size + 1, 1, none⟩ (.slice A1 r.val.length c1)).setCell ⟨w.heap.size + 1, 2, none⟩ (.slice A2 r.kids.length c2) := ⟨_, rfl⟩
    rw [← hw5]
    have i1 : w5.heap[w.heap.size + 1]? = some (.cells #[.int .i64 r.tag, .slice A1 r.val.length c1, .slice A2 r.kids.length c2] 70 (0, 0)) := by rw [hw5]; exact row3_set _ _ _ _ _ _ _ _ _ HR1.out
    have i0 : w5.heap[w.heap.size]? = some (.cells #[.int .i64 0, .slice none 0 0, .slice none 0 0] 70 (0, 0)) := by rw [hw5, set3_other _ _ _ _ _ _ (by omega)]; exact HR0.out
    have HW5 := Lib.hid hw5
    have l0 := cell_of_row _ _ 0 _ _ _ i1
    have l1 := cell_of_row _ _ 1 _ _ _ i1
    have l2 := cell_of_row _ _ 2 _ _ _ i1
    have z0 := cell_of_row _ _ 0 _ _ _ i0
    have z1 := cell_of_row _ _ 1 _ _ _ i0
    have z2 := cell_of_row _ _ 2 _ _ _ i0
    have y0 := frozen_of_row _ _ 0 _ _ i0
    have y1 := frozen_of_row _ _ 1 _ _ i0
    have y2 := frozen_of_row _ _ 2 _ _ i0
    have I0 := Lib.hid i0
    clear hw5 p0 p1 p2 f0 f1 f2 i0 i1
    go_region
    all_goals go_wp2_with fail
    all_goals
      obtain ⟨E1, E2, E3⟩ := ro_keep w w3 w4 hbel e1 hb4 _ _ _ _ hv4 hk4 _ _ _ (.int .i64 r.tag) (.slice A1 r.val.length c1) (.slice A2 r.kids.length c2) w5 HW5.out _ rfl
      exact bodyPost_ret (results_cell3 rfl _ _ w.heap.size 70 #[.int .i64 r.tag, .slice A1 r.val.length c1, .slice A2 r.kids.length c2] (0, 0) _ rfl (row3_set _ _ _ _ _ _ _ _ _ I0.out) Tryd.underlying70 rfl (by kernel_rfl)) rfl ⟨E3, _, _, _, _, rfl, E1, E2, (by omega), (by omega), fun h => by first | rfl | (exfalso; omega)⟩



set_option maxRecDepth 100000 in
set_option maxHeartbeats 6400000 in
theorem roT_deep (A : Option Addr) (n c d : Nat) (w : World) (hd : (8 : Int) < (d : Int)) :
    Calls Tryd.prog 98 #[.slice A n c, .int .i64 d] w fun e w' => e = .returned (.tuple #[.agg #[.int .i64 0, .slice none 0 0, .slice none 0 0], .slice none 0 0, .int .i64 4]) ∧ Below w.heap.size w w' := by
  go_enter Tryd.func98, Tryd.ntmps98
  go_wp2_with fail
  refine wp_scope_fwd 4 ?_
  intro C hC
  have HC := Lib.hid hC
  clear hC
  go_wp2_with fail
  go_step3
  refine Exit.fwd_goto (by rw [HC.out]; rfl) ?_
  go_wp2_with fail
  exact bodyPost_ret (results_cell3 rfl _ _ w.heap.size 70 #[.int .i64 0, .slice none 0 0, .slice none 0 0] (0, 0) _ rfl (heap_alloc2_old _ _ _) Tryd.underlying70 rfl (by kernel_rfl)) rfl ⟨rfl, alloc2_below _ _ _⟩
set_option maxRecDepth 100000 in
set_option maxHeartbeats 6400000 in
theorem roT_zero (B o n c d : Nat) (w : World) (hd : d ≤ 8) (g0 : w.cell? ⟨B, o, none⟩ = some (.int .u8 0)) (hn : 0 < n) (hc : n ≤ c) (hc2 : c ≤ 9223372036854775807) :
    Calls Tryd.prog 98 #[.slice (some ⟨B, o, none⟩) n c, .int .i64 d] w fun e w' => e = .returned (.tuple #[.agg #[.int .i64 0, .slice none 0 0, .slice none 0 0], .slice none 0 0, .int .i64 4]) ∧ Below w.heap.size w w' := by
  have hlt := World.block_lt_of_cell? w _ g0
  have hd1 : decide (8 < (d : Int)) = false := decide_eq_false (by omega)
  go_enter Tryd.func98, Tryd.ntmps98
  go_wp2_with fail
  refine wp_scope_fwd 4 ?_
  intro C hC
  have HC := Lib.hid hC
  clear hC
  go_wp2_with fail
  go_step3
  refine Exit.fwd_goto (by rw [HC.out]; rfl) ?_
  go_wp2_with fail
  exact bodyPost_ret (results_cell3 rfl _ _ w.heap.size 70 #[.int .i64 0, .slice none 0 0, .slice none 0 0] (0, 0) _ rfl (heap_alloc2_old _ _ _) Tryd.underlying70 rfl (by kernel_rfl)) rfl ⟨rfl, alloc2_below _ _ _⟩
set_option maxRecDepth 100000 in
set_option maxHeartbeats 6400000 in
theorem roT_short_z (B o x d : Nat) (w : World) (hd : d ≤ 8) (g0 : w.cell? ⟨B, o, none⟩ = some (.int .u8 (x : Int))) (hx : x < 256) (hx0 : ((x : Int) == 0) = false) (ha : bits .and .i64 (x : Int) 31 = (x : Int) % 32) (hx1 : (x : Int) % 32 = 31) :
    Calls Tryd.prog 98 #[.slice (some ⟨B, o, none⟩) (0 + 1) (0 + 1), .int .i64 d] w fun e w' => e = .returned (.tuple #[.agg #[.int .i64 0, .slice none 0 0, .slice none 0 0], .slice none 0 0, .int .i64 5]) ∧ Below w.heap.size w w' := by
  have hlt := World.block_lt_of_cell? w _ g0
  have hd1 : decide (8 < (d : Int)) = false := decide_eq_false (by omega)
  have hx3 : (decide (8 < (d : Int)) || ((x : Int) == 0)) = false := by rw [hd1, hx0]; rfl
  have hx4 : ((x : Int) % 32 != 31) = false := by rw [hx1]; rfl
  go_enter Tryd.func98, Tryd.ntmps98
  go_wp2_with fail
  refine wp_scope_fwd 4 ?_
  intro C hC
  have HC := Lib.hid hC
  clear hC
  go_wp2_with fail
  go_region
  go_wp2_with fail
  go_step3
  refine Exit.fwd_goto (by rw [HC.out]; rfl) ?_
  go_wp2_with fail
  exact bodyPost_ret (results_cell3 rfl _ _ w.heap.size 70 #[.int .i64 0, .slice none 0 0, .slice none 0 0] (0, 0) _ rfl (heap_alloc2_old _ _ _) Tryd.underlying70 rfl (by kernel_rfl)) rfl ⟨rfl, (alloc2_below _ _ _).drew⟩
set_option maxRecDepth 100000 in
set_option maxHeartbeats 6400000 in
theorem roT_short_p (B o x q d : Nat) (w : World) (hd : d ≤ 8) (g0 : w.cell? ⟨B, o, none⟩ = some (.int .u8 (x : Int))) (hx : x < 256) (hx0 : ((x : Int) == 0) = false) (ha : bits .and .i64 (x : Int) 31 = (x : Int) % 32) (hx1 : (x : Int) % 32 = 31)
    (hq0 : ¬ q = 0) (hc2 : q + 1 ≤ 9223372036854775807) :
    Calls Tryd.prog 98 #[.slice (some ⟨B, o, none⟩) (0 + 1) (q + 1), .int .i64 d] w fun e w' => e = .returned (.tuple #[.agg #[.int .i64 0, .slice none 0 0, .slice none 0 0], .slice none 0 0, .int .i64 5]) ∧ Below w.heap.size w w' := by
  have hlt := World.block_lt_of_cell? w _ g0
  have hd1 : decide (8 < (d : Int)) = false := decide_eq_false (by omega)
  have hx3 : (decide (8 < (d : Int)) || ((x : Int) == 0)) = false := by rw [hd1, hx0]; rfl
  have hx4 : ((x : Int) % 32 != 31) = false := by rw [hx1]; rfl
  go_enter Tryd.func98, Tryd.ntmps98
  go_wp2_with fail
  refine wp_scope_fwd 4 ?_
  intro C hC
  have HC := Lib.hid hC
  clear hC
  go_wp2_with fail
  go_region
  go_wp2_with fail
  go_step3
  refine Exit.fwd_goto (by rw [HC.out]; rfl) ?_
  go_wp2_with fail
  exact bodyPost_ret (results_cell3 rfl _ _ w.heap.size 70 #[.int .i64 0, .slice none 0 0, .slice none 0 0] (0, 0) _ rfl (heap_alloc2_old _ _ _) Tryd.underlying70 rfl (by kernel_rfl)) rfl ⟨rfl, (alloc2_below _ _ _).drew⟩
set_option maxRecDepth 100000 in
set_option maxHeartbeats 6400000 in
theorem roT_bad (B o x y t m q d : Nat) (w : World) (hd : d ≤ 8) (g0 : w.cell? ⟨B, o, none⟩ = some (.int .u8 (x : Int))) (hx : x < 256) (hx0 : ((x : Int) == 0) = false) (ha : bits .and .i64 (x : Int) 31 = (x : Int) % 32) (hx1 : (x : Int) % 32 = 31)
    (g1 : w.cell? ⟨B, o + 1, none⟩ = some (.int .u8 (y : Int))) (hy : y < 256) (ht : bits .or .i64 ((x : Int) * 256) (y : Int) = (t : Int)) (hv : validB (t : Int) = false) (hL : m ≤ q) (hc2 : q + 1 + 1 ≤ 9223372036854775807) :
    Calls Tryd.prog 98 #[.slice (some ⟨B, o, none⟩) (m + 1 + 1) (q + 1 + 1), .int .i64 d] w fun e w' => e = .returned (.tuple #[.agg #[.int .i64 0, .slice none 0 0, .slice none 0 0], .slice none 0 0, .int .i64 4]) ∧ Below w.heap.size w w' := by
  have hlt := World.block_lt_of_cell? w _ g0
  have hd1 : decide (8 < (d : Int)) = false := decide_eq_false (by omega)
  have hx3 : (decide (8 < (d : Int)) || ((x : Int) == 0)) = false := by rw [hd1, hx0]; rfl
  have hx4 : ((x : Int) % 32 != 31) = false := by rw [hx1]; rfl
  have hval := fun W => pvalid_any (t : Int) W
  rw [hv] at hval
  have HVAL := Lib.hid hval
  clear hval hv
  go_enter Tryd.func98, Tryd.ntmps98
  go_wp2_with fail
  refine wp_scope_fwd 4 ?_
  intro C hC
  have HC := Lib.hid hC
  clear hC
  go_wp2_with fail
  go_region
  go_wp2_with fail
  go_region
  all_goals go_wp2_with (go_at_call 107; refine (HVAL.out _).mono ?_; rintro e w' ⟨rfl, rfl⟩)
  all_goals go_step3
  all_goals refine Exit.fwd_goto (by rw [HC.out]; rfl) ?_
  all_goals go_wp2_with fail
  all_goals exact bodyPost_ret (results_cell3 rfl _ _ w.heap.size 70 #[.int .i64 0, .slice none 0 0, .slice none 0 0] (0, 0) _ rfl (heap_alloc2_old _ _ _) Tryd.underlying70 rfl (by kernel_rfl)) rfl ⟨rfl, (alloc2_below _ _ _).drew.drew⟩



theorem byN_drop (b : List UInt8) (j k : Nat) : byN (b.drop j) k = byN b (j + k) := by
  unfold byN
  simp [List.getD, List.getElem?_drop]
theorem len_eq' (b : List UInt8) : lenR b = if b.length < 1 then (0, 0, 5) else if byN b 0 < 128 then (byN b 0, 1, 0) else
  if byN b 0 = 129 then (if b.length < 2 then (0, 0, 5) else if byN b 1 < 128 then (0, 0, 4) else (byN b 1, 2, 0)) else
  if byN b 0 ≠ 130 then (0, 0, 4) else if b.length < 3 then (0, 0, 5) else if 256 * byN b 1 + byN b 2 < 256 then (0, 0, 4) else (256 * byN b 1 + byN b 2, 3, 0) := rfl
theorem hdR_len {d : Nat} {b : List UInt8} {t j : Nat} (hd : d ≤ 8) (ht : tagR b = (t, j, 0)) {er : Int} (her : er ≠ 0) (hl : lenR (b.drop j) = (0, 0, er)) : hdR d b = (0, 0, 0, er) := by
  unfold hdR
  rw [ht]
  simp only [hl]
  rw [if_neg (by omega), if_neg (by decide), if_pos her]
theorem hdR_short {d : Nat} {b : List UInt8} {t j n k : Nat} (hd : d ≤ 8) (ht : tagR b = (t, j, 0)) (hl : lenR (b.drop j) = (n, k, 0)) (h : b.length - (j + k) < n) : hdR d b = (0, 0, 0, 5) := by
  unfold hdR
  rw [ht]
  simp only [hl]
  rw [if_neg (by omega), if_neg (by decide), if_neg (by decide), if_pos (by rw [List.length_drop]; exact h)]
theorem hdR_good {d : Nat} {b : List UInt8} {t j n k : Nat} (hd : d ≤ 8) (ht : tagR b = (t, j, 0)) (hl : lenR (b.drop j) = (n, k, 0)) (h : ¬ b.length - (j + k) < n) : hdR d b = (t, j + k, n, 0) := by
  unfold hdR
  rw [ht]
  simp only [hl]
  rw [if_neg (by omega), if_neg (by decide), if_neg (by decide), if_neg (by rw [List.length_drop]; exact h)]
theorem readL_err {d : Nat} {b : List UInt8} (hb : b ≠ []) {er : Int} (h : hdR d b = (0, 0, 0, er)) (her : er ≠ 0) : readL d b = (er, []) := by
  rw [readL_step d b hb, h, if_pos her]
theorem readL_val {d : Nat} {b : List UInt8} (hb : b ≠ []) {t k n : Nat} (h : hdR d b = (t, k, n, 0)) {er : Int} (hv : (valR d t ((b.drop k).take n)).1 = er) (her : er ≠ 0) : readL d b = (er, []) := by
  rw [readL_step d b hb, h, if_neg (fun h => h rfl), if_pos (by simp only [hv]; exact her)]
  simp only [hv]
theorem readL_ok {d : Nat} {b : List UInt8} (hb : b ≠ []) {t k n : Nat} (h : hdR d b = (t, k, n, 0)) (hv : (valR d t ((b.drop k).take n)).1 = 0) : readL d b = comb [(valR d t ((b.drop k).take n)).2] (readL d (b.drop (k + n))) := by
  rw [readL_step d b hb, h, if_neg (fun h => h rfl), if_neg (by simp only [hv]; decide)]
/-- What withValue gives. -/
def WvP (w : World) (r : Int × T) (e : Ending) (w' : World) : Prop := ∃ A1 c1 A2 c2, e = .returned (.tuple #[.agg #[.int .i64 r.2.tag, .slice A1 r.2.val.length c1, .slice A2 r.2.kids.length c2], .int .i64 r.1]) ∧
  VI w' (From w' w.heap.size) (.slice A1 r.2.val.length c1) r.2.val ∧ KI w' (From w' w.heap.size) (.slice A2 r.2.kids.length c2) r.2.kids ∧ Below w.heap.size w w'
/-- What readObject gives. -/
def RoQ (w : World) (B0 : Nat) (b : List UInt8) (d : Nat) (e : Ending) (w' : World) : Prop := Below w.heap.size w w' ∧
  ((∃ er : Int, er ≠ 0 ∧ readL d b = (er, []) ∧ e = .returned (.tuple #[.agg #[.int .i64 0, .slice none 0 0, .slice none 0 0], .slice none 0 0, .int .i64 er])) ∨
   (∃ (r : T) (k : Nat) (u kv : Value) (A : Option Addr) (c : Nat), readL d b = comb [r] (readL d (b.drop k)) ∧ 2 ≤ k ∧ k ≤ b.length ∧
      e = .returned (.tuple #[.agg #[.int .i64 r.tag, u, kv], .slice A (b.length - k) c, .int .i64 0]) ∧ VI w' (From w' w.heap.size) u r.val ∧ KI w' (From w' w.heap.size) kv r.kids ∧ SL w' B0 (.slice A (b.length - k) c) (b.drop k)))
theorem sub_sl {w W : World} {B0 B o c m : Nat} {A : Option Addr} {b : List UInt8} (hB : B < B0) (hc : ∀ k, k < b.length → w.cell? ⟨B, o + k, none⟩ = some (.int .u8 ((b.getD k 0).toNat : Int))) (hb : Below B0 w W)
    (k : Nat) (hm : k + m ≤ b.length) (hA : 0 < m → A = some ⟨B, o + k, none⟩) (h1 : m ≤ c) (h2 : c ≤ maxLen) : SL W B0 (.slice A m c) ((b.drop k).take m) := by
  have hl : ((b.drop k).take m).length = m := by rw [List.length_take, List.length_drop]; omega
  refine ⟨A, c, by rw [hl], by rw [hl]; exact h1, h2, fun hp => ?_⟩
  rw [hl] at hp
  refine ⟨B, o + k, hA hp, hB, fun i hi => ?_⟩
  rw [hl] at hi
  rw [hb.cell (p := ⟨B, o + k + i, none⟩) hB, Nat.add_assoc, hc (k + i) (by omega)]
  simp [List.getD, List.getElem?_take, List.getElem?_drop, hi]
theorem RoP.q {w : World} {B0 B o k : Nat} {b : List UInt8} {d : Nat} {r : T} {e : Ending} {w' : World} (hB0 : B < B0) (hle : B0 ≤ w.heap.size) (hc : ∀ k, k < b.length → w.cell? ⟨B, o + k, none⟩ = some (.int .u8 ((b.getD k 0).toNat : Int)))
    (off len : Nat) (h : RoP w B r off len e w') (hk : 2 ≤ k) (hk2 : k ≤ b.length) (hlen : len = b.length - k) (hoff : off = o + k) (hr : readL d b = comb [r] (readL d (b.drop k))) : RoQ w B0 b d e w' := by
  obtain ⟨hbel, u, kv, A, c, he, hv, hkk, h1, h2, h3⟩ := h
  subst hlen hoff
  refine ⟨hbel, .inr ⟨r, k, u, kv, A, c, hr, hk, hk2, he, hv, hkk, ?_⟩⟩
  have := sub_sl (m := b.length - k) (A := A) (c := c) hB0 hc (hbel.mono hle) k (by omega) h3 h1 (by unfold maxLen; omega)
  rwa [List.take_of_length_le (by rw [List.length_drop]; omega)] at this
theorem getN_one (x : UInt8) : getN [x] = (x.toNat : Int) := by
  have := x.toNat_lt
  unfold getN
  rw [if_neg (by simp)]
  have e : numL [x] = x.toNat := by simp [numL]
  rw [e, if_neg (by unfold bigN; omega)]
theorem getE_one (x : UInt8) : getE [x] = 0 := by
  have := x.toNat_lt
  unfold getE
  rw [if_neg (by simp)]
  have e : numL [x] = x.toNat := by simp [numL]
  rw [e, if_neg (by unfold bigN; omega)]
theorem getN_two' (x y : UInt8) : getN [x, y] = ((256 * x.toNat + y.toNat : Nat) : Int) := by
  have := x.toNat_lt
  have := y.toNat_lt
  unfold getN
  rw [if_neg (by simp)]
  have e : numL [x, y] = 256 * x.toNat + y.toNat := by simp [numL]; omega
  rw [e, if_neg (by unfold bigN; omega)]
theorem getE_two' (x y : UInt8) : getE [x, y] = 0 := by
  have := x.toNat_lt
  have := y.toNat_lt
  unfold getE
  rw [if_neg (by simp)]
  have e : numL [x, y] = 256 * x.toNat + y.toNat := by simp [numL]; omega
  rw [e, if_neg (by unfold bigN; omega)]
theorem take_one (b : List UInt8) (k : Nat) (h : k < b.length) : (b.drop k).take 1 = [b.getD k 0] := by
  rw [List.drop_eq_getElem_cons h, List.take_succ_cons, List.take_zero]
  simp [List.getD, List.getElem?_eq_getElem h]
theorem take_two (b : List UInt8) (k : Nat) (h : k + 1 < b.length) : (b.drop k).take 2 = [b.getD k 0, b.getD (k + 1) 0] := by
  rw [List.drop_eq_getElem_cons (show k < b.length by omega), List.drop_eq_getElem_cons h, List.take_succ_cons, List.take_succ_cons, List.take_zero]
  simp [List.getD, List.getElem?_eq_getElem h, List.getElem?_eq_getElem (show k < b.length by omega)]
theorem lenF_len1 (n : Nat) (h1 : 128 ≤ n) (h2 : n < 256) : (lenF n).length = 2 := by rw [lenF_mid n (by omega) h2]; rfl
theorem lenF_len2 (n : Nat) (h1 : 256 ≤ n) : (lenF n).length = 3 := by rw [lenF_big n (by omega)]; rfl
theorem lenF_len0 (n : Nat) (h1 : n < 128) : (lenF n).length = 1 := by rw [lenF_small n h1]; rfl
theorem valR_bad {d t : Nat} {c : List UInt8} (h : ¬ (valR d t c).1 = 0) : valR d t c = ((valR d t c).1, T.zero) := by
  unfold valR at h ⊢
  by_cases hc : consB (t : Int) = true
  · rw [if_pos hc] at h ⊢
    by_cases hr : (readL (d + 1) c).1 = 0
    · rw [if_neg (by simp [hr])] at h; exact absurd rfl h
    · rw [if_pos hr]
  · rw [if_neg hc] at h; exact absurd rfl h

set_option maxHeartbeats 3200000 in
theorem roA_all (B0 B o x c : Nat) (b : List UInt8) (d : Nat) (w : World) (hd : d ≤ 8) (g0 : w.cell? ⟨B, o, none⟩ = some (.int .u8 (x : Int))) (hx : x < 256) (hx0 : ((x : Int) == 0) = false) (ha : bits .and .i64 (x : Int) 31 = (x : Int) % 32) (hx1 : ¬ (x : Int) % 32 = 31)
    (hB0 : B < B0) (hle : B0 ≤ w.heap.size) (hc : ∀ k, k < b.length → w.cell? ⟨B, o + k, none⟩ = some (.int .u8 ((b.getD k 0).toNat : Int))) (h1 : b.length ≤ c) (h2 : c ≤ 9223372036854775807) (ht : tagR b = (x, 1, 0)) (hj : 1 ≤ b.length) (hvv : validB (x : Int) = true)
    (HW : ∀ (k n : Nat) (v : Value) (W : World), 2 ≤ k → k + n ≤ b.length → SL W W.heap.size v ((b.drop k).take n) → Calls Tryd.prog 113 #[.int .i64 x, v, .int .i64 d] W fun e w' => WvP W (valR d x ((b.drop k).take n)) e w') :
    Calls Tryd.prog 98 #[.slice (some ⟨B, o, none⟩) b.length c, .int .i64 d] w fun e w' => RoQ w B0 b d e w' := by
  have hB : B < w.heap.size := Nat.lt_of_lt_of_le hB0 hle
  have hne : b ≠ [] := by intro e; rw [e] at hj; simp at hj
  have herr : ∀ (er : Int) (e : Ending) (w' : World), er ≠ 0 → readL d b = (er, []) → (e = .returned (.tuple #[.agg #[.int .i64 0, .slice none 0 0, .slice none 0 0], .slice none 0 0, .int .i64 er]) ∧ Below w.heap.size w w') → RoQ w B0 b d e w' := fun er e w' h0 h1 h2 => ⟨h2.2, .inl ⟨er, h0, h1, h2.1⟩⟩
  have hwv : ∀ (k n : Nat) (A : Option Addr) (c : Nat) (W : World), Below w.heap.size w W → 2 ≤ k → k + n ≤ b.length → (0 < n → A = some ⟨B, o + k, none⟩) → n ≤ c → c ≤ 9223372036854775807 →
      Calls Tryd.prog 113 #[.int .i64 x, .slice A n c, .int .i64 d] W fun e w' => WvP W (valR d x ((b.drop k).take n)) e w' := fun k n A c W hb hk hkn hA h1 h2 =>
    HW k n _ W hk hkn ((sub_sl hB hc hb k hkn hA h1 (by unfold maxLen; omega)).more hb.size)
  have hbj : (b.drop 1).length = b.length - 1 := List.length_drop
  have hll := len_eq' (b.drop 1)
  rw [hbj, byN_drop, byN_drop, byN_drop] at hll
  by_cases c0 : b.length - 1 < 1
  · rw [if_pos c0] at hll
    have hr := readL_err hne (hdR_len hd ht (by decide) hll) (by decide)
    have hL : b.length = 0 + 1 := by omega
    rw [hL] at h1 ⊢
    obtain ⟨q, rfl⟩ : ∃ q, c = q + 1 := ⟨c - 1, by omega⟩
    by_cases hq : q = 0
    · subst hq
      exact (roA_L0_z B o x d w hd g0 hx hx0 ha hx1).mono fun e w' h => herr 5 e w' (by decide) hr h
    · exact (roA_L0_p B o x q d w hd g0 hx hx0 ha hx1 hq h2).mono fun e w' h => herr 5 e w' (by decide) hr h
  rw [if_neg c0] at hll
  have gz := hc 1 (by omega)
  have hz := byN_lt b 1
  have gy1 := hc 2
  have gy2 := hc 3
  have hy1 := byN_lt b 2
  have hy2 := byN_lt b 3
  change w.cell? ⟨B, o + 1, none⟩ = some (.int .u8 (byN b 1 : Int)) at gz
  obtain ⟨z, hzz⟩ : ∃ z, z = byN b 1 := ⟨_, rfl⟩
  rw [show 1 + 0 = 1 from rfl, show 1 + 1 = 2 from rfl, show 1 + 2 = 3 from rfl, ← hzz] at hll
  rw [← hzz] at gz hz
  obtain ⟨m, hm⟩ : ∃ m, b.length = m + 1 + 1 := ⟨b.length - 2, by omega⟩
  obtain ⟨q, rfl⟩ : ∃ q, c = q + 1 + 1 := ⟨c - 2, by omega⟩
  have hmq : m ≤ q := by omega
  by_cases c1 : z < 128
  · rw [if_pos c1] at hll
    have hz1 : (z : Int) < 128 := by omega
    by_cases c2 : b.length - (1 + 1) < z
    · have hr := readL_err hne (hdR_short hd ht hll c2) (by decide)
      rw [hm]
      by_cases hq : q = 0
      · subst hq
        obtain rfl : m = 0 := by omega
        exact (roA_L1Vs_z B o x z d w hd g0 hx hx0 ha hx1 gz hz hz1 (by omega)).mono fun e w' h => herr 5 e w' (by decide) hr h
      · exact (roA_L1Vs_p B o x z m q d w hd g0 hx hx0 ha hx1 gz hz hmq h2 hq hz1 (by omega)).mono fun e w' h => herr 5 e w' (by decide) hr h
    · have hg := hdR_good hd ht hll c2
      by_cases c3 : (valR d x ((b.drop (1 + 1)).take z)).1 = 0
      · have hr := readL_ok hne hg c3
        have HW1 := fun A c W hb hA h1 h2 => hwv (1 + 1) z A c W hb (by omega) (by omega) hA h1 h2
        unfold WvP at HW1
        rw [c3] at HW1
        generalize valR d x ((b.drop (1 + 1)).take z) = R at *
        rw [hm]
        by_cases hq : q = 0
        · subst hq
          obtain rfl : m = 0 := by omega
          exact (roA_L1Vo_z B o x z d R.2 w hd g0 hx hx0 ha hx1 gz hz hz1 (by omega) (by omega) HW1).mono fun e w' h => RoP.q hB0 hle hc _ _ h (by omega) (by omega) (by omega) (by omega) hr
        · exact (roA_L1Vo_p B o x z m q d R.2 w hd g0 hx hx0 ha hx1 gz hz hmq h2 hq hz1 (by omega) (by omega) HW1).mono fun e w' h => RoP.q hB0 hle hc _ _ h (by omega) (by omega) (by omega) (by omega) hr
      · have hr := readL_val hne hg rfl c3
        have HW1 : ∀ A c W, Below w.heap.size w W → (0 < z → A = some ⟨B, o + (1 + 1), none⟩) → z ≤ c → c ≤ 9223372036854775807 → Calls Tryd.prog 113 #[.int .i64 x, .slice A z c, .int .i64 d] W fun e w' => ∃ A1 c1 A2 c2, e = .returned (.tuple #[.agg #[.int .i64 0, .slice A1 0 c1, .slice A2 0 c2], .int .i64 (valR d x ((b.drop (1 + 1)).take z)).1]) ∧ Below W.heap.size W w' :=
          fun A c W hb hA h1 h2 => (hwv (1 + 1) z A c W hb (by omega) (by omega) hA h1 h2).mono fun e w' h => by
            obtain ⟨A1, c1, A2, c2, he, _, _, hbl⟩ := h
            rw [valR_bad c3] at he
            exact ⟨A1, c1, A2, c2, he, hbl⟩
        have her : ((valR d x ((b.drop (1 + 1)).take z)).1 == 0) = false := by simpa using c3
        generalize (valR d x ((b.drop (1 + 1)).take z)).1 = er at *
        rw [hm]
        by_cases hq : q = 0
        · subst hq
          obtain rfl : m = 0 := by omega
          exact (roA_L1Ve_z B o x z d er w hd g0 hx hx0 ha hx1 gz hz hz1 (by omega) (by omega) her HW1).mono fun e w' h => herr er e w' c3 hr h
        · exact (roA_L1Ve_p B o x z m q d er w hd g0 hx hx0 ha hx1 gz hz hmq h2 hq hz1 (by omega) (by omega) her HW1).mono fun e w' h => herr er e w' c3 hr h
  rw [if_neg c1] at hll
  have hz1 : ¬ (z : Int) < 128 := by omega
  by_cases cw : z = 129 ∨ z = 130
  · obtain ⟨wd, hwd⟩ : ∃ wd, z = 128 + wd := ⟨z - 128, by omega⟩
    have hz2 : (z : Int) - 128 = (wd : Int) := by omega
    have hw1 : ¬ (wd : Int) < 1 := by omega
    have hw2 : ¬ 2 < (wd : Int) := by omega
    by_cases cs : m < wd
    · have hll2 : lenR (b.drop 1) = (0, 0, 5) := by
        rcases cw with cw | cw
        · rw [hll, if_pos cw, if_pos (by omega)]
        · rw [hll, if_neg (by omega), if_neg (by omega), if_pos (by omega)]
      have hr := readL_err hne (hdR_len hd ht (by decide) hll2) (by decide)
      rw [hm]
      by_cases hq : q = 0
      · subst hq
        obtain rfl : m = 0 := by omega
        exact (roA_short_z B o x z wd d w hd g0 hx hx0 ha hx1 gz hz hz1 hz2 hw1 hw2 (by omega)).mono fun e w' h => herr 5 e w' (by decide) hr h
      · exact (roA_short_p B o x z m q wd d w hd g0 hx hx0 ha hx1 gz hz hmq h2 hq hz1 hz2 hw1 hw2 (by omega)).mono fun e w' h => herr 5 e w' (by decide) hr h
    · have hwl : 1 ≤ wd ∧ wd ≤ 2 := by omega
      -- the number that the bytes tell
      obtain ⟨n, hn, hG, hll3⟩ : ∃ n : Nat, n ≤ 65535 ∧ (getN ((b.drop 2).take wd) = (n : Int) ∧ getE ((b.drop 2).take wd) = 0) ∧ lenR (b.drop 1) = if (lenF n).length = wd + 1 then (n, wd + 1, 0) else (0, 0, 4) := by
        rcases cw with cw | cw
        · obtain rfl : wd = 1 := by omega
          refine ⟨byN b 2, by omega, ?_, ?_⟩
          · rw [take_one b 2 (by omega)]
            exact ⟨getN_one _, getE_one _⟩
          · rw [hll, if_pos cw, if_neg (by omega)]
            by_cases cy : byN b 2 < 128
            · rw [if_pos cy, if_neg (by rw [lenF_len0 _ cy]; decide)]
            · rw [if_neg cy, if_pos (lenF_len1 _ (by omega) (by omega))]
        · obtain rfl : wd = 2 := by omega
          refine ⟨256 * byN b 2 + byN b 3, by omega, ?_, ?_⟩
          · rw [take_two b 2 (by omega)]
            exact ⟨getN_two' _ _, getE_two' _ _⟩
          · rw [hll, if_neg (by omega), if_neg (by omega), if_neg (by omega)]
            by_cases cy : 256 * byN b 2 + byN b 3 < 256
            · rw [if_pos cy, if_neg]
              by_cases cz : 256 * byN b 2 + byN b 3 < 128
              · rw [lenF_len0 _ cz]; decide
              · rw [lenF_len1 _ (by omega) cy]; decide
            · rw [if_neg cy, if_pos (lenF_len2 _ (by omega))]
      have HG0 : ∀ W, Below w.heap.size w W → Calls Tryd.prog 112 #[.slice (some ⟨B, o + 2, none⟩) wd q] W fun e w' => e = .returned (.tuple #[.int .i64 n, .int .i64 0]) ∧ W = w' := fun W hb => by
        have := pget_any ((b.drop 2).take wd) (.slice (some ⟨B, o + 2, none⟩) wd q) W w.heap.size (sub_sl hB hc hb 2 (by omega) (fun _ => rfl) (by omega) (by unfold maxLen; omega))
        rw [hG.1, hG.2] at this
        exact this
      have HF : ∀ W, Calls Tryd.prog 93 #[.int .i64 n] W fun e w' => ∃ A c, e = .returned (.slice A (lenF n).length c) ∧ Below W.heap.size W w' := fun W => (lenF_any n W (by omega)).mono fun e w' h => by
        obtain ⟨v, rfl, ⟨A, c, rfl, _⟩, hb⟩ := h
        exact ⟨A, c, rfl, hb⟩
      by_cases cf : (lenF n).length = wd + 1
      · rw [if_pos cf] at hll3
        rw [cf] at HF
        by_cases c2 : b.length - (1 + (wd + 1)) < n
        · have hr := readL_err hne (hdR_short hd ht hll3 c2) (by decide)
          rw [hm]
          by_cases hq : q = wd
          · subst hq
            obtain rfl : m = q := by omega
            exact (roA_wideVs_z B o x z m n d w hd g0 hx hx0 ha hx1 gz hz hz1 hz2 hw1 hw2 h2 HG0 HF (by omega)).mono fun e w' h => herr 5 e w' (by decide) hr h
          · exact (roA_wideVs_p B o x z m q wd n d w hd g0 hx hx0 ha hx1 gz hz hmq h2 hz1 hz2 hw1 hw2 (by omega) (by omega) hq HG0 HF (by omega)).mono fun e w' h => herr 5 e w' (by decide) hr h
        · have hg := hdR_good hd ht hll3 c2
          have hn1 : 1 ≤ n := by
            by_cases c : n < 128
            · rw [lenF_len0 n c] at cf; omega
            · omega
          have hq : ¬ q = wd := by omega
          by_cases c3 : (valR d x ((b.drop (1 + (wd + 1))).take n)).1 = 0
          · have hr := readL_ok hne hg c3
            have HW1 : ∀ A c W, Below w.heap.size w W → (0 < n → A = some ⟨B, o + 2 + wd, none⟩) → n ≤ c → c ≤ 9223372036854775807 → Calls Tryd.prog 113 #[.int .i64 x, .slice A n c, .int .i64 d] W fun e w' => WvP W (valR d x ((b.drop (1 + (wd + 1))).take n)) e w' :=
              fun A c W hb hA h1 h2 => hwv (1 + (wd + 1)) n A c W hb (by omega) (by omega) (fun hp => by rw [hA hp, show o + 2 + wd = o + (1 + (wd + 1)) by omega]) h1 h2
            unfold WvP at HW1
            rw [c3] at HW1
            generalize valR d x ((b.drop (1 + (wd + 1))).take n) = R at *
            rw [hm]
            exact (roA_wideVo_p B o x z m q wd n d R.2 w hd g0 hx hx0 ha hx1 gz hz hmq h2 hz1 hz2 hw1 hw2 (by omega) (by omega) hq HG0 HF (by omega) (by omega) HW1).mono fun e w' h => RoP.q hB0 hle hc _ _ h (by omega) (by omega) (by omega) (by omega) hr
          · have hr := readL_val hne hg rfl c3
            have HW1 : ∀ A c W, Below w.heap.size w W → (0 < n → A = some ⟨B, o + 2 + wd, none⟩) → n ≤ c → c ≤ 9223372036854775807 → Calls Tryd.prog 113 #[.int .i64 x, .slice A n c, .int .i64 d] W fun e w' => ∃ A1 c1 A2 c2, e = .returned (.tuple #[.agg #[.int .i64 0, .slice A1 0 c1, .slice A2 0 c2], .int .i64 (valR d x ((b.drop (1 + (wd + 1))).take n)).1]) ∧ Below W.heap.size W w' :=
              fun A c W hb hA h1 h2 => (hwv (1 + (wd + 1)) n A c W hb (by omega) (by omega) (fun hp => by rw [hA hp, show o + 2 + wd = o + (1 + (wd + 1)) by omega]) h1 h2).mono fun e w' h => by
                obtain ⟨A1, c1, A2, c2, he, _, _, hbl⟩ := h
                rw [valR_bad c3] at he
                exact ⟨A1, c1, A2, c2, he, hbl⟩
            have her : ((valR d x ((b.drop (1 + (wd + 1))).take n)).1 == 0) = false := by simpa using c3
            generalize (valR d x ((b.drop (1 + (wd + 1))).take n)).1 = er at *
            rw [hm]
            exact (roA_wideVe_p B o x z m q wd n d er w hd g0 hx hx0 ha hx1 gz hz hmq h2 hz1 hz2 hw1 hw2 (by omega) (by omega) hq HG0 HF (by omega) (by omega) her HW1).mono fun e w' h => herr er e w' c3 hr h
      · rw [if_neg cf] at hll3
        have hr := readL_err hne (hdR_len hd ht (by decide) hll3) (by decide)
        rw [hm]
        generalize (lenF n).length = F at *
        by_cases hq : q = wd
        · subst hq
          obtain rfl : m = q := by omega
          exact (roA_form_z B o x z m n F d w hd g0 hx hx0 ha hx1 gz hz hz1 hz2 hw1 hw2 h2 HG0 (by omega) HF).mono fun e w' h => herr 4 e w' (by decide) hr h
        · exact (roA_form_p B o x z m q wd n F d w hd g0 hx hx0 ha hx1 gz hz hmq h2 hz1 hz2 hw1 hw2 (by omega) (by omega) hq HG0 (by omega) HF).mono fun e w' h => herr 4 e w' (by decide) hr h
  · have hll2 : lenR (b.drop 1) = (0, 0, 4) := by rw [hll, if_neg (by omega), if_pos (by omega)]
    have hr := readL_err hne (hdR_len hd ht (by decide) hll2) (by decide)
    have hbad : (z : Int) - 128 < 1 ∨ (1 ≤ (z : Int) - 128 ∧ 2 < (z : Int) - 128) := by omega
    rw [hm]
    by_cases hq : q = 0
    · subst hq
      obtain rfl : m = 0 := by omega
      exact (roA_bad_z B o x z d w hd g0 hx hx0 ha hx1 gz hz hz1 hbad).mono fun e w' h => herr 4 e w' (by decide) hr h
    · exact (roA_bad_p B o x z m q d w hd g0 hx hx0 ha hx1 gz hz hmq h2 hq hz1 hbad).mono fun e w' h => herr 4 e w' (by decide) hr h

set_option maxHeartbeats 3200000 in
theorem roB_all (B0 B o x y t c : Nat) (b : List UInt8) (d : Nat) (w : World) (hd : d ≤ 8) (g0 : w.cell? ⟨B, o, none⟩ = some (.int .u8 (x : Int))) (hx : x < 256) (hx0 : ((x : Int) == 0) = false) (ha : bits .and .i64 (x : Int) 31 = (x : Int) % 32) (hx1 : (x : Int) % 32 = 31) (g1 : w.cell? ⟨B, o + 1, none⟩ = some (.int .u8 (y : Int))) (hy : y < 256) (hto : bits .or .i64 ((x : Int) * 256) (y : Int) = (t : Int)) (hvt : validB (t : Int) = true)
    (hB0 : B < B0) (hle : B0 ≤ w.heap.size) (hc : ∀ k, k < b.length → w.cell? ⟨B, o + k, none⟩ = some (.int .u8 ((b.getD k 0).toNat : Int))) (h1 : b.length ≤ c) (h2 : c ≤ 9223372036854775807) (ht : tagR b = (t, 2, 0)) (hj : 2 ≤ b.length) (hvv : validB (t : Int) = true)
    (HW : ∀ (k n : Nat) (v : Value) (W : World), 2 ≤ k → k + n ≤ b.length → SL W W.heap.size v ((b.drop k).take n) → Calls Tryd.prog 113 #[.int .i64 t, v, .int .i64 d] W fun e w' => WvP W (valR d t ((b.drop k).take n)) e w') :
    Calls Tryd.prog 98 #[.slice (some ⟨B, o, none⟩) b.length c, .int .i64 d] w fun e w' => RoQ w B0 b d e w' := by
  have hB : B < w.heap.size := Nat.lt_of_lt_of_le hB0 hle
  have hne : b ≠ [] := by intro e; rw [e] at hj; simp at hj
  have herr : ∀ (er : Int) (e : Ending) (w' : World), er ≠ 0 → readL d b = (er, []) → (e = .returned (.tuple #[.agg #[.int .i64 0, .slice none 0 0, .slice none 0 0], .slice none 0 0, .int .i64 er]) ∧ Below w.heap.size w w') → RoQ w B0 b d e w' := fun er e w' h0 h1 h2 => ⟨h2.2, .inl ⟨er, h0, h1, h2.1⟩⟩
  have hwv : ∀ (k n : Nat) (A : Option Addr) (c : Nat) (W : World), Below w.heap.size w W → 2 ≤ k → k + n ≤ b.length → (0 < n → A = some ⟨B, o + k, none⟩) → n ≤ c → c ≤ 9223372036854775807 →
      Calls Tryd.prog 113 #[.int .i64 t, .slice A n c, .int .i64 d] W fun e w' => WvP W (valR d t ((b.drop k).take n)) e w' := fun k n A c W hb hk hkn hA h1 h2 =>
    HW k n _ W hk hkn ((sub_sl hB hc hb k hkn hA h1 (by unfold maxLen; omega)).more hb.size)
  have hbj : (b.drop 2).length = b.length - 2 := List.length_drop
  have hll := len_eq' (b.drop 2)
  rw [hbj, byN_drop, byN_drop, byN_drop] at hll
  by_cases c0 : b.length - 2 < 1
  · rw [if_pos c0] at hll
    have hr := readL_err hne (hdR_len hd ht (by decide) hll) (by decide)
    have hL : b.length = 0 + 1 + 1 := by omega
    rw [hL] at h1 ⊢
    obtain ⟨q, rfl⟩ : ∃ q, c = q + 1 + 1 := ⟨c - 2, by omega⟩
    by_cases hq : q = 0
    · subst hq
      exact (roB_L0_z B o x y t d w hd g0 hx hx0 ha hx1 g1 hy hto hvt).mono fun e w' h => herr 5 e w' (by decide) hr h
    · exact (roB_L0_p B o x y t q d w hd g0 hx hx0 ha hx1 g1 hy hto hvt hq h2).mono fun e w' h => herr 5 e w' (by decide) hr h
  rw [if_neg c0] at hll
  have gz := hc 2 (by omega)
  have hz := byN_lt b 2
  have gy1 := hc 3
  have gy2 := hc 4
  have hy1 := byN_lt b 3
  have hy2 := byN_lt b 4
  change w.cell? ⟨B, o + 1 + 1, none⟩ = some (.int .u8 (byN b 2 : Int)) at gz
  obtain ⟨z, hzz⟩ : ∃ z, z = byN b 2 := ⟨_, rfl⟩
  rw [show 2 + 0 = 2 from rfl, show 2 + 1 = 3 from rfl, show 2 + 2 = 4 from rfl, ← hzz] at hll
  rw [← hzz] at gz hz
  obtain ⟨m, hm⟩ : ∃ m, b.length = m + 1 + 1 + 1 := ⟨b.length - 3, by omega⟩
  obtain ⟨q, rfl⟩ : ∃ q, c = q + 1 + 1 + 1 := ⟨c - 3, by omega⟩
  have hmq : m ≤ q := by omega
  by_cases c1 : z < 128
  · rw [if_pos c1] at hll
    have hz1 : (z : Int) < 128 := by omega
    by_cases c2 : b.length - (2 + 1) < z
    · have hr := readL_err hne (hdR_short hd ht hll c2) (by decide)
      rw [hm]
      by_cases hq : q = 0
      · subst hq
        obtain rfl : m = 0 := by omega
        exact (roB_L1Vs_z B o x y t z d w hd g0 hx hx0 ha hx1 g1 hy hto hvt gz hz hz1 (by omega)).mono fun e w' h => herr 5 e w' (by decide) hr h
      · exact (roB_L1Vs_p B o x y t z m q d w hd g0 hx hx0 ha hx1 g1 hy hto hvt gz hz hmq h2 hq hz1 (by omega)).mono fun e w' h => herr 5 e w' (by decide) hr h
    · have hg := hdR_good hd ht hll c2
      by_cases c3 : (valR d t ((b.drop (2 + 1)).take z)).1 = 0
      · have hr := readL_ok hne hg c3
        have HW1 := fun A c W hb hA h1 h2 => hwv (2 + 1) z A c W hb (by omega) (by omega) hA h1 h2
        unfold WvP at HW1
        rw [c3] at HW1
        generalize valR d t ((b.drop (2 + 1)).take z) = R at *
        rw [hm]
        by_cases hq : q = 0
        · subst hq
          obtain rfl : m = 0 := by omega
          exact (roB_L1Vo_z B o x y t z d R.2 w hd g0 hx hx0 ha hx1 g1 hy hto hvt gz hz hz1 (by omega) (by omega) HW1).mono fun e w' h => RoP.q hB0 hle hc _ _ h (by omega) (by omega) (by omega) (by omega) hr
        · exact (roB_L1Vo_p B o x y t z m q d R.2 w hd g0 hx hx0 ha hx1 g1 hy hto hvt gz hz hmq h2 hq hz1 (by omega) (by omega) HW1).mono fun e w' h => RoP.q hB0 hle hc _ _ h (by omega) (by omega) (by omega) (by omega) hr
      · have hr := readL_val hne hg rfl c3
        have HW1 : ∀ A c W, Below w.heap.size w W → (0 < z → A = some ⟨B, o + (2 + 1), none⟩) → z ≤ c → c ≤ 9223372036854775807 → Calls Tryd.prog 113 #[.int .i64 t, .slice A z c, .int .i64 d] W fun e w' => ∃ A1 c1 A2 c2, e = .returned (.tuple #[.agg #[.int .i64 0, .slice A1 0 c1, .slice A2 0 c2], .int .i64 (valR d t ((b.drop (2 + 1)).take z)).1]) ∧ Below W.heap.size W w' :=
          fun A c W hb hA h1 h2 => (hwv (2 + 1) z A c W hb (by omega) (by omega) hA h1 h2).mono fun e w' h => by
            obtain ⟨A1, c1, A2, c2, he, _, _, hbl⟩ := h
            rw [valR_bad c3] at he
            exact ⟨A1, c1, A2, c2, he, hbl⟩
        have her : ((valR d t ((b.drop (2 + 1)).take z)).1 == 0) = false := by simpa using c3
        generalize (valR d t ((b.drop (2 + 1)).take z)).1 = er at *
        rw [hm]
        by_cases hq : q = 0
        · subst hq
          obtain rfl : m = 0 := by omega
          exact (roB_L1Ve_z B o x y t z d er w hd g0 hx hx0 ha hx1 g1 hy hto hvt gz hz hz1 (by omega) (by omega) her HW1).mono fun e w' h => herr er e w' c3 hr h
        · exact (roB_L1Ve_p B o x y t z m q d er w hd g0 hx hx0 ha hx1 g1 hy hto hvt gz hz hmq h2 hq hz1 (by omega) (by omega) her HW1).mono fun e w' h => herr er e w' c3 hr h
  rw [if_neg c1] at hll
  have hz1 : ¬ (z : Int) < 128 := by omega
  by_cases cw : z = 129 ∨ z = 130
  · obtain ⟨wd, hwd⟩ : ∃ wd, z = 128 + wd := ⟨z - 128, by omega⟩
    have hz2 : (z : Int) - 128 = (wd : Int) := by omega
    have hw1 : ¬ (wd : Int) < 1 := by omega
    have hw2 : ¬ 2 < (wd : Int) := by omega
    by_cases cs : m < wd
    · have hll2 : lenR (b.drop 2) = (0, 0, 5) := by
        rcases cw with cw | cw
        · rw [hll, if_pos cw, if_pos (by omega)]
        · rw [hll, if_neg (by omega), if_neg (by omega), if_pos (by omega)]
      have hr := readL_err hne (hdR_len hd ht (by decide) hll2) (by decide)
      rw [hm]
      by_cases hq : q = 0
      · subst hq
        obtain rfl : m = 0 := by omega
        exact (roB_short_z B o x y t z wd d w hd g0 hx hx0 ha hx1 g1 hy hto hvt gz hz hz1 hz2 hw1 hw2 (by omega)).mono fun e w' h => herr 5 e w' (by decide) hr h
      · exact (roB_short_p B o x y t z m q wd d w hd g0 hx hx0 ha hx1 g1 hy hto hvt gz hz hmq h2 hq hz1 hz2 hw1 hw2 (by omega)).mono fun e w' h => herr 5 e w' (by decide) hr h
    · have hwl : 1 ≤ wd ∧ wd ≤ 2 := by omega
      -- the number that the bytes tell
      obtain ⟨n, hn, hG, hll3⟩ : ∃ n : Nat, n ≤ 65535 ∧ (getN ((b.drop 3).take wd) = (n : Int) ∧ getE ((b.drop 3).take wd) = 0) ∧ lenR (b.drop 2) = if (lenF n).length = wd + 1 then (n, wd + 1, 0) else (0, 0, 4) := by
        rcases cw with cw | cw
        · obtain rfl : wd = 1 := by omega
          refine ⟨byN b 3, by omega, ?_, ?_⟩
          · rw [take_one b 3 (by omega)]
            exact ⟨getN_one _, getE_one _⟩
          · rw [hll, if_pos cw, if_neg (by omega)]
            by_cases cy : byN b 3 < 128
            · rw [if_pos cy, if_neg (by rw [lenF_len0 _ cy]; decide)]
            · rw [if_neg cy, if_pos (lenF_len1 _ (by omega) (by omega))]
        · obtain rfl : wd = 2 := by omega
          refine ⟨256 * byN b 3 + byN b 4, by omega, ?_, ?_⟩
          · rw [take_two b 3 (by omega)]
            exact ⟨getN_two' _ _, getE_two' _ _⟩
          · rw [hll, if_neg (by omega), if_neg (by omega), if_neg (by omega)]
            by_cases cy : 256 * byN b 3 + byN b 4 < 256
            · rw [if_pos cy, if_neg]
              by_cases cz : 256 * byN b 3 + byN b 4 < 128
              · rw [lenF_len0 _ cz]; decide
              · rw [lenF_len1 _ (by omega) cy]; decide
            · rw [if_neg cy, if_pos (lenF_len2 _ (by omega))]
      have HG0 : ∀ W, Below w.heap.size w W → Calls Tryd.prog 112 #[.slice (some ⟨B, o + 3, none⟩) wd q] W fun e w' => e = .returned (.tuple #[.int .i64 n, .int .i64 0]) ∧ W = w' := fun W hb => by
        have := pget_any ((b.drop 3).take wd) (.slice (some ⟨B, o + 3, none⟩) wd q) W w.heap.size (sub_sl hB hc hb 3 (by omega) (fun _ => rfl) (by omega) (by unfold maxLen; omega))
        rw [hG.1, hG.2] at this
        exact this
      have HF : ∀ W, Calls Tryd.prog 93 #[.int .i64 n] W fun e w' => ∃ A c, e = .returned (.slice A (lenF n).length c) ∧ Below W.heap.size W w' := fun W => (lenF_any n W (by omega)).mono fun e w' h => by
        obtain ⟨v, rfl, ⟨A, c, rfl, _⟩, hb⟩ := h
        exact ⟨A, c, rfl, hb⟩
      by_cases cf : (lenF n).length = wd + 1
      · rw [if_pos cf] at hll3
        rw [cf] at HF
        by_cases c2 : b.length - (2 + (wd + 1)) < n
        · have hr := readL_err hne (hdR_short hd ht hll3 c2) (by decide)
          rw [hm]
          by_cases hq : q = wd
          · subst hq
            obtain rfl : m = q := by omega
            exact (roB_wideVs_z B o x y t z m n d w hd g0 hx hx0 ha hx1 g1 hy hto hvt gz hz hz1 hz2 hw1 hw2 h2 HG0 HF (by omega)).mono fun e w' h => herr 5 e w' (by decide) hr h
          · exact (roB_wideVs_p B o x y t z m q wd n d w hd g0 hx hx0 ha hx1 g1 hy hto hvt gz hz hmq h2 hz1 hz2 hw1 hw2 (by omega) (by omega) hq HG0 HF (by omega)).mono fun e w' h => herr 5 e w' (by decide) hr h
        · have hg := hdR_good hd ht hll3 c2
          have hn1 : 1 ≤ n := by
            by_cases c : n < 128
            · rw [lenF_len0 n c] at cf; omega
            · omega
          have hq : ¬ q = wd := by omega
          by_cases c3 : (valR d t ((b.drop (2 + (wd + 1))).take n)).1 = 0
          · have hr := readL_ok hne hg c3
            have HW1 : ∀ A c W, Below w.heap.size w W → (0 < n → A = some ⟨B, o + 3 + wd, none⟩) → n ≤ c → c ≤ 9223372036854775807 → Calls Tryd.prog 113 #[.int .i64 t, .slice A n c, .int .i64 d] W fun e w' => WvP W (valR d t ((b.drop (2 + (wd + 1))).take n)) e w' :=
              fun A c W hb hA h1 h2 => hwv (2 + (wd + 1)) n A c W hb (by omega) (by omega) (fun hp => by rw [hA hp, show o + 3 + wd = o + (2 + (wd + 1)) by omega]) h1 h2
            unfold WvP at HW1
            rw [c3] at HW1
            generalize valR d t ((b.drop (2 + (wd + 1))).take n) = R at *
            rw [hm]
            exact (roB_wideVo_p B o x y t z m q wd n d R.2 w hd g0 hx hx0 ha hx1 g1 hy hto hvt gz hz hmq h2 hz1 hz2 hw1 hw2 (by omega) (by omega) hq HG0 HF (by omega) (by omega) HW1).mono fun e w' h => RoP.q hB0 hle hc _ _ h (by omega) (by omega) (by omega) (by omega) hr
          · have hr := readL_val hne hg rfl c3
            have HW1 : ∀ A c W, Below w.heap.size w W → (0 < n → A = some ⟨B, o + 3 + wd, none⟩) → n ≤ c → c ≤ 9223372036854775807 → Calls Tryd.prog 113 #[.int .i64 t, .slice A n c, .int .i64 d] W fun e w' => ∃ A1 c1 A2 c2, e = .returned (.tuple #[.agg #[.int .i64 0, .slice A1 0 c1, .slice A2 0 c2], .int .i64 (valR d t ((b.drop (2 + (wd + 1))).take n)).1]) ∧ Below W.heap.size W w' :=
              fun A c W hb hA h1 h2 => (hwv (2 + (wd + 1)) n A c W hb (by omega) (by omega) (fun hp => by rw [hA hp, show o + 3 + wd = o + (2 + (wd + 1)) by omega]) h1 h2).mono fun e w' h => by
                obtain ⟨A1, c1, A2, c2, he, _, _, hbl⟩ := h
                rw [valR_bad c3] at he
                exact ⟨A1, c1, A2, c2, he, hbl⟩
            have her : ((valR d t ((b.drop (2 + (wd + 1))).take n)).1 == 0) = false := by simpa using c3
            generalize (valR d t ((b.drop (2 + (wd + 1))).take n)).1 = er at *
            rw [hm]
            exact (roB_wideVe_p B o x y t z m q wd n d er w hd g0 hx hx0 ha hx1 g1 hy hto hvt gz hz hmq h2 hz1 hz2 hw1 hw2 (by omega) (by omega) hq HG0 HF (by omega) (by omega) her HW1).mono fun e w' h => herr er e w' c3 hr h
      · rw [if_neg cf] at hll3
        have hr := readL_err hne (hdR_len hd ht (by decide) hll3) (by decide)
        rw [hm]
        generalize (lenF n).length = F at *
        by_cases hq : q = wd
        · subst hq
          obtain rfl : m = q := by omega
          exact (roB_form_z B o x y t z m n F d w hd g0 hx hx0 ha hx1 g1 hy hto hvt gz hz hz1 hz2 hw1 hw2 h2 HG0 (by omega) HF).mono fun e w' h => herr 4 e w' (by decide) hr h
        · exact (roB_form_p B o x y t z m q wd n F d w hd g0 hx hx0 ha hx1 g1 hy hto hvt gz hz hmq h2 hz1 hz2 hw1 hw2 (by omega) (by omega) hq HG0 (by omega) HF).mono fun e w' h => herr 4 e w' (by decide) hr h
  · have hll2 : lenR (b.drop 2) = (0, 0, 4) := by rw [hll, if_neg (by omega), if_pos (by omega)]
    have hr := readL_err hne (hdR_len hd ht (by decide) hll2) (by decide)
    have hbad : (z : Int) - 128 < 1 ∨ (1 ≤ (z : Int) - 128 ∧ 2 < (z : Int) - 128) := by omega
    rw [hm]
    by_cases hq : q = 0
    · subst hq
      obtain rfl : m = 0 := by omega
      exact (roB_bad_z B o x y t z d w hd g0 hx hx0 ha hx1 g1 hy hto hvt gz hz hz1 hbad).mono fun e w' h => herr 4 e w' (by decide) hr h
    · exact (roB_bad_p B o x y t z m q d w hd g0 hx hx0 ha hx1 g1 hy hto hvt gz hz hmq h2 hq hz1 hbad).mono fun e w' h => herr 4 e w' (by decide) hr h

theorem or_i64 (x y : Nat) (hx : x < 256) (hy : y < 256) : bits .or .i64 ((x : Int) * 256) (y : Int) = ((256 * x + y : Nat) : Int) := by
  have key : ∀ z : Nat, z < 9223372036854775808 → (BitVec.ofInt 64 (z : Int)).toNat = z := fun z hz => by
    rw [BitVec.ofInt_natCast, BitVec.toNat_ofNat]; exact Nat.mod_eq_of_lt (by omega)
  show IntKind.i64.wrap ((BitVec.ofInt 64 ((x : Int) * 256) ||| BitVec.ofInt 64 (y : Int)).toNat : Int) = _
  rw [show (x : Int) * 256 = ((256 * x : Nat) : Int) by omega, BitVec.toNat_or, key _ (by omega), key _ (by omega), IntKind.wrap_i64]
  have h : 2 ^ 8 * x + y = 2 ^ 8 * x ||| y := Nat.two_pow_add_eq_or_of_lt (i := 8) (b := y) (by omega) x
  rw [show 2 ^ 8 * x = 256 * x by omega] at h
  rw [← h]
  omega
theorem valid_one (x : Nat) (h0 : ¬ x = 0) (hx : x < 256) (h1 : ¬ x % 32 = 31) : validB (x : Int) = true := by
  unfold validB
  rw [if_neg (by omega), if_pos (by omega)]
  simp only [bne_iff_ne, ne_eq]
  omega
theorem valid_two (x y : Nat) (hx : x < 256) (hy : y < 256) (h1 : x % 32 = 31) : validB ((256 * x + y : Nat) : Int) = (decide (31 ≤ y) && decide (y ≤ 127)) := by
  unfold validB
  rw [if_neg (by omega), if_neg (by omega)]
  have e1 : ((256 * x + y : Nat) : Int) / 256 % 32 = 31 := by omega
  have e2 : ((256 * x + y : Nat) : Int) % 256 = (y : Int) := by omega
  rw [e1, e2]
  have e4 : decide ((y : Int) ≤ 127) = decide (y ≤ 127) := by
    by_cases h : y ≤ 127
    · rw [decide_eq_true h, decide_eq_true (by omega)]
    · rw [decide_eq_false h, decide_eq_false (by omega)]
  rw [e4]
  by_cases h : 31 ≤ y
  · rw [decide_eq_true h, decide_eq_true (show (31 : Int) ≤ y by omega)]; rfl
  · rw [decide_eq_false h, decide_eq_false (show ¬ (31 : Int) ≤ y by omega)]; rfl
theorem hdR_tag {d : Nat} {b : List UInt8} (hd : d ≤ 8) {er : Int} (her : er ≠ 0) (ht : tagR b = (0, 0, er)) : hdR d b = (0, 0, 0, er) := by
  unfold hdR
  rw [ht, if_neg (by omega), if_pos her]
theorem tag_eq' (b : List UInt8) : tagR b = if byN b 0 = 0 then (0, 0, 4) else if byN b 0 % 32 ≠ 31 then (byN b 0, 1, 0) else if b.length < 2 then (0, 0, 5) else
  if byN b 1 < 31 ∨ 127 < byN b 1 then (0, 0, 4) else (256 * byN b 0 + byN b 1, 2, 0) := rfl
set_option maxHeartbeats 3200000 in
theorem ro_any (b : List UInt8) (d : Nat) (v : Value) (w : World) (B0 : Nat) (hle : B0 ≤ w.heap.size) (hv : SL w B0 v b) (hb : 0 < b.length)
    (HW : ∀ (t k n : Nat) (v : Value) (W : World), validB (t : Int) = true → d ≤ 8 → 2 ≤ k → k + n ≤ b.length → SL W W.heap.size v ((b.drop k).take n) → Calls Tryd.prog 113 #[.int .i64 t, v, .int .i64 d] W fun e w' => WvP W (valR d t ((b.drop k).take n)) e w') :
    Calls Tryd.prog 98 #[v, .int .i64 d] w fun e w' => RoQ w B0 b d e w' := by
  obtain ⟨A, c, rfl, h1, h2, h3⟩ := hv
  obtain ⟨B, o, rfl, hB, hc⟩ := h3 hb
  unfold maxLen at h2
  have h2' : c ≤ 9223372036854775807 := by omega
  have hne : b ≠ [] := by intro e; rw [e] at hb; simp at hb
  have herr : ∀ (er : Int) (e : Ending) (w' : World), er ≠ 0 → readL d b = (er, []) → (e = .returned (.tuple #[.agg #[.int .i64 0, .slice none 0 0, .slice none 0 0], .slice none 0 0, .int .i64 er]) ∧ Below w.heap.size w w') → RoQ w B0 b d e w' := fun er e w' h0 h1 h2 => ⟨h2.2, .inl ⟨er, h0, h1, h2.1⟩⟩
  by_cases hd : d ≤ 8
  · have g0 := hc 0 hb
    have hx := byN_lt b 0
    have hy := byN_lt b 1
    change w.cell? ⟨B, o, none⟩ = some (.int .u8 (byN b 0 : Int)) at g0
    have ht := tag_eq' b
    obtain ⟨x, hxx⟩ : ∃ x, x = byN b 0 := ⟨_, rfl⟩
    obtain ⟨y, hyy⟩ : ∃ y, y = byN b 1 := ⟨_, rfl⟩
    rw [← hxx] at g0 hx ht
    rw [← hyy] at hy ht
    by_cases c0 : x = 0
    · rw [if_pos c0] at ht
      subst c0
      have hr := readL_err hne (hdR_tag hd (by decide) ht) (by decide)
      exact (roT_zero B o b.length c d w hd g0 hb h1 h2').mono fun e w' h => herr 4 e w' (by decide) hr h
    rw [if_neg c0] at ht
    have hx0 : ((x : Int) == 0) = false := by simp; omega
    have ha := and31 x (by omega)
    by_cases c1 : x % 32 ≠ 31
    · rw [if_pos c1] at ht
      have hvv := valid_one x c0 hx c1
      exact roA_all B0 B o x c b d w hd g0 hx hx0 ha (by omega) hB hle hc h1 h2' ht (by omega) hvv (fun k n v W hk hkn hs => HW x k n v W hvv hd hk hkn hs)
    rw [if_neg c1] at ht
    have hx1 : (x : Int) % 32 = 31 := by omega
    by_cases c2 : b.length < 2
    · rw [if_pos c2] at ht
      have hr := readL_err hne (hdR_tag hd (by decide) ht) (by decide)
      have hL : b.length = 0 + 1 := by omega
      rw [hL] at h1 ⊢
      obtain ⟨q, rfl⟩ : ∃ q, c = q + 1 := ⟨c - 1, by omega⟩
      by_cases hq : q = 0
      · subst hq
        exact (roT_short_z B o x d w hd g0 hx hx0 ha hx1).mono fun e w' h => herr 5 e w' (by decide) hr h
      · exact (roT_short_p B o x q d w hd g0 hx hx0 ha hx1 hq h2').mono fun e w' h => herr 5 e w' (by decide) hr h
    rw [if_neg c2] at ht
    have g1 := hc 1 (by omega)
    change w.cell? ⟨B, o + 1, none⟩ = some (.int .u8 (byN b 1 : Int)) at g1
    rw [← hyy] at g1
    have hto := or_i64 x y hx hy
    have hv2 := valid_two x y hx hy (by omega)
    by_cases c3 : y < 31 ∨ 127 < y
    · rw [if_pos c3] at ht
      have hr := readL_err hne (hdR_tag hd (by decide) ht) (by decide)
      have hvf : validB ((256 * x + y : Nat) : Int) = false := by
        rw [hv2]
        rcases c3 with h | h
        · rw [decide_eq_false (show ¬ 31 ≤ y by omega)]; rfl
        · rw [decide_eq_false (show ¬ y ≤ 127 by omega), Bool.and_false]
      obtain ⟨m, hm⟩ : ∃ m, b.length = m + 1 + 1 := ⟨b.length - 2, by omega⟩
      obtain ⟨q, rfl⟩ : ∃ q, c = q + 1 + 1 := ⟨c - 2, by omega⟩
      rw [hm]
      exact (roT_bad B o x y (256 * x + y) m q d w hd g0 hx hx0 ha hx1 g1 hy hto hvf (by omega) h2').mono fun e w' h => herr 4 e w' (by decide) hr h
    · rw [if_neg c3] at ht
      have hvt : validB ((256 * x + y : Nat) : Int) = true := by
        rw [hv2, decide_eq_true (show 31 ≤ y by omega), decide_eq_true (show y ≤ 127 by omega)]; rfl
      exact roB_all B0 B o x y (256 * x + y) c b d w hd g0 hx hx0 ha hx1 g1 hy hto hvt hB hle hc h1 h2' ht (by omega) hvt (fun k n v W hk hkn hs => HW (256 * x + y) k n v W hvt hd hk hkn hs)
  · have hh : hdR d b = (0, 0, 0, 4) := by unfold hdR; rw [if_pos (by omega)]
    have hr := readL_err hne hh (by decide)
    exact (roT_deep _ _ _ d w (by omega)).mono fun e w' h => herr 4 e w' (by decide) hr h



theorem results_cellA {P : Program} {fn : Func} {p u : Tmp} {ty : TypeId} (h : fn.results = #[.cell p ty, .tmp u]) (tmps : Array Value) (w : World) (g : Nat) (t : TypeId) (cs : Array Value) (fr : Nat × Nat) (d : TypeDesc)
    (hp : tmps.getD p undef = .pointer (some ⟨g, 0, none⟩)) (hg : w.heap[g]? = some (.cells cs t fr))
    (hu : P.underlying ty = some d) (hd : (match d with | .struct _ | .array _ _ => true | _ => false) = true) (hi : (P.info? ty).map (·.size) = some cs.size) :
    (results fn tmps).run P w = .ok (.tuple #[.agg cs, tmps.getD u undef]) w := by
  have hp' : tmps[p]?.getD undef = .pointer (some ⟨g, 0, none⟩) := by simpa using hp
  simp [results, h, hp', asAddr, run_loadVar_row w g t ty cs fr d hg hu hd hi]
/-- What readList gives. -/
def RlP (w : World) (r : Int × List T) (e : Ending) (w' : World) : Prop := ∃ A c, e = .returned (.tuple #[.slice A r.2.length c, .int .i64 r.1]) ∧ KI w' (From w' w.heap.size) (.slice A r.2.length c) r.2 ∧ Below w.heap.size w w'

theorem set3_from {w : World} {lo lo' g : Nat} (hg : g < lo) (hlo : lo' ≤ lo) (x y z : Value) : ∀ b, From w lo b → From (((w.setCell ⟨g, 0, none⟩ x).setCell ⟨g, 1, none⟩ y).setCell ⟨g, 2, none⟩ z) lo' b ∧
    ∀ o, (((w.setCell ⟨g, 0, none⟩ x).setCell ⟨g, 1, none⟩ y).setCell ⟨g, 2, none⟩ z).cell? ⟨b, o, none⟩ = w.cell? ⟨b, o, none⟩ := fun b hb => by
  obtain ⟨h1, h2⟩ := hb
  have z5 : Below 0 w (((w.setCell ⟨g, 0, none⟩ x).setCell ⟨g, 1, none⟩ y).setCell ⟨g, 2, none⟩ z) := set3_below (Below.refl _ _) _ (by omega) _ _ _
  exact ⟨⟨by omega, Nat.lt_of_lt_of_le h2 z5.size⟩, fun o => set3_cell _ _ _ _ _ _ (by omega) _⟩

set_option maxRecDepth 100000 in
set_option maxHeartbeats 6400000 in
theorem wv_prim (t d : Nat) (cl : List UInt8) (v : Value) (w : World) (hc : consB (t : Int) = false) (hv : SL w w.heap.size v cl) (hl : cl.length ≤ 100000) :
    Calls Tryd.prog 113 #[.int .i64 t, v, .int .i64 d] w fun e w' => WvP w (valR d t cl) e w' := by
  have hval : valR d t cl = (0, .mk (t : Int) cl []) := by unfold valR; rw [if_neg (by rw [hc]; decide)]
  rw [hval]
  clear hval
  have HV := Lib.hid hv
  have hcc := fun W => pcons_any (t : Int) W
  rw [hc] at hcc
  have HC := Lib.hid hcc
  have HL := Lib.hid hl
  clear hcc hc hv hl
  go_enter Tryd.func113, Tryd.ntmps113
  go_wp2_with (go_at_call 106; refine (HC.out _).mono ?_; rintro e w' ⟨rfl, rfl⟩)
  have hb1 := alloc_below w (Obj.cells #[.int .i64 0, .slice none 0 0, .slice none 0 0] 70)
  have hz1 : (w.alloc (Obj.cells #[.int .i64 0, .slice none 0 0, .slice none 0 0] 70)).heap.size = w.heap.size + 1 := alloc_size _ _
  have hn1 := heap_alloc_new w (Obj.cells #[.int .i64 0, .slice none 0 0, .slice none 0 0] 70)
  refine (clone_own cl v _ (HV.out.on hb1) (by have := HL.out; omega)).mono ?_
  rintro e w2 ⟨v2, rfl, hv2, hb2⟩
  obtain ⟨A2, c2, rfl⟩ := hv2.value
  rw [hz1] at hv2
  have hr := (hb2.block w.heap.size (by omega)).trans hn1
  have hbel : Below w.heap.size w w2 := hb1.trans (hb2.mono (by omega))
  have z0 := cell_of_row _ _ 0 _ _ _ hr
  have z1 := cell_of_row _ _ 1 _ _ _ hr
  have z2 := cell_of_row _ _ 2 _ _ _ hr
  have y0 := frozen_of_row _ _ 0 _ _ hr
  have y1 := frozen_of_row _ _ 1 _ _ hr
  have y2 := frozen_of_row _ _ 2 _ _ hr
  have HR := Lib.hid hr
  have HVI := Lib.hid (VI.of_fs hv2.fs)
  clear hr hv2 hb1 hn1 hz1 hb2
  go_wp2_with fail
  exact bodyPost_ret (results_cellA rfl _ _ w.heap.size 70 #[.int .i64 t, .slice A2 cl.length c2, .slice none 0 0] (0, 0) _ rfl (row3_set _ _ _ _ _ _ _ _ _ HR.out) Tryd.underlying70 rfl (by kernel_rfl)) rfl
    ⟨_, _, _, _, rfl, HVI.out.keep (set3_from (Nat.lt_succ_self _) (Nat.le_succ _) _ _ _), KI.nil _ _ _ _ (Nat.zero_le _), set3_below hbel _ (Nat.le_refl _) _ _ _⟩

set_option maxRecDepth 100000 in
set_option maxHeartbeats 6400000 in
theorem wv_cons (t d : Nat) (cl : List UInt8) (v : Value) (w : World) (hd : d ≤ 8) (hc : consB (t : Int) = true) (hv : SL w w.heap.size v cl)
    (HR : ∀ (v : Value) (W : World), SL W W.heap.size v cl → Calls Tryd.prog 83 #[v, .int .i64 ((d : Int) + 1)] W fun e w' => RlP W (readL (d + 1) cl) e w') :
    Calls Tryd.prog 113 #[.int .i64 t, v, .int .i64 d] w fun e w' => WvP w (valR d t cl) e w' := by
  have hval : valR d t cl = if (readL (d + 1) cl).1 ≠ 0 then ((readL (d + 1) cl).1, T.zero) else (0, .mk (t : Int) [] (readL (d + 1) cl).2) := by unfold valR; rw [if_pos hc]
  have hbad := readL_bad (d + 1) cl
  have HV := Lib.hid hv
  have hcc := fun W => pcons_any (t : Int) W
  rw [hc] at hcc
  have HC := Lib.hid hcc
  have HRR := Lib.hid HR
  clear hcc hc hv HR
  generalize readL (d + 1) cl = R at *
  obtain ⟨er, ts⟩ := R
  simp only at hval hbad
  have hb1 := alloc_below w (Obj.cells #[.int .i64 0, .slice none 0 0, .slice none 0 0] 70)
  have hz1 : (w.alloc (Obj.cells #[.int .i64 0, .slice none 0 0, .slice none 0 0] 70)).heap.size = w.heap.size + 1 := alloc_size _ _
  have hn1 := heap_alloc_new w (Obj.cells #[.int .i64 0, .slice none 0 0, .slice none 0 0] 70)
  have HV1 := Lib.hid (HV.out.on hb1)
  have HB1 := Lib.hid hb1
  have HN1 := Lib.hid hn1
  have HZ1 := Lib.hid hz1
  by_cases he : er = 0
  · subst he
    rw [if_neg (fun h => h rfl)] at hval
    rw [hval]
    clear hval hbad hb1 hz1 hn1
    go_enter Tryd.func113, Tryd.ntmps113
    go_wp2_with (first
      | (go_at_call 106; refine (HC.out _).mono ?_; rintro e w' ⟨rfl, rfl⟩)
      | (go_at_call 83; refine (HRR.out _ _ HV1.out).mono ?_; rintro e w2 ⟨A2, c2, rfl, hk2, hb2⟩; have hr := (hb2.block w.heap.size (by have := HZ1.out; omega)).trans HN1.out; have hbel : Below w.heap.size w w2 := HB1.out.trans (hb2.mono (by have := HZ1.out; omega)); have z0 := cell_of_row _ _ 0 _ _ _ hr; have z1 := cell_of_row _ _ 1 _ _ _ hr; have z2 := cell_of_row _ _ 2 _ _ _ hr; have y0 := frozen_of_row _ _ 0 _ _ hr; have y1 := frozen_of_row _ _ 1 _ _ hr; have y2 := frozen_of_row _ _ 2 _ _ hr; have HRW := Lib.hid hr; rw [HZ1.out] at hk2; have HKI := Lib.hid hk2; clear hr hk2 hb2))
    exact bodyPost_ret (results_cellA rfl _ _ w.heap.size 70 #[.int .i64 t, .slice none 0 0, .slice A2 ts.length c2] (0, 0) _ rfl (row3_set _ _ _ _ _ _ _ _ _ HRW.out) Tryd.underlying70 rfl (by kernel_rfl)) rfl
      ⟨_, _, _, _, rfl, VI.nil _ _ _ _ (Nat.zero_le _), HKI.out.keep (set3_from (Nat.lt_succ_self _) (Nat.le_succ _) _ _ _), set3_below hbel _ (Nat.le_refl _) _ _ _⟩
  · rw [if_pos he] at hval
    rw [hval]
    have hts := hbad he
    subst hts
    have heb : (er == 0) = false := by simpa using he
    clear hval hbad he hb1 hz1 hn1
    go_enter Tryd.func113, Tryd.ntmps113
    go_wp2_with (first
      | (go_at_call 106; refine (HC.out _).mono ?_; rintro e w' ⟨rfl, rfl⟩)
      | (go_at_call 83; refine (HRR.out _ _ HV1.out).mono ?_; rintro e w2 ⟨A2, c2, rfl, hk2, hb2⟩; have hr := (hb2.block w.heap.size (by have := HZ1.out; omega)).trans HN1.out; have hbel : Below w.heap.size w w2 := HB1.out.trans (hb2.mono (by have := HZ1.out; omega)); have z0 := cell_of_row _ _ 0 _ _ _ hr; have z1 := cell_of_row _ _ 1 _ _ _ hr; have z2 := cell_of_row _ _ 2 _ _ _ hr; have y0 := frozen_of_row _ _ 0 _ _ hr; have y1 := frozen_of_row _ _ 1 _ _ hr; have y2 := frozen_of_row _ _ 2 _ _ hr; have HRW := Lib.hid hr; clear hr hk2 hb2))
    exact bodyPost_ret (results_cellA rfl _ _ w.heap.size 70 #[.int .i64 0, .slice none 0 0, .slice none 0 0] (0, 0) _ rfl (row3_set _ _ _ _ _ _ _ _ _ HRW.out) Tryd.underlying70 rfl (by kernel_rfl)) rfl
      ⟨_, _, _, _, rfl, VI.nil _ _ _ _ (Nat.zero_le _), KI.nil _ _ _ _ (Nat.zero_le _), set3_below hbel _ (Nat.le_refl _) _ _ _⟩



set_option maxRecDepth 100000 in
set_option maxHeartbeats 6400000 in
theorem rl_step (n : Nat) (ih : ∀ (cl : List UInt8) (d' : Nat) (v : Value) (w : World), cl.length < n → cl.length ≤ 5000 → SL w w.heap.size v cl → Calls Tryd.prog 83 #[v, .int .i64 d'] w fun e w' => RlP w (readL d' cl) e w')
    (b : List UInt8) (d : Nat) (hb : b.length < n + 1) (hl : b.length ≤ 5000) (v : Value) (w : World) (hv : SL w w.heap.size v b) :
    Calls Tryd.prog 83 #[v, .int .i64 d] w fun e w' => RlP w (readL d b) e w' := by
  have HRO : Hid (∀ (bk : List UInt8) (v : Value) (W : World), bk.length ≤ b.length → 0 < bk.length → w.heap.size ≤ W.heap.size → SL W w.heap.size v bk → Calls Tryd.prog 98 #[v, .int .i64 d] W fun e w' => RoQ W w.heap.size bk d e w') := fun bk v W hk h0 hle hs =>
    ro_any bk d v W w.heap.size hle hs h0 fun t k m v' W' hvt hd hk2 hkm hs' => by
      have hcl : ((bk.drop k).take m).length ≤ m := by rw [List.length_take]; exact Nat.min_le_left _ _
      cases hc : consB (t : Int) with
      | false => exact wv_prim t d _ v' W' hc hs' (by omega)
      | true =>
        refine wv_cons t d _ v' W' hd hc hs' fun v2 W2 hs2 => ?_
        have := ih ((bk.drop k).take m) (d + 1) v2 W2 (by omega) (by omega) hs2
        rwa [show ((d + 1 : Nat) : Int) = (d : Int) + 1 by omega] at this
  obtain ⟨A, c, rfl, h1, h2, h3⟩ := id hv
  have HV := Lib.hid hv
  have HB := Lib.hid hl
  obtain ⟨R, hR⟩ : ∃ R, R = readL d b := ⟨_, rfl⟩
  have HR := Lib.hid hR
  rw [← hR]
  clear ih h3 hR hb hv hl
  unfold maxLen at h2
  go_enter Tryd.func83, Tryd.ntmps83
  go_wp2_with fail
  go_loopw [0, 6] (fun v0 v6 wr => ∃ (bk : List UInt8) (ts : List T) (A c A6 c6 : _), v0 = .slice A bk.length c ∧ v6 = .slice A6 ts.length c6 ∧ Hid (R = comb ts (readL d bk)) ∧ Hid (SL wr w.heap.size v0 bk) ∧ Hid (OD wr w.heap.size v6 ts) ∧ Below w.heap.size w wr ∧ Hid (ts.length + bk.length ≤ b.length)) (fun v0 _ _ => lenV v0)
  case atStart => exact ⟨b, [], A, c, none, 0, rfl, rfl, by show _ = _; rw [HR.out, comb_readL], HV.out, OD.nil _ _, Below.refl _ _, by show _ ≤ _; simp⟩
  case round =>
    obtain ⟨bk, ts, A, c, A6, c6, rfl, rfl, hcm, hsl, hod, hbel, hle⟩ := hrel
    by_cases h0 : 0 < bk.length
    · have hsw := hbel.size
      have HC := HRO.out bk (.slice A bk.length c) wr (by have := hle.out; omega) h0 hsw hsl.out
      have HCC := Lib.hid HC
      clear HC HRO
      have hodl := hod.out.ltB
      have HODL := Lib.hid hodl
      clear hodl
      go_wp2_with (first
        | (go_at_call 98; refine HCC.out.mono ?_; rintro e w2 ⟨hb2, h⟩; rcases h with ⟨er, her, hrd, rfl⟩ | ⟨r, k, u, kv, A2, c2, hrd, hk2, hkl, rfl, hvi, hki, hs2⟩; rotate_left; obtain ⟨Au, cu, rfl, hu1, hu2, hu3⟩ := id hvi; obtain ⟨Ak, ck, rfl, hk3, hk4, hk5⟩ := id hki; have HVI := Lib.hid hvi; have HKI := Lib.hid hki; have HS2 := Lib.hid hs2; have HRD := Lib.hid hrd; have HB2 := Lib.hid hb2; clear hvi hki hs2 hrd hu3 hk5 hb2 hu1 hu2 hk3 hk4; rotate_left)
        | (at_builtin; refine wpList_appD rfl (.tmp 23) (.tmp 25) rfl w.heap.size _ ts r (.slice Au r.val.length cu) (.slice Ak r.kids.length ck) (w2.heap.size + 1) wr.heap.size rfl rfl ((hod.out.later HB2.out).later (alloc2_below w2 _ _)) (HVI.out.on (alloc2_below w2 _ _)) (HKI.out.on (alloc2_below w2 _ _)) (fun b hb => (HODL.out b hb).2) hsw (heap2_new w2 _ _) (by have := hle.out; have := HB.out; omega) (Nat.le_trans hsw (Nat.le_trans HB2.out.size (alloc2_below w2 _ _).size)) ?_; intro v5 w5 hod5 hb5; obtain ⟨A5, c5, rfl⟩ := hod5.value; rw [List.length_append] at *; have HOD5 := Lib.hid hod5; have HB5 := Lib.hid hb5; clear hod5 hb5))
      · have hR : R = (er, []) := by rw [hcm.out, hrd]; unfold comb; rw [if_pos her]
        rw [hR]
        go_ret2
        exact ⟨none, 0, rfl, KI.nil _ _ _ _ (Nat.zero_le _), hbel.trans ((hb2.trans ((alloc_below w2 _).mono hb2.size)).mono hsw)⟩
      · have hb2 := HB2.out
        have hl1 : (bk.drop k).length = bk.length - k := List.length_drop
        have hl2 : (ts ++ [r]).length = ts.length + 1 := by simp
        have hbw : Below w.heap.size w w5 := (hbel.trans (hb2.mono hsw)).trans (((alloc2_below w2 _ _).mono (Nat.le_trans hsw hb2.size)).trans HB5.out)
        refine ⟨⟨bk.drop k, ts ++ [r], A2, c2, A5, c5, by rw [hl1], by rw [hl2], ?_, ?_, HOD5.out, hbw, ?_⟩, ?_⟩
        · show _ = _
          rw [hcm.out, HRD.out, comb_comb]
        · exact (HS2.out.below ((alloc2_below w2 _ _).mono (Nat.le_trans hsw hb2.size))).below HB5.out
        · show _ ≤ _
          have := hle.out
          rw [hl1, hl2]; omega
        · show bk.length - k < bk.length
          omega
    · have hbn : bk = [] := List.eq_nil_of_length_eq_zero (by omega)
      have hR : R = (0, ts) := by rw [hcm.out, hbn, readL_nil]; unfold comb; rw [if_neg (fun h => h rfl), List.append_nil]
      subst hbn
      have HR9 := Lib.hid hR
      clear hR
      go_wp2_with fail
      go_ret2
      rw [HR9.out]
      exact ⟨A6, c6, rfl, hod.out.ki, hbel⟩
theorem rl_any : ∀ (n : Nat) (b : List UInt8) (d : Nat) (v : Value) (w : World), b.length < n → b.length ≤ 5000 → SL w w.heap.size v b → Calls Tryd.prog 83 #[v, .int .i64 d] w fun e w' => RlP w (readL d b) e w'
  | 0, _, _, _, _, h, _, _ => absurd h (by omega)
  | n + 1, b, d, v, w, h, hl, hv => rl_step n (fun cl d' v' w' h' hl0 hl' => rl_any n cl d' v' w' h' hl0 hl') b d h hl v w hv

/-- What Decode gives. -/
def decR (b : List UInt8) : Int × List T := if 4096 < b.length then (3, []) else readL 1 b
set_option maxRecDepth 100000 in
set_option maxHeartbeats 3200000 in
theorem pdecode_any (b : List UInt8) (v : Value) (w : World) (hv : SL w w.heap.size v b) : Calls Tryd.prog 57 #[v] w fun e w' => RlP w (decR b) e w' := by
  obtain ⟨A, c, rfl, h1, h2, h3⟩ := id hv
  unfold maxLen at h2
  have HV := Lib.hid hv
  obtain ⟨R, hR⟩ : ∃ R, R = decR b := ⟨_, rfl⟩
  rw [← hR]
  unfold decR at hR
  by_cases hl : 4096 < b.length
  · rw [if_pos hl] at hR
    subst hR
    have hli : (4096 : Int) < (b.length : Int) := by omega
    clear h3 hv
    go_enter Tryd.func57, Tryd.ntmps57
    go_wp2_with fail
    go_ret2
    exact ⟨none, 0, rfl, KI.nil _ _ _ _ (Nat.zero_le _), Below.refl _ _⟩
  · rw [if_neg hl] at hR
    have H := Lib.hid (rl_any (b.length + 1) b 1 (.slice A b.length c) w (by omega) (by omega) hv)
    rw [← hR] at H
    clear h3 hv hR
    go_enter Tryd.func57, Tryd.ntmps57
    go_wp2_with (go_at_call 83; refine H.out.mono ?_; rintro e w2 ⟨A2, c2, rfl, hk2, hb2⟩)
    go_ret2
    exact ⟨A2, c2, rfl, hk2, hb2⟩



theorem set_alloc_new (w : World) (p : Addr) (x : Value) (o : Obj) : ((w.setCell p x).alloc o).heap[w.heap.size]? = some o := by
  have := heap_alloc_new (w.setCell p x) o
  simpa using this
theorem set1_from {w : World} {lo g i : Nat} (hg : g < lo) (x : Value) : ∀ b, From w lo b → From (w.setCell ⟨g, i, none⟩ x) lo b ∧ ∀ o, (w.setCell ⟨g, i, none⟩ x).cell? ⟨b, o, none⟩ = w.cell? ⟨b, o, none⟩ := fun b hb =>
  ⟨⟨hb.1, Nat.lt_of_lt_of_le hb.2 ((Below.refl 0 w).setCell (p := ⟨g, i, none⟩) (Nat.zero_le _) x).size⟩, fun o => far_set _ _ (by show b ≠ g; have := hb.1; omega)⟩
theorem tagR_le {b : List UInt8} (h0 : 0 < b.length) : (tagR b).2.1 ≤ b.length := by
  unfold tagR
  by_cases c1 : byN b 0 = 0
  · rw [if_pos c1]; exact Nat.zero_le _
  · rw [if_neg c1]
    by_cases c2 : byN b 0 % 32 ≠ 31
    · rw [if_pos c2]; exact h0
    · rw [if_neg c2]
      by_cases c3 : b.length < 2
      · rw [if_pos c3]; exact Nat.zero_le _
      · rw [if_neg c3]
        split
        · exact Nat.zero_le _
        · show 2 ≤ b.length; omega
theorem tagR_valid {b : List UInt8} (h : (tagR b).2.2 = 0) : validB ((tagR b).1 : Int) = true := (tagR_back h).1
theorem drop_sl {w W : World} {B0 B o c m : Nat} {A : Option Addr} {b : List UInt8} (hB : B < B0) (hc : ∀ k, k < b.length → w.cell? ⟨B, o + k, none⟩ = some (.int .u8 ((b.getD k 0).toNat : Int))) (hb : Below B0 w W)
    (k : Nat) (hm : m = b.length - k) (hk : k ≤ b.length) (hA : 0 < m → A = some ⟨B, o + k, none⟩) (h1 : m ≤ c) (h2 : c ≤ maxLen) : SL W B0 (.slice A m c) (b.drop k) := by
  have := sub_sl (m := m) hB hc hb k (by omega) hA h1 h2
  rwa [List.take_of_length_le (by rw [List.length_drop]; omega)] at this
set_option maxRecDepth 100000 in
set_option maxHeartbeats 6400000 in
theorem rr_step (n0 : Nat) (ih : ∀ (cl : List UInt8) (d' : Nat) (v : Value) (w : World), cl.length < n0 → cl.length ≤ 5000 → SL w w.heap.size v cl → Calls Tryd.prog 85 #[v, .int .i64 d'] w fun e w' => RlP w (readL d' cl) e w')
    (b : List UInt8) (d : Nat) (hb : b.length < n0 + 1) (hl : b.length ≤ 5000) (v : Value) (w : World) (hv : SL w w.heap.size v b) :
    Calls Tryd.prog 85 #[v, .int .i64 d] w fun e w' => RlP w (readL d b) e w' := by
  obtain ⟨A, c, rfl, h1, h2, h3⟩ := id hv
  have HV := Lib.hid hv
  have HB := Lib.hid hl
  have HN := Lib.hid hb
  have IH := Lib.hid ih
  obtain ⟨R, hR⟩ : ∃ R, R = readL d b := ⟨_, rfl⟩
  have HR := Lib.hid hR
  rw [← hR]
  clear ih h3 hR hb hv hl
  unfold maxLen at h2
  go_enter Tryd.func85, Tryd.ntmps85
  go_wp2_with fail
  go_loopw [0, 6] (fun v0 v6 wr => ∃ (bk : List UInt8) (ts : List T) (A c A6 c6 : _), v0 = .slice A bk.length c ∧ v6 = .slice A6 ts.length c6 ∧ Hid (R = comb ts (readL d bk)) ∧ Hid (SL wr w.heap.size v0 bk) ∧ Hid (OD wr w.heap.size v6 ts) ∧ Below w.heap.size w wr ∧ Hid (ts.length + bk.length ≤ b.length)) (fun v0 _ _ => lenV v0)
  case atStart => exact ⟨b, [], A, c, none, 0, rfl, rfl, by show _ = _; rw [HR.out, comb_readL], HV.out, OD.nil _ _, Below.refl _ _, by show _ ≤ _; simp⟩
  case round =>
    obtain ⟨bk, ts, A, c, A6, c6, rfl, rfl, hcm, hsl, hod, hbel, hle⟩ := hrel
    by_cases h0 : 0 < bk.length
    · have hsw := hbel.size
      have hne : bk ≠ [] := by intro e; rw [e] at h0; simp at h0
      have HNE := Lib.hid hne
      obtain ⟨A', c', e', k1, k2c, k3⟩ := id hsl.out
      obtain ⟨e1, e2, e3⟩ := Value.slice.inj e'
      subst e1 e3
      obtain ⟨B, o, rfl, hB, hc⟩ := k3 h0
      have HCE := Lib.hid hc
      have hgt := HCE.out 0 h0
      have hlt := World.block_lt_of_cell? wr _ hgt
      have HT := Lib.hid (rtag_any bk (.slice (some ⟨B, o, none⟩) bk.length c) wr w.heap.size hsl.out h0)
      obtain ⟨Tg, hTg⟩ : ∃ r, r = tagR bk := ⟨_, rfl⟩
      rw [← hTg] at HT
      have hok := @tagR_ok bk
      rw [← hTg] at hok
      obtain ⟨t, k, er⟩ := Tg
      have HTG := Lib.hid hTg.symm
      simp only at HT hok
      unfold maxLen at k2c
      clear hne e2 e' k3 hc hgt hTg
      by_cases hd : (8 : Int) < (d : Int)
      · have hR : R = (4, []) := by rw [hcm.out, readL_err HNE.out (by unfold hdR; rw [if_pos (by omega)]) (by decide)]; rfl
        have HR9 := Lib.hid hR
        clear hR hok
        go_wp2_with fail
        go_ret2
        rw [HR9.out]
        exact ⟨none, 0, rfl, KI.nil _ _ _ _ (Nat.zero_le _), hbel⟩
      have hd8 : d ≤ 8 := by omega
      by_cases he : er = 0
      · subst he
        obtain ⟨ka, kb⟩ := hok rfl
        have hkl := @tagR_le bk h0
        rw [HTG.out] at hkl
        simp only at hkl
        obtain ⟨Ln, hLn⟩ : ∃ r, r = lenR (bk.drop k) := ⟨_, rfl⟩
        have hll := @lenR_ok (bk.drop k)
        have hdr : (bk.drop k).length = bk.length - k := List.length_drop
        have HLN : Hid (∀ (A : Option Addr) (W : World), Below w.heap.size wr W → (0 < bk.length - k → A = some ⟨B, o + k, none⟩) → Calls Tryd.prog 100 #[.slice A (bk.length - k) (c - k)] W fun e w' => e = .returned (.tuple #[.int .i64 (Ln.1 : Int), .int .i64 (Ln.2.1 : Int), .int .i64 Ln.2.2]) ∧ Below W.heap.size W w') := fun A W hb hA => by
          rw [hLn]
          exact rlength_any (bk.drop k) _ W w.heap.size (drop_sl hB HCE.out hb k rfl hkl hA (by omega) (by unfold maxLen; omega))
        rw [hdr, ← hLn] at hll
        obtain ⟨n, k2, er2⟩ := Ln
        have HLR := Lib.hid hLn.symm
        simp only at HLN hll
        have hk0 : (0 : Int) ≤ (k : Int) := by omega
        have hk1 : (k : Int) ≤ (bk.length : Int) := by omega
        clear hLn hdr hok
        by_cases he2 : er2 = 0
        · subst he2
          obtain ⟨k2a, k2b, k2l, hn⟩ := hll rfl
          have hck : ¬ c = k := by omega
          by_cases hs : bk.length - (k + k2) < n
          · have hR : R = (5, []) := by rw [hcm.out, readL_err HNE.out (hdR_short hd8 HTG.out HLR.out hs) (by decide)]; rfl
            have HR9 := Lib.hid hR
            have hs2 : (bk.length : Int) - (k : Int) - (k2 : Int) < (n : Int) := by omega
            clear hR hll hn
            have hk2 : (k2 : Int) ≤ ((bk.length - k : Nat) : Int) := by omega
            have hk3 : (0 : Int) ≤ (k2 : Int) := by omega
            go_wp2_with (go_at_call 99; refine HT.out.mono ?_; rintro e w2 ⟨rfl, hb2⟩)
            refine (HLN.out _ _ (hb2.mono hsw) (fun _ => rfl)).mono ?_
            rintro e w3 ⟨rfl, hb3⟩
            by_cases hq : c - k = k2
            · have HQ := Lib.hid hq
              subst hq
              go_wp2_with fail
              go_ret2
              rw [HR9.out]
              exact ⟨none, 0, rfl, KI.nil _ _ _ _ (Nat.zero_le _), hbel.trans ((hb2.trans (hb3.mono hb2.size)).mono hsw)⟩
            · go_wp2_with fail
              go_ret2
              rw [HR9.out]
              exact ⟨none, 0, rfl, KI.nil _ _ _ _ (Nat.zero_le _), hbel.trans ((hb2.trans (hb3.mono hb2.size)).mono hsw)⟩
          · obtain ⟨cl, hcl⟩ : ∃ cl, cl = (bk.drop (k + k2)).take n := ⟨_, rfl⟩
            have hcll : cl.length = n := by rw [hcl, List.length_take, List.length_drop]; omega
            have hg := hdR_good hd8 HTG.out HLR.out hs
            have hrd := readL_step d bk HNE.out
            rw [hg] at hrd
            simp only at hrd
            rw [if_neg (fun h => h rfl), ← hcl] at hrd
            have hvt : validB (t : Int) = true := by have := @tagR_valid bk (by rw [HTG.out]); rwa [HTG.out] at this
            obtain ⟨vt1, vt2⟩ := validB_range hvt
            have HCL : Hid (∀ (A : Option Addr) (c' : Nat) (W : World), Below w.heap.size wr W → (0 < n → A = some ⟨B, o + (k + k2), none⟩) → n ≤ c' → c' ≤ maxLen → SL W w.heap.size (.slice A n c') cl) := fun A c' W hb hA h1 h2 => by
              rw [hcl]; exact sub_sl hB HCE.out hb (k + k2) (by omega) hA h1 h2
            obtain ⟨Cb, hCb⟩ : ∃ x, x = consB (t : Int) := ⟨_, rfl⟩
            have hcc := fun W => rcons_any (t : Int) W
            rw [← hCb] at hcc
            have HC := Lib.hid hcc
            have HCB := Lib.hid hCb
            have HVT : Hid (1 ≤ (t : Int) ∧ (t : Int) ≤ 65535) := ⟨vt1, vt2⟩
            have HRD := Lib.hid hrd
            have HCL0 := Lib.hid hcl
            have hk2 : (k2 : Int) ≤ ((bk.length - k : Nat) : Int) := by omega
            have hk3 : (0 : Int) ≤ (k2 : Int) := by omega
            have hs2 : ¬ (bk.length : Int) - (k : Int) - (k2 : Int) < (n : Int) := by omega
            have hn0 : (0 : Int) ≤ (n : Int) := by omega
            have hn1 : n ≤ c - k - k2 := by omega
            have hn2 : (n : Int) ≤ ((c - k - k2 : Nat) : Int) := by omega
            have hn3 : (n : Int) ≤ ((bk.length - k - k2 : Nat) : Int) := by omega
            have hn4 : n ≤ bk.length - k - k2 := by omega
            clear hcc hrd hg hvt hcl hs hll hCb vt1 vt2 hn
            subst hcll
            by_cases hq : c - k = k2
            · have hL : bk.length = c := by omega
              obtain rfl : cl = [] := List.eq_nil_of_length_eq_zero (by omega)
              have hck0 : k < c := by omega
              subst hq
              rw [hL] at HT HLN ⊢
              clear hn1 hn2 hn3 hn4 hs2 hk2 hk3
              cases Cb with
              | false =>
                go_wp2_with (go_at_call 99; refine HT.out.mono ?_; rintro e w2 ⟨rfl, hb2⟩)
                refine (HLN.out _ _ (hb2.mono hsw) (fun _ => rfl)).mono ?_
                rintro e w3 ⟨rfl, hb3⟩
                go_wp2_with (go_at_call 96; refine (HC.out _).mono ?_; rintro e w' ⟨rfl, rfl⟩)
                obtain ⟨wx, hwx⟩ : ∃ wx, wx = w3.alloc (Obj.cells #[Value.int IntKind.i64 t, Value.slice none 0 0, Value.slice none 0 0] 70) := ⟨_, rfl⟩
                rw [← hwx]
                have hb23 : Below wr.heap.size wr w3 := hb2.trans (hb3.mono hb2.size)
                have hbx : Below wr.heap.size wr wx := by rw [hwx]; exact hb23.trans ((alloc_below w3 _).mono hb23.size)
                have hzx : wx.heap.size = w3.heap.size + 1 := by rw [hwx]; exact alloc_size _ _
                have hrx : wx.heap[w3.heap.size]? = some (.cells #[.int .i64 t, .slice none 0 0, .slice none 0 0] 70 (0, 0)) := by rw [hwx]; exact heap_alloc_new w3 _
                have hs3 := hb23.size
                have x1 := cell_of_row _ _ 1 _ _ _ hrx
                have HZX := Lib.hid hzx
                have HBX := Lib.hid hbx
                have HRX := Lib.hid hrx
                clear hwx hb23 hbx hzx hrx
                go_still_tail 5, (by kernel_rfl)
                change wpList _ _ _ _ _ wx.drew
                have hodl := hod.out.ltB
                have HODL := Lib.hid hodl
                clear hodl
                go_wp2_with (first
                  | (at_builtin; refine wpList_appS rfl (.tmp 63) (.tmp 66) rfl wx.drew wx.heap.size _ [] [] _ _ rfl rfl (Below.refl _ _) (OB.nil _ _) (SL.rd (HCL.out _ _ _ (HBX.out.drew.mono hsw) (fun h => absurd h (by simp)) (Nat.zero_le _) (by unfold maxLen; omega))).2 (by simp) (Nat.le_refl _) ?_; intro v6 w6 hv6 hb6; rw [List.nil_append] at hv6; obtain ⟨A9, c9, rfl⟩ := hv6.value; have hr6 := (hb6.block w3.heap.size (by have := HZX.out; omega)).trans HRX.out; have x1' := cell_of_row _ _ 1 _ _ _ hr6; have y1' := frozen_of_row _ _ 1 _ _ hr6; have x0' := cell_of_row _ _ 0 _ _ _ hr6; have x2' := cell_of_row _ _ 2 _ _ _ hr6; have HR6 := Lib.hid hr6; have HV6 := Lib.hid hv6; have HB6 := Lib.hid hb6; clear hr6 hv6 hb6)
                  | (at_builtin; have hbW : Below wr.heap.size wr ((w6.setCell ⟨w3.heap.size, 1, none⟩ (.slice A9 0 c9)).alloc (Obj.cells #[.int .i64 t, .slice A9 0 c9, .slice none 0 0] 70)) := ((HBX.out.drew.trans (HB6.out.mono HBX.out.size)).setCell (p := ⟨w3.heap.size, 1, none⟩) hs3 _).trans ((alloc_below _ _).mono (Nat.le_trans HBX.out.size (Nat.le_trans HB6.out.size ((Below.refl 0 w6).setCell (p := ⟨w3.heap.size, 1, none⟩) (Nat.zero_le _) _).size))); refine wpList_appD rfl (.tmp 69) (.tmp 71) rfl w.heap.size _ ts (.mk t [] []) (.slice A9 0 c9) (.slice none 0 0) w6.heap.size wx.heap.size rfl rfl (hod.out.later hbW) (((VI.of_fs HV6.out.fs).keep (set1_from (by have := HZX.out; omega) _)).on (alloc_below _ _)) (KI.nil _ _ _ _ (Nat.zero_le _)) (fun b hb => Nat.lt_of_lt_of_le (HODL.out b hb).2 HBX.out.size) (Nat.le_trans hsw HBX.out.size) (set_alloc_new _ _ _ _) (by have := hle.out; have := HB.out; omega) (Nat.le_trans hsw hbW.size) ?_; intro v8 w8 hod8 hb8; obtain ⟨A8, c8, rfl⟩ := hod8.value; have HOD8 := Lib.hid hod8; have HB8 := Lib.hid hb8; have HBW := Lib.hid hbW; clear hod8 hb8 hbW; rw [List.length_append] at *))
                all_goals
                  have hl1 : (bk.drop (k + (c - k) + 0)).length = bk.length - k - (c - k) - 0 := by rw [List.length_drop]; omega
                  have hl2 : (ts ++ [T.mk (t : Int) [] []]).length = ts.length + 1 := by simp
                  have hbw : Below w.heap.size w w8 := (hbel.trans (HBW.out.mono hsw)).trans HB8.out
                  refine ⟨⟨bk.drop (k + (c - k) + 0), ts ++ [T.mk (t : Int) [] []], _, _, A8, c8, by rw [hl1, show bk.length - k - (c - k) - 0 = 0 by omega], by rw [hl2], ?_, ?_, (by exact HOD8.out), hbw, ?_⟩, ?_⟩
                  · show _ = _
                    have hvr : valR d t [] = (0, .mk (t : Int) [] []) := by unfold valR; rw [if_neg (by rw [← HCB.out]; decide)]
                    rw [hcm.out, HRD.out, hvr, if_neg (fun h => h rfl), comb_comb]; rfl
                  · exact drop_sl hB HCE.out ((HBW.out.mono hsw).trans HB8.out) (k + (c - k) + 0) (by omega) (by omega) (fun h => absurd h (by omega)) (by omega) (by unfold maxLen; omega)
                  · show _ ≤ _
                    have := hle.out
                    rw [hl1, hl2]; omega
                  · show 0 < c
                    omega
              | true =>
                have HRK : Hid (∀ (A : Option Addr) (c' : Nat) (W : World), Below wr.heap.size wr W → (0 < 0 → A = some ⟨B, o + (k + (c - k)), none⟩) → 0 ≤ c' → c' ≤ maxLen → Calls Tryd.prog 85 #[.slice A 0 c', .int .i64 ((d : Int) + 1)] W fun e w' => RlP W (readL (d + 1) []) e w') := fun A c' W hb hA h1 h2 => by
                  have := IH.out [] (d + 1) _ W (by have := hle.out; have := HN.out; simp only [List.length_nil]; omega) (by simp) ((HCL.out A c' W (hb.mono hsw) hA h1 h2).more (Nat.le_trans hsw hb.size))
                  rwa [show ((d + 1 : Nat) : Int) = (d : Int) + 1 by omega] at this
                obtain ⟨RK, hRK⟩ : ∃ r, r = readL (d + 1) [] := ⟨_, rfl⟩
                have hkb := readL_bad (d + 1) []
                rw [← hRK] at HRK hkb
                obtain ⟨er3, kids⟩ := RK
                have HRKE := Lib.hid hRK
                simp only at hkb
                clear hRK
                have hodl := hod.out.ltB
                have HODL := Lib.hid hodl
                clear hodl
                go_wp2_with (go_at_call 99; refine HT.out.mono ?_; rintro e w2 ⟨rfl, hb2⟩)
                refine (HLN.out _ _ (hb2.mono hsw) (fun _ => rfl)).mono ?_
                rintro e w3 ⟨rfl, hb3⟩
                go_wp2_with (go_at_call 96; refine (HC.out _).mono ?_; rintro e w' ⟨rfl, rfl⟩)
                obtain ⟨wx, hwx⟩ : ∃ wx, wx = w3.alloc (Obj.cells #[Value.int IntKind.i64 t, Value.slice none 0 0, Value.slice none 0 0] 70) := ⟨_, rfl⟩
                rw [← hwx]
                have hb23 : Below wr.heap.size wr w3 := hb2.trans (hb3.mono hb2.size)
                have hbx : Below wr.heap.size wr wx := by rw [hwx]; exact hb23.trans ((alloc_below w3 _).mono hb23.size)
                have hzx : wx.heap.size = w3.heap.size + 1 := by rw [hwx]; exact alloc_size _ _
                have hrx : wx.heap[w3.heap.size]? = some (.cells #[.int .i64 t, .slice none 0 0, .slice none 0 0] 70 (0, 0)) := by rw [hwx]; exact heap_alloc_new w3 _
                have hs3 := hb23.size
                have HZX := Lib.hid hzx
                have HBX := Lib.hid hbx
                have HRX := Lib.hid hrx
                clear hwx hb23 hbx hzx hrx
                refine (HRK.out _ _ _ HBX.out (fun h => absurd h (by simp)) (Nat.zero_le _) (by unfold maxLen; omega)).mono ?_
                rintro e w6 ⟨A9, c9, rfl, hk6, hb6⟩
                have hr6 := (hb6.block w3.heap.size (by have := HZX.out; omega)).trans HRX.out
                have x0' := cell_of_row _ _ 0 _ _ _ hr6
                have x1' := cell_of_row _ _ 1 _ _ _ hr6
                have x2' := cell_of_row _ _ 2 _ _ _ hr6
                have y2' := frozen_of_row _ _ 2 _ _ hr6
                have HR6 := Lib.hid hr6
                have HK6 := Lib.hid hk6
                have HB6 := Lib.hid hb6
                clear hr6 hk6 hb6
                by_cases he3 : er3 = 0
                · subst he3
                  have HKB := Lib.hid hkb
                  clear hkb
                  go_wp2_with (at_builtin; have hbW : Below wr.heap.size wr ((w6.setCell ⟨w3.heap.size, 2, none⟩ (.slice A9 kids.length c9)).alloc (Obj.cells #[.int .i64 t, .slice none 0 0, .slice A9 kids.length c9] 70)) := ((HBX.out.trans (HB6.out.mono HBX.out.size)).setCell (p := ⟨w3.heap.size, 2, none⟩) hs3 _).trans ((alloc_below _ _).mono (Nat.le_trans HBX.out.size (Nat.le_trans HB6.out.size ((Below.refl 0 w6).setCell (p := ⟨w3.heap.size, 2, none⟩) (Nat.zero_le _) _).size))); refine wpList_appD rfl (.tmp 69) (.tmp 71) rfl w.heap.size _ ts (.mk t [] kids) (.slice none 0 0) (.slice A9 kids.length c9) w6.heap.size wx.heap.size rfl rfl (hod.out.later hbW) (VI.nil _ _ _ _ (Nat.zero_le _)) ((HK6.out.keep (set1_from (by have := HZX.out; omega) _)).on (alloc_below _ _)) (fun b hb => Nat.lt_of_lt_of_le (HODL.out b hb).2 HBX.out.size) (Nat.le_trans hsw HBX.out.size) (set_alloc_new _ _ _ _) (by have := hle.out; have := HB.out; omega) (Nat.le_trans hsw hbW.size) ?_; intro v8 w8 hod8 hb8; obtain ⟨A8, c8, rfl⟩ := hod8.value; have HOD8 := Lib.hid hod8; have HB8 := Lib.hid hb8; have HBW := Lib.hid hbW; clear hod8 hb8 hbW; rw [List.length_append] at *)
                  all_goals
                    have hl1 : (bk.drop (k + (c - k) + 0)).length = bk.length - k - (c - k) - 0 := by rw [List.length_drop]; omega
                    have hl2 : (ts ++ [T.mk (t : Int) [] kids]).length = ts.length + 1 := by simp
                    have hbw : Below w.heap.size w w8 := (hbel.trans (HBW.out.mono hsw)).trans HB8.out
                    refine ⟨⟨bk.drop (k + (c - k) + 0), ts ++ [T.mk (t : Int) [] kids], _, _, A8, c8, by rw [hl1, show bk.length - k - (c - k) - 0 = 0 by omega], by rw [hl2], ?_, ?_, (by exact HOD8.out), hbw, ?_⟩, ?_⟩
                    · show _ = _
                      have hvr : valR d t [] = (0, .mk (t : Int) [] kids) := by unfold valR; rw [if_pos (by rw [← HCB.out]), ← HRKE.out, if_neg (fun h => h rfl)]
                      rw [hcm.out, HRD.out, hvr, if_neg (fun h => h rfl), comb_comb]; rfl
                    · exact drop_sl hB HCE.out ((HBW.out.mono hsw).trans HB8.out) (k + (c - k) + 0) (by omega) (by omega) (fun h => absurd h (by omega)) (by omega) (by unfold maxLen; omega)
                    · show _ ≤ _
                      have := hle.out
                      rw [hl1, hl2]; omega
                    · show 0 < c
                      omega
                · have hkn := hkb he3
                  subst hkn
                  have hvr : valR d t [] = (er3, T.zero) := by unfold valR; rw [if_pos (by rw [← HCB.out]), ← HRKE.out, if_pos he3]
                  have hR : R = (er3, []) := by rw [hcm.out, HRD.out, hvr, if_pos he3]; unfold comb; rw [if_pos he3]
                  have HR9 := Lib.hid hR
                  have heb : (er3 == 0) = false := by simpa using he3
                  clear hR hvr hkb he3
                  go_wp2_with fail
                  go_ret2
                  rw [HR9.out]
                  exact ⟨none, 0, rfl, KI.nil _ _ _ _ (Nat.zero_le _), (hbel.trans ((HBX.out.trans (HB6.out.mono HBX.out.size)).mono hsw)).setCell (p := ⟨w3.heap.size, 2, none⟩) (Nat.le_trans hsw hs3) _⟩
            · cases Cb with
              | false =>
                go_wp2_with (go_at_call 99; refine HT.out.mono ?_; rintro e w2 ⟨rfl, hb2⟩)
                refine (HLN.out _ _ (hb2.mono hsw) (fun _ => rfl)).mono ?_
                rintro e w3 ⟨rfl, hb3⟩
                go_wp2_with (go_at_call 96; refine (HC.out _).mono ?_; rintro e w' ⟨rfl, rfl⟩)
                obtain ⟨wx, hwx⟩ : ∃ wx, wx = w3.alloc (Obj.cells #[Value.int IntKind.i64 t, Value.slice none 0 0, Value.slice none 0 0] 70) := ⟨_, rfl⟩
                rw [← hwx]
                have hb23 : Below wr.heap.size wr w3 := hb2.trans (hb3.mono hb2.size)
                have hbx : Below wr.heap.size wr wx := by rw [hwx]; exact hb23.trans ((alloc_below w3 _).mono hb23.size)
                have hzx : wx.heap.size = w3.heap.size + 1 := by rw [hwx]; exact alloc_size _ _
                have hrx : wx.heap[w3.heap.size]? = some (.cells #[.int .i64 t, .slice none 0 0, .slice none 0 0] 70 (0, 0)) := by rw [hwx]; exact heap_alloc_new w3 _
                have hs3 := hb23.size
                have x1 := cell_of_row _ _ 1 _ _ _ hrx
                have HZX := Lib.hid hzx
                have HBX := Lib.hid hbx
                have HRX := Lib.hid hrx
                clear hwx hb23 hbx hzx hrx
                go_still_tail 5, (by kernel_rfl)
                change wpList _ _ _ _ _ wx.drew
                have hodl := hod.out.ltB
                have HODL := Lib.hid hodl
                clear hodl
                go_wp2_with (first
                  | (at_builtin; refine wpList_appS rfl (.tmp 63) (.tmp 66) rfl wx.drew wx.heap.size _ [] cl (some ⟨B, o + k + k2, none⟩) (c - k - k2) rfl rfl (Below.refl _ _) (OB.nil _ _) (SL.rd (HCL.out _ _ _ (HBX.out.drew.mono hsw) (fun _ => by rw [Nat.add_assoc]) hn1 (by unfold maxLen; omega))).2 (by have := hle.out; have := HB.out; simp; omega) (Nat.le_refl _) ?_; intro v6 w6 hv6 hb6; rw [List.nil_append] at hv6; obtain ⟨A9, c9, rfl⟩ := hv6.value; have hr6 := (hb6.block w3.heap.size (by have := HZX.out; omega)).trans HRX.out; have x1' := cell_of_row _ _ 1 _ _ _ hr6; have y1' := frozen_of_row _ _ 1 _ _ hr6; have x0' := cell_of_row _ _ 0 _ _ _ hr6; have x2' := cell_of_row _ _ 2 _ _ _ hr6; have HR6 := Lib.hid hr6; have HV6 := Lib.hid hv6; have HB6 := Lib.hid hb6; clear hr6 hv6 hb6)
                  | (at_builtin; have hbW : Below wr.heap.size wr ((w6.setCell ⟨w3.heap.size, 1, none⟩ (.slice A9 cl.length c9)).alloc (Obj.cells #[.int .i64 t, .slice A9 cl.length c9, .slice none 0 0] 70)) := ((HBX.out.drew.trans (HB6.out.mono HBX.out.size)).setCell (p := ⟨w3.heap.size, 1, none⟩) hs3 _).trans ((alloc_below _ _).mono (Nat.le_trans HBX.out.size (Nat.le_trans HB6.out.size ((Below.refl 0 w6).setCell (p := ⟨w3.heap.size, 1, none⟩) (Nat.zero_le _) _).size))); refine wpList_appD rfl (.tmp 69) (.tmp 71) rfl w.heap.size _ ts (.mk t cl []) (.slice A9 cl.length c9) (.slice none 0 0) w6.heap.size wx.heap.size rfl rfl (hod.out.later hbW) (((VI.of_fs HV6.out.fs).keep (set1_from (by have := HZX.out; omega) _)).on (alloc_below _ _)) (KI.nil _ _ _ _ (Nat.zero_le _)) (fun b hb => Nat.lt_of_lt_of_le (HODL.out b hb).2 HBX.out.size) (Nat.le_trans hsw HBX.out.size) (set_alloc_new _ _ _ _) (by have := hle.out; have := HB.out; omega) (Nat.le_trans hsw hbW.size) ?_; intro v8 w8 hod8 hb8; obtain ⟨A8, c8, rfl⟩ := hod8.value; have HOD8 := Lib.hid hod8; have HB8 := Lib.hid hb8; have HBW := Lib.hid hbW; clear hod8 hb8 hbW; rw [List.length_append] at *))
                all_goals
                  have hl1 : (bk.drop (k + k2 + cl.length)).length = bk.length - k - k2 - cl.length := by rw [List.length_drop]; omega
                  have hl2 : (ts ++ [T.mk (t : Int) cl []]).length = ts.length + 1 := by simp
                  have hbw : Below w.heap.size w w8 := (hbel.trans (HBW.out.mono hsw)).trans HB8.out
                  refine ⟨⟨bk.drop (k + k2 + cl.length), ts ++ [T.mk (t : Int) cl []], _, _, A8, c8, by rw [hl1], by rw [hl2], ?_, ?_, (by exact HOD8.out), hbw, ?_⟩, ?_⟩
                  · show _ = _
                    have hvr : valR d t cl = (0, .mk (t : Int) cl []) := by unfold valR; rw [if_neg (by rw [← HCB.out]; decide)]
                    rw [hcm.out, HRD.out, hvr, if_neg (fun h => h rfl), comb_comb]
                  · exact drop_sl hB HCE.out ((HBW.out.mono hsw).trans HB8.out) (k + k2 + cl.length) (by omega) (by omega) (fun h => by rw [if_neg (by omega), show o + (k + k2 + cl.length) = o + k + k2 + cl.length by omega]) (by omega) (by unfold maxLen; omega)
                  · show _ ≤ _
                    have := hle.out
                    rw [hl1, hl2]; omega
                  · show bk.length - k - k2 - cl.length < bk.length
                    omega
              | true =>
                have HRK : Hid (∀ (A : Option Addr) (c' : Nat) (W : World), Below wr.heap.size wr W → (0 < cl.length → A = some ⟨B, o + (k + k2), none⟩) → cl.length ≤ c' → c' ≤ maxLen → Calls Tryd.prog 85 #[.slice A cl.length c', .int .i64 ((d : Int) + 1)] W fun e w' => RlP W (readL (d + 1) cl) e w') := fun A c' W hb hA h1 h2 => by
                  have := IH.out cl (d + 1) _ W (by have := hle.out; have := HN.out; omega) (by have := hle.out; have := HB.out; omega) ((HCL.out A c' W (hb.mono hsw) hA h1 h2).more (Nat.le_trans hsw hb.size))
                  rwa [show ((d + 1 : Nat) : Int) = (d : Int) + 1 by omega] at this
                obtain ⟨RK, hRK⟩ : ∃ r, r = readL (d + 1) cl := ⟨_, rfl⟩
                have hkb := readL_bad (d + 1) cl
                rw [← hRK] at HRK hkb
                obtain ⟨er3, kids⟩ := RK
                have HRKE := Lib.hid hRK
                simp only at hkb
                clear hRK
                have hodl := hod.out.ltB
                have HODL := Lib.hid hodl
                clear hodl
                go_wp2_with (go_at_call 99; refine HT.out.mono ?_; rintro e w2 ⟨rfl, hb2⟩)
                refine (HLN.out _ _ (hb2.mono hsw) (fun _ => rfl)).mono ?_
                rintro e w3 ⟨rfl, hb3⟩
                go_wp2_with (go_at_call 96; refine (HC.out _).mono ?_; rintro e w' ⟨rfl, rfl⟩)
                obtain ⟨wx, hwx⟩ : ∃ wx, wx = w3.alloc (Obj.cells #[Value.int IntKind.i64 t, Value.slice none 0 0, Value.slice none 0 0] 70) := ⟨_, rfl⟩
                rw [← hwx]
                have hb23 : Below wr.heap.size wr w3 := hb2.trans (hb3.mono hb2.size)
                have hbx : Below wr.heap.size wr wx := by rw [hwx]; exact hb23.trans ((alloc_below w3 _).mono hb23.size)
                have hzx : wx.heap.size = w3.heap.size + 1 := by rw [hwx]; exact alloc_size _ _
                have hrx : wx.heap[w3.heap.size]? = some (.cells #[.int .i64 t, .slice none 0 0, .slice none 0 0] 70 (0, 0)) := by rw [hwx]; exact heap_alloc_new w3 _
                have hs3 := hb23.size
                have HZX := Lib.hid hzx
                have HBX := Lib.hid hbx
                have HRX := Lib.hid hrx
                clear hwx hb23 hbx hzx hrx
                refine (HRK.out _ _ _ HBX.out (fun _ => by rw [Nat.add_assoc]) hn1 (by unfold maxLen; omega)).mono ?_
                rintro e w6 ⟨A9, c9, rfl, hk6, hb6⟩
                have hr6 := (hb6.block w3.heap.size (by have := HZX.out; omega)).trans HRX.out
                have x0' := cell_of_row _ _ 0 _ _ _ hr6
                have x1' := cell_of_row _ _ 1 _ _ _ hr6
                have x2' := cell_of_row _ _ 2 _ _ _ hr6
                have y2' := frozen_of_row _ _ 2 _ _ hr6
                have HR6 := Lib.hid hr6
                have HK6 := Lib.hid hk6
                have HB6 := Lib.hid hb6
                clear hr6 hk6 hb6
                by_cases he3 : er3 = 0
                · subst he3
                  have HKB := Lib.hid hkb
                  clear hkb
                  go_wp2_with (at_builtin; have hbW : Below wr.heap.size wr ((w6.setCell ⟨w3.heap.size, 2, none⟩ (.slice A9 kids.length c9)).alloc (Obj.cells #[.int .i64 t, .slice none 0 0, .slice A9 kids.length c9] 70)) := ((HBX.out.trans (HB6.out.mono HBX.out.size)).setCell (p := ⟨w3.heap.size, 2, none⟩) hs3 _).trans ((alloc_below _ _).mono (Nat.le_trans HBX.out.size (Nat.le_trans HB6.out.size ((Below.refl 0 w6).setCell (p := ⟨w3.heap.size, 2, none⟩) (Nat.zero_le _) _).size))); refine wpList_appD rfl (.tmp 69) (.tmp 71) rfl w.heap.size _ ts (.mk t [] kids) (.slice none 0 0) (.slice A9 kids.length c9) w6.heap.size wx.heap.size rfl rfl (hod.out.later hbW) (VI.nil _ _ _ _ (Nat.zero_le _)) ((HK6.out.keep (set1_from (by have := HZX.out; omega) _)).on (alloc_below _ _)) (fun b hb => Nat.lt_of_lt_of_le (HODL.out b hb).2 HBX.out.size) (Nat.le_trans hsw HBX.out.size) (set_alloc_new _ _ _ _) (by have := hle.out; have := HB.out; omega) (Nat.le_trans hsw hbW.size) ?_; intro v8 w8 hod8 hb8; obtain ⟨A8, c8, rfl⟩ := hod8.value; have HOD8 := Lib.hid hod8; have HB8 := Lib.hid hb8; have HBW := Lib.hid hbW; clear hod8 hb8 hbW; rw [List.length_append] at *)
                  all_goals
                    have hl1 : (bk.drop (k + k2 + cl.length)).length = bk.length - k - k2 - cl.length := by rw [List.length_drop]; omega
                    have hl2 : (ts ++ [T.mk (t : Int) [] kids]).length = ts.length + 1 := by simp
                    have hbw : Below w.heap.size w w8 := (hbel.trans (HBW.out.mono hsw)).trans HB8.out
                    refine ⟨⟨bk.drop (k + k2 + cl.length), ts ++ [T.mk (t : Int) [] kids], _, _, A8, c8, by rw [hl1], by rw [hl2], ?_, ?_, (by exact HOD8.out), hbw, ?_⟩, ?_⟩
                    · show _ = _
                      have hvr : valR d t cl = (0, .mk (t : Int) [] kids) := by unfold valR; rw [if_pos (by rw [← HCB.out]), ← HRKE.out, if_neg (fun h => h rfl)]
                      rw [hcm.out, HRD.out, hvr, if_neg (fun h => h rfl), comb_comb]
                    · exact drop_sl hB HCE.out ((HBW.out.mono hsw).trans HB8.out) (k + k2 + cl.length) (by omega) (by omega) (fun h => by rw [if_neg (by omega), show o + (k + k2 + cl.length) = o + k + k2 + cl.length by omega]) (by omega) (by unfold maxLen; omega)
                    · show _ ≤ _
                      have := hle.out
                      rw [hl1, hl2]; omega
                    · show bk.length - k - k2 - cl.length < bk.length
                      omega
                · have hkn := hkb he3
                  subst hkn
                  have hvr : valR d t cl = (er3, T.zero) := by unfold valR; rw [if_pos (by rw [← HCB.out]), ← HRKE.out, if_pos he3]
                  have hR : R = (er3, []) := by rw [hcm.out, HRD.out, hvr, if_pos he3]; unfold comb; rw [if_pos he3]
                  have HR9 := Lib.hid hR
                  have heb : (er3 == 0) = false := by simpa using he3
                  clear hR hvr hkb he3
                  go_wp2_with fail
                  go_ret2
                  rw [HR9.out]
                  exact ⟨none, 0, rfl, KI.nil _ _ _ _ (Nat.zero_le _), (hbel.trans ((HBX.out.trans (HB6.out.mono HBX.out.size)).mono hsw)).setCell (p := ⟨w3.heap.size, 2, none⟩) (Nat.le_trans hsw hs3) _⟩
        · have hR : R = (er2, []) := by
            rw [hcm.out, readL_err HNE.out (er := er2) (by unfold hdR; rw [HTG.out]; simp only [HLR.out]; rw [if_neg (by omega), if_neg (fun h => h rfl), if_pos he2]) he2]
            unfold comb; rw [if_pos he2]
          have HR9 := Lib.hid hR
          have heb : (er2 == 0) = false := by simpa using he2
          clear hR hll he2
          by_cases hck : c = k
          · subst hck
            have h12 : c = 1 ∨ c = 2 := by omega
            have hL : bk.length = c := by omega
            rw [hL] at HT HLN ⊢
            clear ka kb hkl hk0 hk1 k1 k2c h0 hL
            rcases h12 with rfl | rfl
            all_goals
              go_wp2_with (go_at_call 99; refine HT.out.mono ?_; rintro e w2 ⟨rfl, hb2⟩)
              refine (HLN.out _ _ (hb2.mono hsw) (fun h => absurd h (by omega))).mono ?_
              rintro e w3 ⟨rfl, hb3⟩
              go_wp2_with fail
              go_ret2
              rw [HR9.out]
              exact ⟨none, 0, rfl, KI.nil _ _ _ _ (Nat.zero_le _), hbel.trans ((hb2.trans (hb3.mono hb2.size)).mono hsw)⟩
          · go_wp2_with (go_at_call 99; refine HT.out.mono ?_; rintro e w2 ⟨rfl, hb2⟩)
            refine (HLN.out _ _ (hb2.mono hsw) (fun _ => rfl)).mono ?_
            rintro e w3 ⟨rfl, hb3⟩
            go_wp2_with fail
            go_ret2
            rw [HR9.out]
            exact ⟨none, 0, rfl, KI.nil _ _ _ _ (Nat.zero_le _), hbel.trans ((hb2.trans (hb3.mono hb2.size)).mono hsw)⟩
      · have hR : R = (er, []) := by
          rw [hcm.out, readL_err HNE.out (er := er) (by unfold hdR; rw [HTG.out, if_neg (by omega), if_pos he]) he]
          unfold comb; rw [if_pos he]
        have HR9 := Lib.hid hR
        have heb : (er == 0) = false := by simpa using he
        clear hR hok he
        go_wp2_with (go_at_call 99; refine HT.out.mono ?_; rintro e w2 ⟨rfl, hb2⟩)
        go_ret2
        rw [HR9.out]
        exact ⟨none, 0, rfl, KI.nil _ _ _ _ (Nat.zero_le _), hbel.trans (hb2.mono hsw)⟩
    · have hbn : bk = [] := List.eq_nil_of_length_eq_zero (by omega)
      have hR : R = (0, ts) := by rw [hcm.out, hbn, readL_nil]; unfold comb; rw [if_neg (fun h => h rfl), List.append_nil]
      subst hbn
      have HR9 := Lib.hid hR
      clear hR
      go_wp2_with fail
      go_ret2
      rw [HR9.out]
      exact ⟨A6, c6, rfl, hod.out.ki, hbel⟩
theorem rr_any : ∀ (n : Nat) (b : List UInt8) (d : Nat) (v : Value) (w : World), b.length < n → b.length ≤ 5000 → SL w w.heap.size v b → Calls Tryd.prog 85 #[v, .int .i64 d] w fun e w' => RlP w (readL d b) e w'
  | 0, _, _, _, _, h, _, _ => absurd h (by omega)
  | n + 1, b, d, v, w, h, hl, hv => rr_step n (fun cl d' v' w' h' hl0 hl' => rr_any n cl d' v' w' h' hl0 hl') b d h hl v w hv
set_option maxRecDepth 100000 in
set_option maxHeartbeats 3200000 in
theorem rdecode_any (b : List UInt8) (v : Value) (w : World) (hv : SL w w.heap.size v b) : Calls Tryd.prog 59 #[v] w fun e w' => RlP w (decR b) e w' := by
  obtain ⟨A, c, rfl, h1, h2, h3⟩ := id hv
  unfold maxLen at h2
  have HV := Lib.hid hv
  obtain ⟨R, hR⟩ : ∃ R, R = decR b := ⟨_, rfl⟩
  rw [← hR]
  unfold decR at hR
  by_cases hl : 4096 < b.length
  · rw [if_pos hl] at hR
    subst hR
    have hli : (4096 : Int) < (b.length : Int) := by omega
    clear h3 hv
    go_enter Tryd.func59, Tryd.ntmps59
    go_wp2_with fail
    go_ret2
    exact ⟨none, 0, rfl, KI.nil _ _ _ _ (Nat.zero_le _), Below.refl _ _⟩
  · rw [if_neg hl] at hR
    have H := Lib.hid (rr_any (b.length + 1) b 1 (.slice A b.length c) w (by omega) (by omega) hv)
    rw [← hR] at H
    clear h3 hv hR
    go_enter Tryd.func59, Tryd.ntmps59
    go_wp2_with (go_at_call 85; refine H.out.mono ?_; rintro e w2 ⟨A2, c2, rfl, hk2, hb2⟩)
    go_ret2
    exact ⟨A2, c2, rfl, hk2, hb2⟩

end Go.Proofs.YtjkbfogjfgnhiaaDoor
