
/-
  readObject: what its runs share.
  readObject, by cases.
  readObject, by cases.
  readObject, by cases.
-/
import Derived.Test.YtjkbfogjfgnhiaaDoorDma
import Derived.StillTailTactics
namespace Go.Proofs.YtjkbfogjfgnhiaaDoor
set_option linter.unusedVariables false
set_option linter.unusedSimpArgs false
open Go.RowKit


theorem heap2_new (w : World) (A B : Obj) : ((w.alloc A).alloc B).heap[w.heap.size + 1]? = some B := by
  have := heap_alloc_new (w.alloc A) B
  rwa [alloc_size] at this
theorem set3_other (w : World) (g k : Nat) (x y z : Value) (h : k ≠ g) : (((w.setCell ⟨g, 0, none⟩ x).setCell ⟨g, 1, none⟩ y).setCell ⟨g, 2, none⟩ z).heap[k]? = w.heap[k]? := by
  rw [heap_setCell_other _ _ _ _ (by exact h), heap_setCell_other _ _ _ _ (by exact h), heap_setCell_other _ _ _ _ (by exact h)]
theorem set3_below {B : Nat} {a w : World} (h : Below B a w) (g : Nat) (hg : B ≤ g) (x y z : Value) : Below B a (((w.setCell ⟨g, 0, none⟩ x).setCell ⟨g, 1, none⟩ y).setCell ⟨g, 2, none⟩ z) :=
  ((h.setCell (p := ⟨g, 0, none⟩) hg x).setCell (p := ⟨g, 1, none⟩) hg y).setCell (p := ⟨g, 2, none⟩) hg z
theorem set3_cell (w : World) (g : Nat) (x y z : Value) (b : Nat) (hb : b ≠ g) (o : Nat) : (((w.setCell ⟨g, 0, none⟩ x).setCell ⟨g, 1, none⟩ y).setCell ⟨g, 2, none⟩ z).cell? ⟨b, o, none⟩ = w.cell? ⟨b, o, none⟩ := by
  rw [far_set _ _ (by exact hb), far_set _ _ (by exact hb), far_set _ _ (by exact hb)]
theorem ro_keep (w w3 w4 : World) (hbel : Below w.heap.size w w3) (e1 : w.heap.size + 1 < w3.heap.size) (hb4 : Below w3.drew.heap.size w3.drew w4) (u v : Value) (l : List UInt8) (ts : List T)
    (hv : VI w4 (From w4 w3.drew.heap.size) u l) (hk : KI w4 (From w4 w3.drew.heap.size) v ts) (x y z x' y' z' : Value) (w5 : World)
    (hw5 : w5 = ((w4.setCell ⟨w.heap.size + 1, 0, none⟩ x).setCell ⟨w.heap.size + 1, 1, none⟩ y).setCell ⟨w.heap.size + 1, 2, none⟩ z) (w6 : World)
    (hw6 : w6 = ((w5.drew.setCell ⟨w.heap.size, 0, none⟩ x').setCell ⟨w.heap.size, 1, none⟩ y').setCell ⟨w.heap.size, 2, none⟩ z') :
    VI w6 (From w6 w.heap.size) u l ∧ KI w6 (From w6 w.heap.size) v ts ∧ Below w.heap.size w w6 := by
  have e1' : w.heap.size + 1 < w3.drew.heap.size := e1
  have h5 : Below w4.heap.size w4 w4 := Below.refl _ _
  have b5 : Below w.heap.size w w5 := by rw [hw5]; exact set3_below (hbel.drew.trans (hb4.mono (by omega))) _ (by omega) _ _ _
  have b6 : Below w.heap.size w w6 := by rw [hw6]; exact set3_below b5.drew _ (Nat.le_refl _) _ _ _
  have z5 : Below 0 w4 w5 := by rw [hw5]; exact set3_below (Below.refl _ _) _ (by omega) _ _ _
  have z6 : Below 0 w5 w6 := by rw [hw6]; exact set3_below (Below.refl _ _).drew _ (by omega) _ _ _
  have s5 := z5.size
  have s6 := z6.size
  have hS : ∀ b, From w4 w3.drew.heap.size b → From w6 w.heap.size b ∧ ∀ o, w6.cell? ⟨b, o, none⟩ = w4.cell? ⟨b, o, none⟩ := fun b hb => by
    obtain ⟨h1, h2⟩ := hb
    refine ⟨⟨by omega, by omega⟩, fun o => ?_⟩
    rw [hw6, set3_cell _ _ _ _ _ _ (by omega)]
    show w5.cell? _ = _
    rw [hw5, set3_cell _ _ _ _ _ _ (by omega)]
  exact ⟨hv.keep hS, hk.keep hS, b6⟩
/-- What readObject gives where there is no error: the object, the bytes behind it. -/
def RoP (w : World) (B : Nat) (r : T) (off len : Nat) (e : Ending) (w' : World) : Prop :=
  Below w.heap.size w w' ∧ ∃ u k A c, e = .returned (.tuple #[.agg #[.int .i64 r.tag, u, k], .slice A len c, .int .i64 0]) ∧ VI w' (From w' w.heap.size) u r.val ∧ KI w' (From w' w.heap.size) k r.kids ∧ len ≤ c ∧ c ≤ 9223372036854775807 ∧ (0 < len → A = some ⟨B, off, none⟩)



set_option maxRecDepth 100000 in
set_option maxHeartbeats 6400000 in
theorem roA_L0_z (B o x d : Nat) (w : World) (hd : d ≤ 8) (g0 : w.cell? ⟨B, o, none⟩ = some (.int .u8 (x : Int))) (hx : x < 256) (hx0 : ((x : Int) == 0) = false) (ha : bits .and .i64 (x : Int) 31 = (x : Int) % 32) (hx1 : ¬ (x : Int) % 32 = 31) :
    Calls Tryd.prog 98 #[.slice (some ⟨B, o, none⟩) (0 + 1) (0 + 1), .int .i64 d] w fun e w' => e = .returned (.tuple #[.agg #[.int .i64 0, .slice none 0 0, .slice none 0 0], .slice none 0 0, .int .i64 5]) ∧ Below w.heap.size w w' := by
  have hlt := World.block_lt_of_cell? w _ g0
  have hd1 : decide (8 < (d : Int)) = false := decide_eq_false (by omega)
  have hx3 : (decide (8 < (d : Int)) || ((x : Int) == 0)) = false := by rw [hd1, hx0]; rfl
  go_enter Tryd.func98, Tryd.ntmps98
  go_wp2_with fail
  refine wp_scope_fwd 4 ?_
  intro C hC
  have HC := Lib.hid hC
  clear hC
  go_wp2_with fail
  go_region
  go_wp2_with fail
  go_step3
  refine Exit.fwd_goto (by rw [HC.out]; rfl) ?_
  go_wp2_with fail
  go_step3
  refine Exit.fwd_goto (by rw [HC.out]; rfl) ?_
  go_wp2_with fail
  exact bodyPost_ret (results_cell3 rfl _ _ w.heap.size 70 #[.int .i64 0, .slice none 0 0, .slice none 0 0] (0, 0) _ rfl (heap_alloc2_old _ _ _) Tryd.underlying70 rfl (by kernel_rfl)) rfl ⟨rfl, (alloc2_below _ _ _).drew⟩

set_option maxRecDepth 100000 in
set_option maxHeartbeats 6400000 in
theorem roA_L0_p (B o x q d : Nat) (w : World) (hd : d ≤ 8) (g0 : w.cell? ⟨B, o, none⟩ = some (.int .u8 (x : Int))) (hx : x < 256) (hx0 : ((x : Int) == 0) = false) (ha : bits .and .i64 (x : Int) 31 = (x : Int) % 32) (hx1 : ¬ (x : Int) % 32 = 31) (hq0 : ¬ q = 0) (hc2 : q + 1 ≤ 9223372036854775807) :
    Calls Tryd.prog 98 #[.slice (some ⟨B, o, none⟩) (0 + 1) (q + 1), .int .i64 d] w fun e w' => e = .returned (.tuple #[.agg #[.int .i64 0, .slice none 0 0, .slice none 0 0], .slice none 0 0, .int .i64 5]) ∧ Below w.heap.size w w' := by
  have hlt := World.block_lt_of_cell? w _ g0
  have hd1 : decide (8 < (d : Int)) = false := decide_eq_false (by omega)
  have hx3 : (decide (8 < (d : Int)) || ((x : Int) == 0)) = false := by rw [hd1, hx0]; rfl
  go_enter Tryd.func98, Tryd.ntmps98
  go_wp2_with fail
  refine wp_scope_fwd 4 ?_
  intro C hC
  have HC := Lib.hid hC
  clear hC
  go_wp2_with fail
  go_region
  go_wp2_with fail
  go_step3
  refine Exit.fwd_goto (by rw [HC.out]; rfl) ?_
  go_wp2_with fail
  go_step3
  refine Exit.fwd_goto (by rw [HC.out]; rfl) ?_
  go_wp2_with fail
  exact bodyPost_ret (results_cell3 rfl _ _ w.heap.size 70 #[.int .i64 0, .slice none 0 0, .slice none 0 0] (0, 0) _ rfl (heap_alloc2_old _ _ _) Tryd.underlying70 rfl (by kernel_rfl)) rfl ⟨rfl, (alloc2_below _ _ _).drew⟩

set_option maxRecDepth 100000 in
set_option maxHeartbeats 6400000 in
theorem roA_L1Vs_z (B o x z d : Nat) (w : World) (hd : d ≤ 8) (g0 : w.cell? ⟨B, o, none⟩ = some (.int .u8 (x : Int))) (hx : x < 256) (hx0 : ((x : Int) == 0) = false) (ha : bits .and .i64 (x : Int) 31 = (x : Int) % 32) (hx1 : ¬ (x : Int) % 32 = 31) (gz : w.cell? ⟨B, o + 1, none⟩ = some (.int .u8 (z : Int))) (hz : z < 256) (hz1 : (z : Int) < 128) (hnm : (0 : Int) < (z : Int)) :
    Calls Tryd.prog 98 #[.slice (some ⟨B, o, none⟩) (0 + 1 + 1) (0 + 1 + 1), .int .i64 d] w fun e w' => e = .returned (.tuple #[.agg #[.int .i64 0, .slice none 0 0, .slice none 0 0], .slice none 0 0, .int .i64 5]) ∧ Below w.heap.size w w' := by
  have hlt := World.block_lt_of_cell? w _ g0
  have hd1 : decide (8 < (d : Int)) = false := decide_eq_false (by omega)
  have hx3 : (decide (8 < (d : Int)) || ((x : Int) == 0)) = false := by rw [hd1, hx0]; rfl
  go_enter Tryd.func98, Tryd.ntmps98
  go_wp2_with fail
  refine wp_scope_fwd 4 ?_
  intro C hC
  have HC := Lib.hid hC
  clear hC
  go_wp2_with fail
  go_region
  go_wp2_with fail
  go_step3
  refine Exit.fwd_goto (by rw [HC.out]; rfl) ?_
  go_wp2_with fail
  go_region
  go_wp2_with fail
  go_step3
  refine Exit.fwd_goto (by rw [HC.out]; rfl) ?_
  go_wp2_with fail
  go_step3
  refine Exit.fwd_goto (by rw [HC.out]; rfl) ?_
  go_wp2_with fail
  exact bodyPost_ret (results_cell3 rfl _ _ w.heap.size 70 #[.int .i64 0, .slice none 0 0, .slice none 0 0] (0, 0) _ rfl (heap_alloc2_old _ _ _) Tryd.underlying70 rfl (by kernel_rfl)) rfl ⟨rfl, (alloc2_below _ _ _).drew.drew⟩

set_option maxRecDepth 100000 in
set_option maxHeartbeats 6400000 in
theorem roA_L1Vs_p (B o x z m q d : Nat) (w : World) (hd : d ≤ 8) (g0 : w.cell? ⟨B, o, none⟩ = some (.int .u8 (x : Int))) (hx : x < 256) (hx0 : ((x : Int) == 0) = false) (ha : bits .and .i64 (x : Int) 31 = (x : Int) % 32) (hx1 : ¬ (x : Int) % 32 = 31) (gz : w.cell? ⟨B, o + 1, none⟩ = some (.int .u8 (z : Int))) (hz : z < 256) (hL : m ≤ q) (hc2 : q + 1 + 1 ≤ 9223372036854775807) (hq0 : ¬ q = 0) (hz1 : (z : Int) < 128) (hnm : (m : Int) < (z : Int)) :
    Calls Tryd.prog 98 #[.slice (some ⟨B, o, none⟩) (m + 1 + 1) (q + 1 + 1), .int .i64 d] w fun e w' => e = .returned (.tuple #[.agg #[.int .i64 0, .slice none 0 0, .slice none 0 0], .slice none 0 0, .int .i64 5]) ∧ Below w.heap.size w w' := by
  have hlt := World.block_lt_of_cell? w _ g0
  have hd1 : decide (8 < (d : Int)) = false := decide_eq_false (by omega)
  have hx3 : (decide (8 < (d : Int)) || ((x : Int) == 0)) = false := by rw [hd1, hx0]; rfl
  go_enter Tryd.func98, Tryd.ntmps98
  go_wp2_with fail
  refine wp_scope_fwd 4 ?_
  intro C hC
  have HC := Lib.hid hC
  clear hC
  go_wp2_with fail
  go_region
  go_wp2_with fail
  go_step3
  refine Exit.fwd_goto (by rw [HC.out]; rfl) ?_
  go_wp2_with fail
  go_region
  go_wp2_with fail
  go_step3
  refine Exit.fwd_goto (by rw [HC.out]; rfl) ?_
  go_wp2_with fail
  go_step3
  refine Exit.fwd_goto (by rw [HC.out]; rfl) ?_
  go_wp2_with fail
  exact bodyPost_ret (results_cell3 rfl _ _ w.heap.size 70 #[.int .i64 0, .slice none 0 0, .slice none 0 0] (0, 0) _ rfl (heap_alloc2_old _ _ _) Tryd.underlying70 rfl (by kernel_rfl)) rfl ⟨rfl, (alloc2_below _ _ _).drew.drew⟩



set_option maxRecDepth 100000 in
set_option maxHeartbeats 6400000 in
theorem roA_L1Ve_z (B o x z d : Nat) (er : Int) (w : World) (hd : d ≤ 8) (g0 : w.cell? ⟨B, o, none⟩ = some (.int .u8 (x : Int))) (hx : x < 256) (hx0 : ((x : Int) == 0) = false) (ha : bits .and .i64 (x : Int) 31 = (x : Int) % 32) (hx1 : ¬ (x : Int) % 32 = 31) (gz : w.cell? ⟨B, o + 1, none⟩ = some (.int .u8 (z : Int))) (hz : z < 256) (hz1 : (z : Int) < 128) (hnm : ¬ (0 : Int) < (z : Int)) (hnle : z ≤ 0) (her : (er == 0) = false) (HW0 : ∀ A c W, Below w.heap.size w W → (0 < z → A = some ⟨B, o + 2, none⟩) → z ≤ c → c ≤ 9223372036854775807 → Calls Tryd.prog 113 #[.int .i64 x, .slice A z c, .int .i64 d] W fun e w' => ∃ A1 c1 A2 c2, e = .returned (.tuple #[.agg #[.int .i64 0, .slice A1 0 c1, .slice A2 0 c2], .int .i64 er]) ∧ Below W.heap.size W w') :
    Calls Tryd.prog 98 #[.slice (some ⟨B, o, none⟩) (0 + 1 + 1) (0 + 1 + 1), .int .i64 d] w fun e w' => e = .returned (.tuple #[.agg #[.int .i64 0, .slice none 0 0, .slice none 0 0], .slice none 0 0, .int .i64 er]) ∧ Below w.heap.size w w' := by
  have hlt := World.block_lt_of_cell? w _ g0
  have hd1 : decide (8 < (d : Int)) = false := decide_eq_false (by omega)
  have hx3 : (decide (8 < (d : Int)) || ((x : Int) == 0)) = false := by rw [hd1, hx0]; rfl
  have HWV := Lib.hid HW0
  clear HW0
  obtain rfl : z = 0 := by omega
  go_enter Tryd.func98, Tryd.ntmps98
  go_wp2_with fail
  refine wp_scope_fwd 4 ?_
  intro C hC
  have HC := Lib.hid hC
  clear hC
  go_wp2_with fail
  go_region
  go_wp2_with fail
  go_step3
  refine Exit.fwd_goto (by rw [HC.out]; rfl) ?_
  go_wp2_with fail
  go_region
  go_wp2_with fail
  go_step3
  refine Exit.fwd_goto (by rw [HC.out]; rfl) ?_
  go_wp2_with fail
  obtain ⟨w3, hw3⟩ : ∃ w3, w3 = ((w.alloc (Obj.cells #[Value.int IntKind.i64 0, Value.slice none 0 0, Value.slice none 0 0] 70)).alloc (Obj.cells #[Value.int IntKind.i64 x, Value.slice none 0 0, Value.slice none 0 0] 70)).drew.drew := ⟨_, rfl⟩
  try rw [← hw3]
  have e0 : w.heap.size < w3.heap.size := by rw [hw3]; show w.heap.size < ((w.alloc _).alloc _).heap.size; rw [alloc_size, alloc_size]; omega
  have e1 : w.heap.size + 1 < w3.heap.size := by rw [hw3]; show w.heap.size + 1 < ((w.alloc _).alloc _).heap.size; rw [alloc_size, alloc_size]; omega
  have hrow : w3.heap[w.heap.size]? = some (.cells #[.int .i64 0, .slice none 0 0, .slice none 0 0] 70 (0, 0)) := by rw [hw3]; exact heap_alloc2_old w _ _
  have hrow1 : w3.heap[w.heap.size + 1]? = some (.cells #[.int .i64 x, .slice none 0 0, .slice none 0 0] 70 (0, 0)) := by rw [hw3]; exact heap2_new w _ _
  have hbel : Below w.heap.size w w3 := by rw [hw3]; exact (alloc2_below w _ _).drew.drew
  clear hw3
  have q0 : w3.cell? ⟨w.heap.size + 1, 0, none⟩ = some (.int .i64 x) := cell_of_row _ _ 0 _ _ _ hrow1
  have HROW := Lib.hid hrow
  have HROW1 := Lib.hid hrow1
  clear hrow hrow1
  go_region_with (go_at_call 113; (refine (HWV.out _ _ _ (by first | exact hbel | exact hbel.drew) (fun h => absurd h (by omega)) (by omega) (by omega)).mono ?_); rintro e w4 ⟨A1, c1, A2, c2, rfl, hb4⟩; have hr1 : w4.heap[w.heap.size + 1]? = some (.cells #[.int .i64 x, .slice none 0 0, .slice none 0 0] 70 (0, 0)) := (hb4.block _ e1).trans HROW1.out; have hr0 : w4.heap[w.heap.size]? = some (.cells #[.int .i64 0, .slice none 0 0, .slice none 0 0] 70 (0, 0)) := (hb4.block _ e0).trans HROW.out; have p0 : w4.cell? ⟨w.heap.size + 1, 0, none⟩ = some (.int .i64 x) := cell_of_row _ _ 0 _ _ _ hr1; have p1 : w4.cell? ⟨w.heap.size + 1, 1, none⟩ = some (.slice none 0 0) := cell_of_row _ _ 1 _ _ _ hr1; have p2 : w4.cell? ⟨w.heap.size + 1, 2, none⟩ = some (.slice none 0 0) := cell_of_row _ _ 2 _ _ _ hr1; have f0 := frozen_of_row _ _ 0 _ _ hr1; have f1 := frozen_of_row _ _ 1 _ _ hr1; have f2 := frozen_of_row _ _ 2 _ _ hr1; have z0 : w4.cell? ⟨w.heap.size, 0, none⟩ = some (.int .i64 0) := cell_of_row _ _ 0 _ _ _ hr0; have z1 : w4.cell? ⟨w.heap.size, 1, none⟩ = some (.slice none 0 0) := cell_of_row _ _ 1 _ _ _ hr0; have z2 : w4.cell? ⟨w.heap.size, 2, none⟩ = some (.slice none 0 0) := cell_of_row _ _ 2 _ _ _ hr0; have y0 := frozen_of_row _ _ 0 _ _ hr0; have y1 := frozen_of_row _ _ 1 _ _ hr0; have y2 := frozen_of_row _ _ 2 _ _ hr0; have HR1 := Lib.hid hr1; have HR0 := Lib.hid hr0; clear hr1 hr0)
  all_goals
    go_wp2_with fail
    try rw [Exit.fwd_ret]
    exact bodyPost_ret (results_cell3 rfl _ _ w.heap.size 70 #[.int .i64 0, .slice none 0 0, .slice none 0 0] (0, 0) _ rfl (row3_set _ _ _ _ _ _ _ _ _ ((set3_other w4 (w.heap.size + 1) w.heap.size _ _ _ (by omega)).trans HR0.out)) Tryd.underlying70 rfl (by kernel_rfl)) rfl ⟨rfl, set3_below (set3_below (hbel.drew.trans (hb4.mono (Nat.le_of_lt e0))) _ (Nat.le_succ _) _ _ _) _ (Nat.le_refl _) _ _ _⟩

set_option maxRecDepth 100000 in
set_option maxHeartbeats 6400000 in
theorem roA_L1Ve_p (B o x z m q d : Nat) (er : Int) (w : World) (hd : d ≤ 8) (g0 : w.cell? ⟨B, o, none⟩ = some (.int .u8 (x : Int))) (hx : x < 256) (hx0 : ((x : Int) == 0) = false) (ha : bits .and .i64 (x : Int) 31 = (x : Int) % 32) (hx1 : ¬ (x : Int) % 32 = 31) (gz : w.cell? ⟨B, o + 1, none⟩ = some (.int .u8 (z : Int))) (hz : z < 256) (hL : m ≤ q) (hc2 : q + 1 + 1 ≤ 9223372036854775807) (hq0 : ¬ q = 0) (hz1 : (z : Int) < 128) (hnm : ¬ (m : Int) < (z : Int)) (hnle : z ≤ m) (her : (er == 0) = false) (HW0 : ∀ A c W, Below w.heap.size w W → (0 < z → A = some ⟨B, o + 2, none⟩) → z ≤ c → c ≤ 9223372036854775807 → Calls Tryd.prog 113 #[.int .i64 x, .slice A z c, .int .i64 d] W fun e w' => ∃ A1 c1 A2 c2, e = .returned (.tuple #[.agg #[.int .i64 0, .slice A1 0 c1, .slice A2 0 c2], .int .i64 er]) ∧ Below W.heap.size W w') :
    Calls Tryd.prog 98 #[.slice (some ⟨B, o, none⟩) (m + 1 + 1) (q + 1 + 1), .int .i64 d] w fun e w' => e = .returned (.tuple #[.agg #[.int .i64 0, .slice none 0 0, .slice none 0 0], .slice none 0 0, .int .i64 er]) ∧ Below w.heap.size w w' := by
  have hlt := World.block_lt_of_cell? w _ g0
  have hd1 : decide (8 < (d : Int)) = false := decide_eq_false (by omega)
  have hx3 : (decide (8 < (d : Int)) || ((x : Int) == 0)) = false := by rw [hd1, hx0]; rfl
  have HWV := Lib.hid HW0
  clear HW0
  have hnq : z ≤ q := by omega
  have hnq2 : (z : Int) ≤ (q : Int) := by omega
  have hn0 : (0 : Int) ≤ (z : Int) := by omega
  have hnm3 : (z : Int) ≤ (m : Int) := by omega
  go_enter Tryd.func98, Tryd.ntmps98
  go_wp2_with fail
  refine wp_scope_fwd 4 ?_
  intro C hC
  have HC := Lib.hid hC
  clear hC
  go_wp2_with fail
  go_region
  go_wp2_with fail
  go_step3
  refine Exit.fwd_goto (by rw [HC.out]; rfl) ?_
  go_wp2_with fail
  go_region
  go_wp2_with fail
  go_step3
  refine Exit.fwd_goto (by rw [HC.out]; rfl) ?_
  go_wp2_with fail
  obtain ⟨w3, hw3⟩ : ∃ w3, w3 = ((w.alloc (Obj.cells #[Value.int IntKind.i64 0, Value.slice none 0 0, Value.slice none 0 0] 70)).alloc (Obj.cells #[Value.int IntKind.i64 x, Value.slice none 0 0, Value.slice none 0 0] 70)).drew.drew := ⟨_, rfl⟩
  try rw [← hw3]
  have e0 : w.heap.size < w3.heap.size := by rw [hw3]; show w.heap.size < ((w.alloc _).alloc _).heap.size; rw [alloc_size, alloc_size]; omega
  have e1 : w.heap.size + 1 < w3.heap.size := by rw [hw3]; show w.heap.size + 1 < ((w.alloc _).alloc _).heap.size; rw [alloc_size, alloc_size]; omega
  have hrow : w3.heap[w.heap.size]? = some (.cells #[.int .i64 0, .slice none 0 0, .slice none 0 0] 70 (0, 0)) := by rw [hw3]; exact heap_alloc2_old w _ _
  have hrow1 : w3.heap[w.heap.size + 1]? = some (.cells #[.int .i64 x, .slice none 0 0, .slice none 0 0] 70 (0, 0)) := by rw [hw3]; exact heap2_new w _ _
  have hbel : Below w.heap.size w w3 := by rw [hw3]; exact (alloc2_below w _ _).drew.drew
  clear hw3
  have q0 : w3.cell? ⟨w.heap.size + 1, 0, none⟩ = some (.int .i64 x) := cell_of_row _ _ 0 _ _ _ hrow1
  have HROW := Lib.hid hrow
  have HROW1 := Lib.hid hrow1
  clear hrow hrow1
  go_region_with (go_at_call 113; (refine (HWV.out _ _ _ (by first | exact hbel | exact hbel.drew) (fun _ => rfl) (by omega) (by omega)).mono ?_); rintro e w4 ⟨A1, c1, A2, c2, rfl, hb4⟩; have hr1 : w4.heap[w.heap.size + 1]? = some (.cells #[.int .i64 x, .slice none 0 0, .slice none 0 0] 70 (0, 0)) := (hb4.block _ e1).trans HROW1.out; have hr0 : w4.heap[w.heap.size]? = some (.cells #[.int .i64 0, .slice none 0 0, .slice none 0 0] 70 (0, 0)) := (hb4.block _ e0).trans HROW.out; have p0 : w4.cell? ⟨w.heap.size + 1, 0, none⟩ = some (.int .i64 x) := cell_of_row _ _ 0 _ _ _ hr1; have p1 : w4.cell? ⟨w.heap.size + 1, 1, none⟩ = some (.slice none 0 0) := cell_of_row _ _ 1 _ _ _ hr1; have p2 : w4.cell? ⟨w.heap.size + 1, 2, none⟩ = some (.slice none 0 0) := cell_of_row _ _ 2 _ _ _ hr1; have f0 := frozen_of_row _ _ 0 _ _ hr1; have f1 := frozen_of_row _ _ 1 _ _ hr1; have f2 := frozen_of_row _ _ 2 _ _ hr1; have z0 : w4.cell? ⟨w.heap.size, 0, none⟩ = some (.int .i64 0) := cell_of_row _ _ 0 _ _ _ hr0; have z1 : w4.cell? ⟨w.heap.size, 1, none⟩ = some (.slice none 0 0) := cell_of_row _ _ 1 _ _ _ hr0; have z2 : w4.cell? ⟨w.heap.size, 2, none⟩ = some (.slice none 0 0) := cell_of_row _ _ 2 _ _ _ hr0; have y0 := frozen_of_row _ _ 0 _ _ hr0; have y1 := frozen_of_row _ _ 1 _ _ hr0; have y2 := frozen_of_row _ _ 2 _ _ hr0; have HR1 := Lib.hid hr1; have HR0 := Lib.hid hr0; clear hr1 hr0)
  all_goals
    go_wp2_with fail
    try rw [Exit.fwd_ret]
    exact bodyPost_ret (results_cell3 rfl _ _ w.heap.size 70 #[.int .i64 0, .slice none 0 0, .slice none 0 0] (0, 0) _ rfl (row3_set _ _ _ _ _ _ _ _ _ ((set3_other w4 (w.heap.size + 1) w.heap.size _ _ _ (by omega)).trans HR0.out)) Tryd.underlying70 rfl (by kernel_rfl)) rfl ⟨rfl, set3_below (set3_below (hbel.drew.trans (hb4.mono (Nat.le_of_lt e0))) _ (Nat.le_succ _) _ _ _) _ (Nat.le_refl _) _ _ _⟩

set_option maxRecDepth 100000 in
set_option maxHeartbeats 6400000 in
theorem roA_L1Vo_z (B o x z d : Nat) (r : T) (w : World) (hd : d ≤ 8) (g0 : w.cell? ⟨B, o, none⟩ = some (.int .u8 (x : Int))) (hx : x < 256) (hx0 : ((x : Int) == 0) = false) (ha : bits .and .i64 (x : Int) 31 = (x : Int) % 32) (hx1 : ¬ (x : Int) % 32 = 31) (gz : w.cell? ⟨B, o + 1, none⟩ = some (.int .u8 (z : Int))) (hz : z < 256) (hz1 : (z : Int) < 128) (hnm : ¬ (0 : Int) < (z : Int)) (hnle : z ≤ 0) (HW0 : ∀ A c W, Below w.heap.size w W → (0 < z → A = some ⟨B, o + 2, none⟩) → z ≤ c → c ≤ 9223372036854775807 → Calls Tryd.prog 113 #[.int .i64 x, .slice A z c, .int .i64 d] W fun e w' => ∃ A1 c1 A2 c2, e = .returned (.tuple #[.agg #[.int .i64 r.tag, .slice A1 r.val.length c1, .slice A2 r.kids.length c2], .int .i64 0]) ∧ VI w' (From w' W.heap.size) (.slice A1 r.val.length c1) r.val ∧ KI w' (From w' W.heap.size) (.slice A2 r.kids.length c2) r.kids ∧ Below W.heap.size W w') :
    Calls Tryd.prog 98 #[.slice (some ⟨B, o, none⟩) (0 + 1 + 1) (0 + 1 + 1), .int .i64 d] w fun e w' => RoP w B r (o + 2 + z) (0) e w' := by
  have hlt := World.block_lt_of_cell? w _ g0
  have hd1 : decide (8 < (d : Int)) = false := decide_eq_false (by omega)
  have hx3 : (decide (8 < (d : Int)) || ((x : Int) == 0)) = false := by rw [hd1, hx0]; rfl
  have HWV := Lib.hid HW0
  clear HW0
  obtain rfl : z = 0 := by omega
  go_enter Tryd.func98, Tryd.ntmps98
  go_wp2_with fail
  refine wp_scope_fwd 4 ?_
  intro C hC
  have HC := Lib.hid hC
  clear hC
  go_wp2_with fail
  go_region
  go_wp2_with fail
  go_step3
  refine Exit.fwd_goto (by rw [HC.out]; rfl) ?_
  go_wp2_with fail
  go_region
  go_wp2_with fail
  go_step3
  refine Exit.fwd_goto (by rw [HC.out]; rfl) ?_
  go_wp2_with fail
  obtain ⟨w3, hw3⟩ : ∃ w3, w3 = ((w.alloc (Obj.cells #[Value.int IntKind.i64 0, Value.slice none 0 0, Value.slice none 0 0] 70)).alloc (Obj.cells #[Value.int IntKind.i64 x, Value.slice none 0 0, Value.slice none 0 0] 70)).drew.drew := ⟨_, rfl⟩
  try rw [← hw3]
  have e0 : w.heap.size < w3.heap.size := by rw [hw3]; show w.heap.size < ((w.alloc _).alloc _).heap.size; rw [alloc_size, alloc_size]; omega
  have e1 : w.heap.size + 1 < w3.heap.size := by rw [hw3]; show w.heap.size + 1 < ((w.alloc _).alloc _).heap.size; rw [alloc_size, alloc_size]; omega
  have hrow : w3.heap[w.heap.size]? = some (.cells #[.int .i64 0, .slice none 0 0, .slice none 0 0] 70 (0, 0)) := by rw [hw3]; exact heap_alloc2_old w _ _
  have hrow1 : w3.heap[w.heap.size + 1]? = some (.cells #[.int .i64 x, .slice none 0 0, .slice none 0 0] 70 (0, 0)) := by rw [hw3]; exact heap2_new w _ _
  have hbel : Below w.heap.size w w3 := by rw [hw3]; exact (alloc2_below w _ _).drew.drew
  clear hw3
  have q0 : w3.cell? ⟨w.heap.size + 1, 0, none⟩ = some (.int .i64 x) := cell_of_row _ _ 0 _ _ _ hrow1
  have HROW := Lib.hid hrow
  have HROW1 := Lib.hid hrow1
  clear hrow hrow1
  go_region_with (go_at_call 113; (refine (HWV.out _ _ _ (by first | exact hbel | exact hbel.drew) (fun h => absurd h (by omega)) (by omega) (by omega)).mono ?_); rintro e w4 ⟨A1, c1, A2, c2, rfl, hv4, hk4, hb4⟩; have hr1 : w4.heap[w.heap.size + 1]? = some (.cells #[.int .i64 x, .slice none 0 0, .slice none 0 0] 70 (0, 0)) := (hb4.block _ e1).trans HROW1.out; have hr0 : w4.heap[w.heap.size]? = some (.cells #[.int .i64 0, .slice none 0 0, .slice none 0 0] 70 (0, 0)) := (hb4.block _ e0).trans HROW.out; have p0 : w4.cell? ⟨w.heap.size + 1, 0, none⟩ = some (.int .i64 x) := cell_of_row _ _ 0 _ _ _ hr1; have p1 : w4.cell? ⟨w.heap.size + 1, 1, none⟩ = some (.slice none 0 0) := cell_of_row _ _ 1 _ _ _ hr1; have p2 : w4.cell? ⟨w.heap.size + 1, 2, none⟩ = some (.slice none 0 0) := cell_of_row _ _ 2 _ _ _ hr1; have f0 := frozen_of_row _ _ 0 _ _ hr1; have f1 := frozen_of_row _ _ 1 _ _ hr1; have f2 := frozen_of_row _ _ 2 _ _ hr1; have HR1 := Lib.hid hr1; have HR0 := Lib.hid hr0; clear hr1 hr0)
  all_goals
    go_wp2_with fail
    obtain ⟨w5, hw5⟩ : ∃ w5, w5 = ((w4.setCell ⟨w.heap.size + 1, 0, none⟩ (.int .i64 r.tag)).setCell ⟨w.heap.size + 1, 1, none⟩ (.slice A1 r.val.length c1)).setCell ⟨w.heap.size + 1, 2, none⟩ (.slice A2 r.kids.length c2) := ⟨_, rfl⟩
    rw [← hw5]
    have i1 : w5.heap[w.heap.size + 1]? = some (.cells #[.int .i64 r.tag, .slice A1 r.val.length c1, .slice A2 r.kids.length c2] 70 (0, 0)) := by rw [hw5]; exact row3_set _ _ _ _ _ _ _ _ _ HR1.out
    have i0 : w5.heap[w.heap.size]? = some (.cells #[.int .i64 0, .slice none 0 0, .slice none 0 0] 70 (0, 0)) := by rw [hw5, set3_other _ _ _ _ _ _ (by omega)]; exact HR0.out
    have HW5 := Lib.hid hw5
    have l0 := cell_of_row _ _ 0 _ _ _ i1
    have l1 := cell_of_row _ _ 1 _ _ _ i1
    have l2 := cell_of_row _ _ 2 _ _ _ i1
    have z0 := cell_of_row _ _ 0 _ _ _ i0
    have z1 := cell_of_row _ _ 1 _ _ _ i0
    have z2 := cell_of_row _ _ 2 _ _ _ i0
    have y0 := frozen_of_row _ _ 0 _ _ i0
    have y1 := frozen_of_row _ _ 1 _ _ i0
    have y2 := frozen_of_row _ _ 2 _ _ i0
    have I0 := Lib.hid i0
    clear hw5 p0 p1 p2 f0 f1 f2 i0 i1
    go_region
    all_goals go_wp2_with fail
    all_goals
      obtain ⟨E1, E2, E3⟩ := ro_keep w w3 w4 hbel e1 hb4 _ _ _ _ hv4 hk4 _ _ _ (.int .i64 r.tag) (.slice A1 r.val.length c1) (.slice A2 r.kids.length c2) w5 HW5.out _ rfl
      exact bodyPost_ret (results_cell3 rfl _ _ w.heap.size 70 #[.int .i64 r.tag, .slice A1 r.val.length c1, .slice A2 r.kids.length c2] (0, 0) _ rfl (row3_set _ _ _ _ _ _ _ _ _ I0.out) Tryd.underlying70 rfl (by kernel_rfl)) rfl ⟨E3, _, _, _, _, rfl, E1, E2, (by omega), (by omega), fun h => by first | rfl | (exfalso; omega)⟩

set_option maxRecDepth 100000 in
set_option maxHeartbeats 6400000 in
theorem roA_L1Vo_p (B o x z m q d : Nat) (r : T) (w : World) (hd : d ≤ 8) (g0 : w.cell? ⟨B, o, none⟩ = some (.int .u8 (x : Int))) (hx : x < 256) (hx0 : ((x : Int) == 0) = false) (ha : bits .and .i64 (x : Int) 31 = (x : Int) % 32) (hx1 : ¬ (x : Int) % 32 = 31) (gz : w.cell? ⟨B, o + 1, none⟩ = some (.int .u8 (z : Int))) (hz : z < 256) (hL : m ≤ q) (hc2 : q + 1 + 1 ≤ 9223372036854775807) (hq0 : ¬ q = 0) (hz1 : (z : Int) < 128) (hnm : ¬ (m : Int) < (z : Int)) (hnle : z ≤ m) (HW0 : ∀ A c W, Below w.heap.size w W → (0 < z → A = some ⟨B, o + 2, none⟩) → z ≤ c → c ≤ 9223372036854775807 → Calls Tryd.prog 113 #[.int .i64 x, .slice A z c, .int .i64 d] W fun e w' => ∃ A1 c1 A2 c2, e = .returned (.tuple #[.agg #[.int .i64 r.tag, .slice A1 r.val.length c1, .slice A2 r.kids.length c2], .int .i64 0]) ∧ VI w' (From w' W.heap.size) (.slice A1 r.val.length c1) r.val ∧ KI w' (From w' W.heap.size) (.slice A2 r.kids.length c2) r.kids ∧ Below W.heap.size W w') :
    Calls Tryd.prog 98 #[.slice (some ⟨B, o, none⟩) (m + 1 + 1) (q + 1 + 1), .int .i64 d] w fun e w' => RoP w B r (o + 2 + z) (m - z) e w' := by
  have hlt := World.block_lt_of_cell? w _ g0
  have hd1 : decide (8 < (d : Int)) = false := decide_eq_false (by omega)
  have hx3 : (decide (8 < (d : Int)) || ((x : Int) == 0)) = false := by rw [hd1, hx0]; rfl
  have HWV := Lib.hid HW0
  clear HW0
  have hnq : z ≤ q := by omega
  have hnq2 : (z : Int) ≤ (q : Int) := by omega
  have hn0 : (0 : Int) ≤ (z : Int) := by omega
  have hnm3 : (z : Int) ≤ (m : Int) := by omega
  go_enter Tryd.func98, Tryd.ntmps98
  go_wp2_with fail
  refine wp_scope_fwd 4 ?_
  intro C hC
  have HC := Lib.hid hC
  clear hC
  go_wp2_with fail
  go_region
  go_wp2_with fail
  go_step3
  refine Exit.fwd_goto (by rw [HC.out]; rfl) ?_
  go_wp2_with fail
  go_region
  go_wp2_with fail
  go_step3
  refine Exit.fwd_goto (by rw [HC.out]; rfl) ?_
  go_wp2_with fail
  obtain ⟨w3, hw3⟩ : ∃ w3, w3 = ((w.alloc (Obj.cells #[Value.int IntKind.i64 0, Value.slice none 0 0, Value.slice none 0 0] 70)).alloc (Obj.cells #[Value.int IntKind.i64 x, Value.slice none 0 0, Value.slice none 0 0] 70)).drew.drew := ⟨_, rfl⟩
  try rw [← hw3]
  have e0 : w.heap.size < w3.heap.size := by rw [hw3]; show w.heap.size < ((w.alloc _).alloc _).heap.size; rw [alloc_size, alloc_size]; omega
  have e1 : w.heap.size + 1 < w3.heap.size := by rw [hw3]; show w.heap.size + 1 < ((w.alloc _).alloc _).heap.size; rw [alloc_size, alloc_size]; omega
  have hrow : w3.heap[w.heap.size]? = some (.cells #[.int .i64 0, .slice none 0 0, .slice none 0 0] 70 (0, 0)) := by rw [hw3]; exact heap_alloc2_old w _ _
  have hrow1 : w3.heap[w.heap.size + 1]? = some (.cells #[.int .i64 x, .slice none 0 0, .slice none 0 0] 70 (0, 0)) := by rw [hw3]; exact heap2_new w _ _
  have hbel : Below w.heap.size w w3 := by rw [hw3]; exact (alloc2_below w _ _).drew.drew
  clear hw3
  have q0 : w3.cell? ⟨w.heap.size + 1, 0, none⟩ = some (.int .i64 x) := cell_of_row _ _ 0 _ _ _ hrow1
  have HROW := Lib.hid hrow
  have HROW1 := Lib.hid hrow1
  clear hrow hrow1
  go_region_with (go_at_call 113; (refine (HWV.out _ _ _ (by first | exact hbel | exact hbel.drew) (fun _ => rfl) (by omega) (by omega)).mono ?_); rintro e w4 ⟨A1, c1, A2, c2, rfl, hv4, hk4, hb4⟩; have hr1 : w4.heap[w.heap.size + 1]? = some (.cells #[.int .i64 x, .slice none 0 0, .slice none 0 0] 70 (0, 0)) := (hb4.block _ e1).trans HROW1.out; have hr0 : w4.heap[w.heap.size]? = some (.cells #[.int .i64 0, .slice none 0 0, .slice none 0 0] 70 (0, 0)) := (hb4.block _ e0).trans HROW.out; have p0 : w4.cell? ⟨w.heap.size + 1, 0, none⟩ = some (.int .i64 x) := cell_of_row _ _ 0 _ _ _ hr1; have p1 : w4.cell? ⟨w.heap.size + 1, 1, none⟩ = some (.slice none 0 0) := cell_of_row _ _ 1 _ _ _ hr1; have p2 : w4.cell? ⟨w.heap.size + 1, 2, none⟩ = some (.slice none 0 0) := cell_of_row _ _ 2 _ _ _ hr1; have f0 := frozen_of_row _ _ 0 _ _ hr1; have f1 := frozen_of_row _ _ 1 _ _ hr1; have f2 := frozen_of_row _ _ 2 _ _ hr1; have HR1 := Lib.hid hr1; have HR0 := Lib.hid hr0; clear hr1 hr0)
  all_goals
    go_wp2_with fail
    obtain ⟨w5, hw5⟩ : ∃ w5, w5 = ((w4.setCell ⟨w.heap.size + 1, 0, none⟩ (.int .i64 r.tag)).setCell ⟨w.heap.size + 1, 1, none⟩ (.slice A1 r.val.length c1)).setCell ⟨w.heap.size + 1, 2, none⟩ (.slice A2 r.kids.length c2) := ⟨_, rfl⟩
    rw [← hw5]
    have i1 : w5.heap[w.heap.size + 1]? = some (.cells #[.int .i64 r.tag, .slice A1 r.val.length c1, .slice A2 r.kids.length c2] 70 (0, 0)) := by rw [hw5]; exact row3_set _ _ _ _ _ _ _ _ _ HR1.out
    have i0 : w5.heap[w.heap.size]? = some (.cells #[.int .i64 0, .slice none 0 0, .slice none 0 0] 70 (0, 0)) := by rw [hw5, set3_other _ _ _ _ _ _ (by omega)]; exact HR0.out
    have HW5 := Lib.hid hw5
    have l0 := cell_of_row _ _ 0 _ _ _ i1
    have l1 := cell_of_row _ _ 1 _ _ _ i1
    have l2 := cell_of_row _ _ 2 _ _ _ i1
    have z0 := cell_of_row _ _ 0 _ _ _ i0
    have z1 := cell_of_row _ _ 1 _ _ _ i0
    have z2 := cell_of_row _ _ 2 _ _ _ i0
    have y0 := frozen_of_row _ _ 0 _ _ i0
    have y1 := frozen_of_row _ _ 1 _ _ i0
    have y2 := frozen_of_row _ _ 2 _ _ i0
    have I0 := Lib.hid i0
    clear hw5 p0 p1 p2 f0 f1 f2 i0 i1
    go_region
    all_goals go_wp2_with fail
    all_goals
      obtain ⟨E1, E2, E3⟩ := ro_keep w w3 w4 hbel e1 hb4 _ _ _ _ hv4 hk4 _ _ _ (.int .i64 r.tag) (.slice A1 r.val.length c1) (.slice A2 r.kids.length c2) w5 HW5.out _ rfl
      exact bodyPost_ret (results_cell3 rfl _ _ w.heap.size 70 #[.int .i64 r.tag, .slice A1 r.val.length c1, .slice A2 r.kids.length c2] (0, 0) _ rfl (row3_set _ _ _ _ _ _ _ _ _ I0.out) Tryd.underlying70 rfl (by kernel_rfl)) rfl ⟨E3, _, _, _, _, rfl, E1, E2, (by omega), (by omega), fun h => by first | rfl | (exfalso; omega)⟩



set_option maxRecDepth 100000 in
set_option maxHeartbeats 6400000 in
theorem roA_bad_z (B o x z d : Nat) (w : World) (hd : d ≤ 8) (g0 : w.cell? ⟨B, o, none⟩ = some (.int .u8 (x : Int))) (hx : x < 256) (hx0 : ((x : Int) == 0) = false) (ha : bits .and .i64 (x : Int) 31 = (x : Int) % 32) (hx1 : ¬ (x : Int) % 32 = 31) (gz : w.cell? ⟨B, o + 1, none⟩ = some (.int .u8 (z : Int))) (hz : z < 256) (hz1 : ¬ (z : Int) < 128) (hz2 : (z : Int) - 128 < 1 ∨ (1 ≤ (z : Int) - 128 ∧ 2 < (z : Int) - 128)) :
    Calls Tryd.prog 98 #[.slice (some ⟨B, o, none⟩) (0 + 1 + 1) (0 + 1 + 1), .int .i64 d] w fun e w' => e = .returned (.tuple #[.agg #[.int .i64 0, .slice none 0 0, .slice none 0 0], .slice none 0 0, .int .i64 4]) ∧ Below w.heap.size w w' := by
  have hlt := World.block_lt_of_cell? w _ g0
  have hd1 : decide (8 < (d : Int)) = false := decide_eq_false (by omega)
  have hx3 : (decide (8 < (d : Int)) || ((x : Int) == 0)) = false := by rw [hd1, hx0]; rfl
  go_enter Tryd.func98, Tryd.ntmps98
  go_wp2_with fail
  refine wp_scope_fwd 4 ?_
  intro C hC
  have HC := Lib.hid hC
  clear hC
  go_wp2_with fail
  go_region
  go_wp2_with fail
  go_step3
  refine Exit.fwd_goto (by rw [HC.out]; rfl) ?_
  go_wp2_with fail
  go_region
  go_wp2_with fail
  all_goals (go_step3; refine Exit.fwd_goto (by rw [HC.out]; rfl) ?_; go_wp2_with fail; exact bodyPost_ret (results_cell3 rfl _ _ w.heap.size 70 #[.int .i64 0, .slice none 0 0, .slice none 0 0] (0, 0) _ rfl (heap_alloc2_old _ _ _) Tryd.underlying70 rfl (by kernel_rfl)) rfl ⟨rfl, (alloc2_below _ _ _).drew.drew⟩)

set_option maxRecDepth 100000 in
set_option maxHeartbeats 6400000 in
theorem roA_bad_p (B o x z m q d : Nat) (w : World) (hd : d ≤ 8) (g0 : w.cell? ⟨B, o, none⟩ = some (.int .u8 (x : Int))) (hx : x < 256) (hx0 : ((x : Int) == 0) = false) (ha : bits .and .i64 (x : Int) 31 = (x : Int) % 32) (hx1 : ¬ (x : Int) % 32 = 31) (gz : w.cell? ⟨B, o + 1, none⟩ = some (.int .u8 (z : Int))) (hz : z < 256) (hL : m ≤ q) (hc2 : q + 1 + 1 ≤ 9223372036854775807) (hq0 : ¬ q = 0) (hz1 : ¬ (z : Int) < 128) (hz2 : (z : Int) - 128 < 1 ∨ (1 ≤ (z : Int) - 128 ∧ 2 < (z : Int) - 128)) :
    Calls Tryd.prog 98 #[.slice (some ⟨B, o, none⟩) (m + 1 + 1) (q + 1 + 1), .int .i64 d] w fun e w' => e = .returned (.tuple #[.agg #[.int .i64 0, .slice none 0 0, .slice none 0 0], .slice none 0 0, .int .i64 4]) ∧ Below w.heap.size w w' := by
  have hlt := World.block_lt_of_cell? w _ g0
  have hd1 : decide (8 < (d : Int)) = false := decide_eq_false (by omega)
  have hx3 : (decide (8 < (d : Int)) || ((x : Int) == 0)) = false := by rw [hd1, hx0]; rfl
  go_enter Tryd.func98, Tryd.ntmps98
  go_wp2_with fail
  refine wp_scope_fwd 4 ?_
  intro C hC
  have HC := Lib.hid hC
  clear hC
  go_wp2_with fail
  go_region
  go_wp2_with fail
  go_step3
  refine Exit.fwd_goto (by rw [HC.out]; rfl) ?_
  go_wp2_with fail
  go_region
  go_wp2_with fail
  all_goals (go_step3; refine Exit.fwd_goto (by rw [HC.out]; rfl) ?_; go_wp2_with fail; exact bodyPost_ret (results_cell3 rfl _ _ w.heap.size 70 #[.int .i64 0, .slice none 0 0, .slice none 0 0] (0, 0) _ rfl (heap_alloc2_old _ _ _) Tryd.underlying70 rfl (by kernel_rfl)) rfl ⟨rfl, (alloc2_below _ _ _).drew.drew⟩)

set_option maxRecDepth 100000 in
set_option maxHeartbeats 6400000 in
theorem roA_short_z (B o x z wd d : Nat) (w : World) (hd : d ≤ 8) (g0 : w.cell? ⟨B, o, none⟩ = some (.int .u8 (x : Int))) (hx : x < 256) (hx0 : ((x : Int) == 0) = false) (ha : bits .and .i64 (x : Int) 31 = (x : Int) % 32) (hx1 : ¬ (x : Int) % 32 = 31) (gz : w.cell? ⟨B, o + 1, none⟩ = some (.int .u8 (z : Int))) (hz : z < 256) (hz1 : ¬ (z : Int) < 128) (hz2 : (z : Int) - 128 = (wd : Int)) (hw1 : ¬ (wd : Int) < 1) (hw2 : ¬ 2 < (wd : Int)) (hLw : (0 : Int) < (wd : Int)) :
    Calls Tryd.prog 98 #[.slice (some ⟨B, o, none⟩) (0 + 1 + 1) (0 + 1 + 1), .int .i64 d] w fun e w' => e = .returned (.tuple #[.agg #[.int .i64 0, .slice none 0 0, .slice none 0 0], .slice none 0 0, .int .i64 5]) ∧ Below w.heap.size w w' := by
  have hlt := World.block_lt_of_cell? w _ g0
  have hd1 : decide (8 < (d : Int)) = false := decide_eq_false (by omega)
  have hx3 : (decide (8 < (d : Int)) || ((x : Int) == 0)) = false := by rw [hd1, hx0]; rfl
  go_enter Tryd.func98, Tryd.ntmps98
  go_wp2_with fail
  refine wp_scope_fwd 4 ?_
  intro C hC
  have HC := Lib.hid hC
  clear hC
  go_wp2_with fail
  go_region
  go_wp2_with fail
  go_step3
  refine Exit.fwd_goto (by rw [HC.out]; rfl) ?_
  go_wp2_with fail
  go_region
  go_wp2_with fail
  go_step3
  refine Exit.fwd_goto (by rw [HC.out]; rfl) ?_
  go_wp2_with fail
  exact bodyPost_ret (results_cell3 rfl _ _ w.heap.size 70 #[.int .i64 0, .slice none 0 0, .slice none 0 0] (0, 0) _ rfl (heap_alloc2_old _ _ _) Tryd.underlying70 rfl (by kernel_rfl)) rfl ⟨rfl, (alloc2_below _ _ _).drew.drew⟩

set_option maxRecDepth 100000 in
set_option maxHeartbeats 6400000 in
theorem roA_short_p (B o x z m q wd d : Nat) (w : World) (hd : d ≤ 8) (g0 : w.cell? ⟨B, o, none⟩ = some (.int .u8 (x : Int))) (hx : x < 256) (hx0 : ((x : Int) == 0) = false) (ha : bits .and .i64 (x : Int) 31 = (x : Int) % 32) (hx1 : ¬ (x : Int) % 32 = 31) (gz : w.cell? ⟨B, o + 1, none⟩ = some (.int .u8 (z : Int))) (hz : z < 256) (hL : m ≤ q) (hc2 : q + 1 + 1 ≤ 9223372036854775807) (hq0 : ¬ q = 0) (hz1 : ¬ (z : Int) < 128) (hz2 : (z : Int) - 128 = (wd : Int)) (hw1 : ¬ (wd : Int) < 1) (hw2 : ¬ 2 < (wd : Int)) (hLw : (m : Int) < (wd : Int)) :
    Calls Tryd.prog 98 #[.slice (some ⟨B, o, none⟩) (m + 1 + 1) (q + 1 + 1), .int .i64 d] w fun e w' => e = .returned (.tuple #[.agg #[.int .i64 0, .slice none 0 0, .slice none 0 0], .slice none 0 0, .int .i64 5]) ∧ Below w.heap.size w w' := by
  have hlt := World.block_lt_of_cell? w _ g0
  have hd1 : decide (8 < (d : Int)) = false := decide_eq_false (by omega)
  have hx3 : (decide (8 < (d : Int)) || ((x : Int) == 0)) = false := by rw [hd1, hx0]; rfl
  go_enter Tryd.func98, Tryd.ntmps98
  go_wp2_with fail
  refine wp_scope_fwd 4 ?_
  intro C hC
  have HC := Lib.hid hC
  clear hC
  go_wp2_with fail
  go_region
  go_wp2_with fail
  go_step3
  refine Exit.fwd_goto (by rw [HC.out]; rfl) ?_
  go_wp2_with fail
  go_region
  go_wp2_with fail
  go_step3
  refine Exit.fwd_goto (by rw [HC.out]; rfl) ?_
  go_wp2_with fail
  exact bodyPost_ret (results_cell3 rfl _ _ w.heap.size 70 #[.int .i64 0, .slice none 0 0, .slice none 0 0] (0, 0) _ rfl (heap_alloc2_old _ _ _) Tryd.underlying70 rfl (by kernel_rfl)) rfl ⟨rfl, (alloc2_below _ _ _).drew.drew⟩

end Go.Proofs.YtjkbfogjfgnhiaaDoor
