/-
  Three runs of Decode that fail.
-/
import Derived.Test.YtahnmnbjgbfeaaaSco
namespace Go.Proofs.Ytahnmnbjgbfeaaa
set_option linter.unusedVariables false
set_option linter.unusedSimpArgs false
open Go.RowKit

theorem results_cell3 {P : Program} {fn : Func} {p u v : Tmp} {ty : TypeId} (h : fn.results = #[.cell p ty, .tmp u, .tmp v]) (tmps : Array Value) (w : World) (g : Nat) (t : TypeId) (cs : Array Value) (fr : Nat × Nat) (d : TypeDesc)
    (hp : tmps.getD p undef = .pointer (some ⟨g, 0, none⟩)) (hg : w.heap[g]? = some (.cells cs t fr))
    (hu : P.underlying ty = some d) (hd : (match d with | .struct _ | .array _ _ => true | _ => false) = true) (hi : (P.info? ty).map (·.size) = some cs.size) :
    (results fn tmps).run P w = .ok (.tuple #[.agg cs, tmps.getD u undef, tmps.getD v undef]) w := by
  have hp' : tmps[p]?.getD undef = .pointer (some ⟨g, 0, none⟩) := by simpa using hp
  simp [results, h, hp', asAddr, run_loadVar_row w g t ty cs fr d hg hu hd hi]
theorem row3_set (w : World) (g : Nat) (ty : TypeId) (a b c x y z : Value) (hg : w.heap[g]? = some (.cells #[a, b, c] ty (0, 0))) :
    (((w.setCell ⟨g, 0, none⟩ x).setCell ⟨g, 1, none⟩ y).setCell ⟨g, 2, none⟩ z).heap[g]? = some (.cells #[x, y, z] ty (0, 0)) := by
  have h1 := heap_setCell_same w g 0 _ ty x hg
  have h2 := heap_setCell_same _ g 1 _ ty y h1
  have h3 := heap_setCell_same _ g 2 _ ty z h2
  rw [h3]
  simp
theorem alloc2_below (w : World) (A B : Obj) : Below w.heap.size w ((w.alloc A).alloc B) := (alloc_below w A).alloc (by rw [alloc_size]; omega) B

set_option maxRecDepth 100000 in
set_option maxHeartbeats 3200000 in
theorem ro_zero (B c : Nat) (w : World) (g0 : w.cell? ⟨B, 0, none⟩ = some (.int .u8 0)) (hc : 1 ≤ c) (hc2 : c ≤ 1000) :
    Calls Try.prog 92 #[.slice (some ⟨B, 0, none⟩) 1 c, .int .i64 1] w fun e w' => e = .returned (.tuple #[.agg #[.int .i64 0, .slice none 0 0, .slice none 0 0], .slice none 0 0, .int .i64 4]) ∧ Below w.heap.size w w' := by
  have hlt := World.block_lt_of_cell? w _ g0
  go_enter Try.func92, Try.ntmps92
  go_wp2_with fail
  refine wp_scope_fwd 4 ?_
  intro C hC
  have HC := Lib.hid hC
  clear hC
  go_wp2_with fail
  go_step3
  refine Exit.fwd_goto (by rw [HC.out]; rfl) ?_
  go_wp2_with fail
  exact bodyPost_ret (results_cell3 rfl _ _ w.heap.size 58 #[.int .i64 0, .slice none 0 0, .slice none 0 0] (0, 0) _ rfl (heap_alloc2_old _ _ _) Try.underlying58 rfl (by kernel_rfl)) rfl ⟨rfl, alloc2_below _ _ _⟩

set_option maxRecDepth 100000 in
set_option maxHeartbeats 3200000 in
theorem ro_short (B : Nat) (w : World) (g0 : w.cell? ⟨B, 0, none⟩ = some (.int .u8 132)) (g1 : w.cell? ⟨B, 1, none⟩ = some (.int .u8 3)) :
    Calls Try.prog 92 #[.slice (some ⟨B, 0, none⟩) 4 4, .int .i64 1] w fun e w' => e = .returned (.tuple #[.agg #[.int .i64 0, .slice none 0 0, .slice none 0 0], .slice none 0 0, .int .i64 5]) ∧ Below w.heap.size w w' := by
  have hlt := World.block_lt_of_cell? w _ g0
  go_enter Try.func92, Try.ntmps92
  go_wp2_with fail
  refine wp_scope_fwd 4 ?_
  intro C hC
  have HC := Lib.hid hC
  clear hC
  go_wp2_with fail
  go_region
  have hb4 : bits .and .i64 132 31 = 4 := by kernel_rfl
  go_wp2_with fail
  go_step3
  refine Exit.fwd_goto (by rw [HC.out]; rfl) ?_
  go_wp2_with fail
  go_region
  go_wp2_with fail
  go_step3
  refine Exit.fwd_goto (by rw [HC.out]; rfl) ?_
  go_wp2_with fail
  go_step3
  refine Exit.fwd_goto (by rw [HC.out]; rfl) ?_
  go_wp2_with fail
  exact bodyPost_ret (results_cell3 rfl _ _ w.heap.size 58 #[.int .i64 0, .slice none 0 0, .slice none 0 0] (0, 0) _ rfl (heap_alloc2_old _ _ _) Try.underlying58 rfl (by kernel_rfl)) rfl ⟨rfl, (alloc2_below _ _ _).drew.drew⟩

theorem getN_two : getN [2] = 2 := by kernel_rfl
theorem getE_two : getE [2] = 0 := by kernel_rfl
set_option maxRecDepth 100000 in
set_option maxHeartbeats 3200000 in
theorem ro_long (B : Nat) (w : World) (g0 : w.cell? ⟨B, 0, none⟩ = some (.int .u8 132)) (g1 : w.cell? ⟨B, 1, none⟩ = some (.int .u8 129)) (g2 : w.cell? ⟨B, 2, none⟩ = some (.int .u8 2)) :
    Calls Try.prog 92 #[.slice (some ⟨B, 0, none⟩) 5 5, .int .i64 1] w fun e w' => e = .returned (.tuple #[.agg #[.int .i64 0, .slice none 0 0, .slice none 0 0], .slice none 0 0, .int .i64 4]) ∧ Below w.heap.size w w' := by
  have hlt := World.block_lt_of_cell? w _ g0
  have HG : Hid (∀ W, Below w.heap.size w W → Calls Try.prog 37 #[.slice (some ⟨B, 2, none⟩) 1 3] W fun e w' => e = .returned (.tuple #[.int .i64 2, .int .i64 0]) ∧ W = w') := fun W hW => by
    have := pget_any [2] (.slice (some ⟨B, 2, none⟩) 1 3) W w.heap.size ⟨_, 3, rfl, by simp, by unfold maxLen; omega, fun _ => ⟨B, 2, rfl, hlt, fun k hk => by
      have : k = 0 := by simp at hk; omega
      subst this
      exact (hW.cell (p := ⟨B, 2, none⟩) hlt).trans g2⟩⟩
    rw [getN_two, getE_two] at this
    exact this
  have HL := Lib.hid (fun W => lenF_any 2 W (by omega))
  go_enter Try.func92, Try.ntmps92
  go_wp2_with fail
  refine wp_scope_fwd 4 ?_
  intro C hC
  have HC := Lib.hid hC
  clear hC
  go_wp2_with fail
  go_region
  have hb4 : bits .and .i64 132 31 = 4 := by kernel_rfl
  go_wp2_with fail
  go_step3
  refine Exit.fwd_goto (by rw [HC.out]; rfl) ?_
  go_wp2_with fail
  go_region
  go_wp2_with fail
  refine (HG.out _ ((alloc2_below _ _ _).drew.drew)).mono ?_
  rintro e W ⟨rfl, rfl⟩
  go_wp2_with fail
  refine (HL.out _).mono ?_
  rintro e w3 ⟨v3, rfl, hv3, hb3⟩
  obtain ⟨A3, c3, rfl, _⟩ := hv3
  have hl1 : (lenF 2).length = 1 := by kernel_rfl
  rw [hl1]
  have e0 : w.heap.size < ((w.alloc (Obj.cells #[Value.int IntKind.i64 0, Value.slice none 0 0, Value.slice none 0 0] 58)).alloc (Obj.cells #[Value.int IntKind.i64 132, Value.slice none 0 0, Value.slice none 0 0] 58)).drew.drew.heap.size := by
    show w.heap.size < ((w.alloc _).alloc _).heap.size
    rw [alloc_size, alloc_size]; omega
  have hrow : w3.heap[w.heap.size]? = some (.cells #[.int .i64 0, .slice none 0 0, .slice none 0 0] 58 (0, 0)) := (hb3.block _ e0).trans (heap_alloc2_old w _ _)
  have hbel : Below w.heap.size w w3 := ((alloc2_below w _ _).drew.drew).trans (hb3.mono (Nat.le_of_lt e0))
  have q0 : w3.cell? ⟨w.heap.size, 0, none⟩ = some (.int .i64 0) := cell_of_row _ _ 0 _ _ _ hrow
  have q1 : w3.cell? ⟨w.heap.size, 1, none⟩ = some (.slice none 0 0) := cell_of_row _ _ 1 _ _ _ hrow
  have q2 : w3.cell? ⟨w.heap.size, 2, none⟩ = some (.slice none 0 0) := cell_of_row _ _ 2 _ _ _ hrow
  have q3 : ∀ j, w3.frozen? ⟨w.heap.size, j, none⟩ = false := fun j => frozen_of_row _ _ j _ _ hrow
  have q4 := q3 0
  have q5 := q3 1
  have q6 := q3 2
  have HROW := Lib.hid hrow
  clear hrow q3 e0 hb3
  go_wp2_with fail
  go_step3
  refine Exit.fwd_goto (by rw [HC.out]; rfl) ?_
  go_wp2_with fail
  exact bodyPost_ret (results_cell3 rfl _ _ w.heap.size 58 #[.int .i64 0, .slice none 0 0, .slice none 0 0] (0, 0) _ rfl (row3_set _ _ _ _ _ _ _ _ _ HROW.out) Try.underlying58 rfl (by kernel_rfl)) rfl
    ⟨rfl, ((hbel.setCell (p := ⟨w.heap.size, 0, none⟩) (Nat.le_refl _) _).setCell (p := ⟨w.heap.size, 1, none⟩) (Nat.le_refl _) _).setCell (p := ⟨w.heap.size, 2, none⟩) (Nat.le_refl _) _⟩
end Go.Proofs.Ytahnmnbjgbfeaaa
