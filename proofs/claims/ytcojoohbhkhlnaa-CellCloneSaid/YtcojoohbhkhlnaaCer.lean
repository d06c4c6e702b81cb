/-
  The walks of the reference's First, and of open.
-/
import Derived.Test.YtcojoohbhkhlnaaCeq
namespace Go.Proofs.Ytcojoohbhkhlnaa
set_option linter.unusedVariables false
set_option linter.unusedSimpArgs false
open Go.RowKit

def zw (n : Nat) : Array Value := madeCells #[.int .u32 0] n
def zi (n : Nat) : Array Value := madeCells #[.int .i64 0] n
theorem mk_u32 (W : World) (n : Nat) (hn : n ≤ 65536) : (Instr.makeSlice 26 (.int .i64 (n : Int)) (.int .i64 (n : Int))).run Try.prog W = .ok (.slice (some ⟨W.heap.size, 0, none⟩) n n) (W.alloc (.cells (zw n) 35)) := by
  obtain ⟨i0, hi0, hz0, hz1, hz2⟩ := info_parts info35
  have := run_make (P := Try.prog) W 26 35 i0 _ Try.underlying26 hi0 hz0 .i64 .i64 (n : Int) (n : Int) (by omega) (Int.le_refl _) (by rw [hz2]; omega) (by omega)
  rw [hz1, Int.toNat_natCast, Nat.mul_one] at this
  exact this
theorem mk_int (W : World) (n : Nat) (hn : n ≤ 65536) : (Instr.makeSlice 27 (.int .i64 (n : Int)) (.int .i64 (n : Int))).run Try.prog W = .ok (.slice (some ⟨W.heap.size, 0, none⟩) n n) (W.alloc (.cells (zi n) 3)) := by
  obtain ⟨i0, hi0, hz0, hz1, hz2⟩ := info_parts info3
  have := run_make (P := Try.prog) W 27 3 i0 _ Try.underlying27 hi0 hz0 .i64 .i64 (n : Int) (n : Int) (by omega) (Int.le_refl _) (by rw [hz2]; omega) (by omega)
  rw [hz1, Int.toNat_natCast, Nat.mul_one] at this
  exact this
theorem zw_wx {w : World} {X : Nat → Prop} {g n : Nat} (h : w.heap[g]? = some (.cells (zw n) 35 (0, 0))) (hx : ¬ X g) (hn : n ≤ 65536) : WX w X (.slice (some ⟨g, 0, none⟩) n n) (List.replicate n 0) :=
  ⟨g, n, by rw [List.length_replicate], by rw [List.length_replicate]; exact Nat.le_refl _, by simp only [maxLen]; omega, hx, (Array.getElem?_eq_some_iff.1 h).1, fun k hk => by
    rw [List.length_replicate] at hk
    rw [cell_of_row _ _ k _ _ _ h]
    simp [zw, madeCells, hk, Nat.mod_one]⟩
theorem zi_ix {w : World} {X : Nat → Prop} {g n : Nat} (h : w.heap[g]? = some (.cells (zi n) 3 (0, 0))) (hx : ¬ X g) (hn : n ≤ 65536) : IX w X (.slice (some ⟨g, 0, none⟩) n n) (List.replicate n 0) :=
  ⟨g, n, by rw [List.length_replicate], by rw [List.length_replicate]; exact Nat.le_refl _, by simp only [maxLen]; omega, hx, (Array.getElem?_eq_some_iff.1 h).1, fun k hk => by
    rw [List.length_replicate] at hk
    rw [cell_of_row _ _ k _ _ _ h]
    simp [zi, madeCells, hk, Nat.mod_one]⟩

theorem first_bad (W E : Int) (w : World) (h : ¬ (1 ≤ W ∧ W ≤ 65536 ∧ 1 ≤ E)) : Calls Try.prog 25 #[.agg #[.int .i64 W, .int .i64 E]] w fun e w' => e = .returned (.tuple #[.agg #[.slice none 0 0, .slice none 0 0, .int .i64 0, .int .i64 0, .int .i64 0, .bool false, .int .i64 0], .int .i64 1]) ∧ Below w.heap.size w w' := by
  by_cases h1 : W < 1
  · clear h
    go_enter Try.func25, Try.ntmps25
    go_wp2
    exact bodyPost_ret (results_cell2 rfl _ _ (w.heap.size + 1) 29 _ (0, 0) _ rfl (heap_new2 ..) Try.underlying29 rfl (by kernel_rfl)) rfl ⟨rfl, below_new2 ..⟩
  · by_cases h2 : 65536 < W
    · clear h
      go_enter Try.func25, Try.ntmps25
      go_wp2
      exact bodyPost_ret (results_cell2 rfl _ _ (w.heap.size + 1) 29 _ (0, 0) _ rfl (heap_new2 ..) Try.underlying29 rfl (by kernel_rfl)) rfl ⟨rfl, below_new2 ..⟩
    · have h3 : E < 1 := by omega
      clear h
      go_enter Try.func25, Try.ntmps25
      go_wp2
      exact bodyPost_ret (results_cell2 rfl _ _ (w.heap.size + 1) 29 _ (0, 0) _ rfl (heap_new2 ..) Try.underlying29 rfl (by kernel_rfl)) rfl ⟨rfl, below_new2 ..⟩

theorem alloc4 (w : World) (o : Obj) (c1 c2 c3 : Array Value) (t1 t2 t3 : TypeId) :
    ((((w.alloc o).alloc (.cells c1 t1)).alloc (.cells c2 t2)).alloc (.cells c3 t3)).heap[w.heap.size + 1]? = some (.cells c1 t1 (0, 0)) ∧
    ((((w.alloc o).alloc (.cells c1 t1)).alloc (.cells c2 t2)).alloc (.cells c3 t3)).heap[w.heap.size + 1 + 1]? = some (.cells c2 t2 (0, 0)) ∧
    ((((w.alloc o).alloc (.cells c1 t1)).alloc (.cells c2 t2)).alloc (.cells c3 t3)).heap[w.heap.size + 1 + 1 + 1]? = some (.cells c3 t3 (0, 0)) ∧
    Below w.heap.size w ((((w.alloc o).alloc (.cells c1 t1)).alloc (.cells c2 t2)).alloc (.cells c3 t3)) := by
  have e1 : ((w.alloc o).alloc (.cells c1 t1)).heap.size = w.heap.size + 1 + 1 := by simp
  have e2 : (((w.alloc o).alloc (.cells c1 t1)).alloc (.cells c2 t2)).heap.size = w.heap.size + 1 + 1 + 1 := by simp
  refine ⟨?_, ?_, ?_, ((below_new2 w o (.cells c1 t1)).alloc (by rw [e1]; omega) _).alloc (by rw [e2]; omega) _⟩
  · rw [Below.heap_alloc _ _ _ (by rw [e2]; omega), Below.heap_alloc _ _ _ (by rw [e1]; omega)]
    exact heap_new2 ..
  · rw [Below.heap_alloc _ _ _ (by rw [e2]; omega)]
    have := heap_alloc_new ((w.alloc o).alloc (.cells c1 t1)) (.cells c2 t2)
    rw [e1] at this
    exact this
  · have := heap_alloc_new (((w.alloc o).alloc (.cells c1 t1)).alloc (.cells c2 t2)) (.cells c3 t3)
    rw [e2] at this
    exact this

theorem first_ok {X : Nat → Prop} (n en : Nat) (w : World) (hX : ∀ k, X k → k < w.heap.size) (h1 : 1 ≤ n) (h2 : n ≤ 65536) (h3 : 1 ≤ en) (h4 : en < 9223372036854775808) : Calls Try.prog 25 #[.agg #[.int .i64 (n : Int), .int .i64 (en : Int)]] w (RefR X (st0 n en) 0 w) := by
  have hmk := fun W => mk_u32 W n h2
  have hmi := fun W => mk_int W n h2
  obtain ⟨z, hz⟩ : ∃ z, zw n = z := ⟨_, rfl⟩
  rw [hz] at hmk
  have HZ := Lib.hid hz
  clear hz
  obtain ⟨y, hy⟩ : ∃ y, zi n = y := ⟨_, rfl⟩
  rw [hy] at hmi
  have HY := Lib.hid hy
  clear hy
  go_enter Try.func25, Try.ntmps25
  go_wp2
  go_region_held3 (fun w' => w'.cell? ⟨w.heap.size, 0, none⟩ = some (.int .i64 (n : Int)) ∧ w'.cell? ⟨w.heap.size, 1, none⟩ = some (.int .i64 (en : Int)))
    (first | (go_keep; done))
    (fail)
  · go_wp2
    obtain ⟨q1, q2, q3, q4⟩ := alloc4 w (.cells #[.int .i64 (n : Int), .int .i64 (en : Int)] 23) #[.slice (some ⟨w.heap.size + 1 + 1, 0, none⟩) n n, .slice (some ⟨w.heap.size + 1 + 1 + 1, 0, none⟩) n n, .int .i64 (en : Int), .int .i64 0, .int .i64 0, .bool true, .int .i64 (-1)] z y 29 35 3
    exact bodyPost_ret (results_cell2 rfl _ _ (w.heap.size + 1) 29 _ (0, 0) _ rfl q1 Try.underlying29 rfl (by kernel_rfl)) rfl
      ⟨.slice (some ⟨w.heap.size + 1 + 1, 0, none⟩) n n, .slice (some ⟨w.heap.size + 1 + 1 + 1, 0, none⟩) n n, by simp [rrow, st0, cutI], ⟨zw_wx (by rw [HZ.out]; exact q2) (fun hx => by have := hX _ hx; omega) h2, zi_ix (by rw [HY.out]; exact q3) (fun hx => by have := hX _ hx; omega) h2⟩, q4.drew⟩
  · go_wp2
    obtain ⟨q1, q2, q3, q4⟩ := alloc4 w (.cells #[.int .i64 (n : Int), .int .i64 (en : Int)] 23) #[.slice (some ⟨w.heap.size + 1 + 1 + 1, 0, none⟩) n n, .slice (some ⟨w.heap.size + 1 + 1, 0, none⟩) n n, .int .i64 (en : Int), .int .i64 0, .int .i64 0, .bool true, .int .i64 (-1)] y z 29 3 35
    exact bodyPost_ret (results_cell2 rfl _ _ (w.heap.size + 1) 29 _ (0, 0) _ rfl q1 Try.underlying29 rfl (by kernel_rfl)) rfl
      ⟨.slice (some ⟨w.heap.size + 1 + 1 + 1, 0, none⟩) n n, .slice (some ⟨w.heap.size + 1 + 1, 0, none⟩) n n, by simp [rrow, st0, cutI], ⟨zw_wx (by rw [HZ.out]; exact q3) (fun hx => by have := hX _ hx; omega) h2, zi_ix (by rw [HY.out]; exact q2) (fun hx => by have := hX _ hx; omega) h2⟩, q4.drew⟩
end Go.Proofs.Ytcojoohbhkhlnaa
