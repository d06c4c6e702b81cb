
/-
  The walk of New.
-/
import Derived.Test.YtiholfpcndjliaaDoorCef
import Derived.Deep.RegionHeld3
namespace Go.Proofs.YtiholfpcndjliaaDoor
set_option linter.unusedVariables false
set_option linter.unusedSimpArgs false
open Go.RowKit

theorem info67 : (Tryd.prog.info? 107).map (fun i => (i.zero, i.size, i.bytes)) = some (some (.agg #[.int .u32 0, .int .i64 0]), 2, 16) := by kernel_rfl

/-- A new memory's state. -/
def st0 (n en : Nat) : St := { ws := List.replicate n 0, wear := List.replicate n 0, en := en, wr := 0, cu := 0, on := true, cut := none }
/-- The cells of new words. -/
def z2 (n : Nat) : Array Value := madeCells #[.int .u32 0, .int .i64 0] (n * 2)

theorem mk_words (W : World) (n : Nat) (hn : n ≤ 65536) : (Instr.makeSlice 98 (.int .i64 (n : Int)) (.int .i64 (n : Int))).run Tryd.prog W = .ok (.slice (some ⟨W.heap.size, 0, none⟩) n n) (W.alloc (.cells (z2 n) 107)) := by
  obtain ⟨i0, hi0, hz0, hz1, hz2⟩ := info_parts info67
  have := run_make (P := Tryd.prog) W 98 107 i0 _ Tryd.underlying98 hi0 hz0 .i64 .i64 (n : Int) (n : Int) (by omega) (Int.le_refl _) (by rw [hz2]; omega) (by omega)
  rw [hz1, Int.toNat_natCast] at this
  exact this
theorem z2_cell (W : World) (n : Nat) (w' : World) (g : Nat) (h : w'.heap[g]? = some (.cells (z2 n) 107 (0, 0))) : (∀ a, a < n → w'.cell? ⟨g, a * 2, none⟩ = some (.int .u32 0)) ∧ ∀ a, a < n → w'.cell? ⟨g, a * 2 + 1, none⟩ = some (.int .i64 0) := by
  constructor
  · intro a ha
    rw [cell_of_row _ _ (a * 2) _ _ _ h]
    simp [z2, madeCells, show a * 2 < n * 2 by omega]
  · intro a ha
    rw [cell_of_row _ _ (a * 2 + 1) _ _ _ h]
    simp [z2, madeCells, show a * 2 + 1 < n * 2 by omega, show (a * 2 + 1) % 2 = 1 by omega]

set_option maxRecDepth 100000 in
theorem ma_new (w : World) (n en b g : Nat) (h1 : w.heap[b]? = some (.cells (mrow g (st0 n en) 0) 100 (0, 0))) (h2 : w.heap[g]? = some (.cells (z2 n) 107 (0, 0))) (hne : b ≠ g) (hn1 : 1 ≤ n) (hn2 : n ≤ 65536) : MA w b g (st0 n en) 0 := by
  obtain ⟨c1, c2⟩ := z2_cell w n w g h2
  refine ⟨h1, fun a ha => ?_, fun a ha => ?_, fun j => frozen_of_row _ _ j _ _ h2, hne, ?_, ?_, by simp [st0], by simp [st0]; omega, by simp [st0]; omega, fun k e => by cases e⟩
  · have ha : a < n := by simpa [st0] using ha
    rw [c1 a ha]; simp [st0, ha]
  · have ha : a < n := by simpa [st0] using ha
    rw [c2 a ha]; simp [st0, ha]
  · exact (Array.getElem?_eq_some_iff.1 h1).1
  · exact (Array.getElem?_eq_some_iff.1 h2).1

set_option maxRecDepth 100000 in
theorem new_bad (W E : Int) (w : World) (h : ¬ (1 ≤ W ∧ W ≤ 65536 ∧ 1 ≤ E)) : Calls Tryd.prog 16 #[.agg #[.int .i64 W, .int .i64 E]] w fun e w' => e = .returned (.tuple #[.pointer none, .int .i64 1]) ∧ Below w.heap.size w w' := by
  have HA := Lib.hid (alloc_below w (.cells #[.int .i64 W, .int .i64 E] 30))
  by_cases h1 : W < 1
  · clear h
    go_enter Tryd.func16, Tryd.ntmps16
    go_wp2
    go_ret2
    exact ⟨rfl, HA.out⟩
  · by_cases h2 : 65536 < W
    · clear h
      go_enter Tryd.func16, Tryd.ntmps16
      go_wp2
      go_ret2
      exact ⟨rfl, HA.out⟩
    · have h3 : E < 1 := by omega
      clear h
      go_enter Tryd.func16, Tryd.ntmps16
      go_wp2
      go_ret2
      exact ⟨rfl, HA.out⟩

/-- What New returns where it makes a memory. -/
def NewR (n en : Nat) (w : World) (e : Ending) (w' : World) : Prop :=
  ∃ b g, e = .returned (.tuple #[.pointer (some ⟨b, 0, none⟩), .int .i64 0]) ∧ MA w' b g (st0 n en) 0 ∧ w.heap.size ≤ b ∧ w.heap.size ≤ g ∧ Below w.heap.size w w'
set_option maxRecDepth 100000 in
theorem new_ok (n en : Nat) (w : World) (h1 : 1 ≤ n) (h2 : n ≤ 65536) (h3 : 1 ≤ en) (h4 : en < 9223372036854775808) : Calls Tryd.prog 16 #[.agg #[.int .i64 (n : Int), .int .i64 (en : Int)]] w (NewR n en w) := by
  have hmk := fun W => mk_words W n h2
  obtain ⟨z, hz⟩ : ∃ z, z2 n = z := ⟨_, rfl⟩
  rw [hz] at hmk
  have HZ := Lib.hid hz
  clear hz
  go_enter Tryd.func16, Tryd.ntmps16
  go_wp2
  go_region_held3 (fun w' => w'.cell? ⟨w.heap.size, 0, none⟩ = some (.int .i64 (n : Int)) ∧ w'.cell? ⟨w.heap.size, 1, none⟩ = some (.int .i64 (en : Int)))
    (first | (go_keep; done))
    (fail)
  go_wp2
  go_ret2
  have e1 : (w.alloc (.cells #[.int .i64 (n : Int), .int .i64 (en : Int)] 30)).heap.size = w.heap.size + 1 := by simp
  have e2 : ((w.alloc (.cells #[.int .i64 (n : Int), .int .i64 (en : Int)] 30)).alloc (.cells z 107)).heap.size = w.heap.size + 1 + 1 := by simp
  have r1 := heap_alloc_new ((w.alloc (.cells #[.int .i64 (n : Int), .int .i64 (en : Int)] 30)).alloc (.cells z 107)) (.cells (mrow (w.heap.size + 1) (st0 n en) 0) 100)
  have r0 : ((w.alloc (.cells #[.int .i64 (n : Int), .int .i64 (en : Int)] 30)).alloc (.cells z 107)).heap[w.heap.size + 1]? = some (.cells z 107 (0, 0)) := by
    have := heap_alloc_new (w.alloc (.cells #[.int .i64 (n : Int), .int .i64 (en : Int)] 30)) (.cells z 107)
    rw [e1] at this
    exact this
  have r2 := (Below.heap_alloc ((w.alloc (.cells #[.int .i64 (n : Int), .int .i64 (en : Int)] 30)).alloc (.cells z 107)) (.cells (mrow (w.heap.size + 1) (st0 n en) 0) 100) (w.heap.size + 1) (by rw [e2]; omega)).trans r0
  rw [e2] at r1
  have hb : Below w.heap.size w (((w.alloc (.cells #[.int .i64 (n : Int), .int .i64 (en : Int)] 30)).alloc (.cells z 107)).alloc (.cells (mrow (w.heap.size + 1) (st0 n en) 0) 100)) :=
    ((alloc_below w _).alloc (by rw [e1]; omega) _).alloc (by rw [e2]; omega) _
  have hrow : mrow (w.heap.size + 1) (st0 n en) 0 = #[.slice (some ⟨w.heap.size + 1, 0, none⟩) n n, .int .i64 (en : Int), .int .i64 0, .int .i64 0, .bool true, .bool false, .int .i64 0] := by simp [mrow, st0]
  refine ⟨w.heap.size + 1 + 1, w.heap.size + 1, rfl, ?_, by omega, by omega, ?_⟩
  · rw [← hrow]
    rw [← HZ.out] at r1 r2 ⊢
    exact (ma_new _ n en _ _ r1 r2 (by omega) h1 h2).drewN 1
  · rw [← hrow]
    exact hb.drew
end Go.Proofs.YtiholfpcndjliaaDoor
