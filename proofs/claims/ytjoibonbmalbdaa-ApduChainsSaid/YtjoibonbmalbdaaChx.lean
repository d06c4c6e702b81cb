/-
  The walk of Chain at the chapter's example.
-/
import Derived.Test.YtjoibonbmalbdaaDecb
namespace Go.Proofs.Ytjoibonbmalbdaa
set_option linter.unusedVariables false
set_option linter.unusedSimpArgs false
open Go.RowKit

def exC : Cm := ⟨128, 232, 0, 0, [1, 2, 3], 0, false⟩
theorem exC_chk : chkC exC = 0 := by decide
theorem exC_cls : clsB 128 = true ∧ clsK 128 = ⟨0, false, false, true⟩ := ⟨by decide, rfl⟩
theorem exC_byt : bytN ⟨0, false, true, true⟩ = 144 ∧ bytE ⟨0, false, true, true⟩ = 0 := by decide

/-- The two commands of the example, as far as they are filled. -/
def chBlk (y0 y1 : Value) : Nat → Array Value
  | 0 => #[.int .i64 0, .int .i64 0, .int .i64 0, .int .i64 0, .slice none 0 0, .int .i64 0, .bool false, .int .i64 0, .int .i64 0, .int .i64 0, .int .i64 0, .slice none 0 0, .int .i64 0, .bool false]
  | 1 => #[.int .i64 144, .int .i64 232, .int .i64 0, .int .i64 0, y0, .int .i64 0, .bool false, .int .i64 0, .int .i64 0, .int .i64 0, .int .i64 0, .slice none 0 0, .int .i64 0, .bool false]
  | _ => #[.int .i64 144, .int .i64 232, .int .i64 0, .int .i64 0, y0, .int .i64 0, .bool false, .int .i64 144, .int .i64 232, .int .i64 0, .int .i64 0, y1, .int .i64 0, .bool false]
theorem mk_two (W : World) : (Instr.makeSlice 53 (.int .i64 2) (.int .i64 2)).run Try.prog W = .ok (.slice (some ⟨W.heap.size, 0, none⟩) 2 2) (W.alloc (.cells #[.int .i64 0, .int .i64 0, .int .i64 0, .int .i64 0, .slice none 0 0, .int .i64 0, .bool false, .int .i64 0, .int .i64 0, .int .i64 0, .int .i64 0, .slice none 0 0, .int .i64 0, .bool false] 24)) := by kernel_rfl

set_option maxRecDepth 100000 in
set_option maxHeartbeats 3200000 in
theorem pchain_ex (u : Value) (w : World) (h : SL w w.heap.size u [1, 2, 3]) :
    Calls Try.prog 34 #[.agg #[.int .i64 128, .int .i64 232, .int .i64 0, .int .i64 0, u, .int .i64 0, .bool false], .int .i64 2] w fun e w' =>
      ∃ g A c, e = .returned (.tuple #[.slice (some ⟨g, 0, none⟩) 2 2, .int .i64 0]) ∧ w'.cell? ⟨g, 0, none⟩ = some (.int .i64 144) ∧ w'.cell? ⟨g, 7, none⟩ = some (.int .i64 128) ∧ w'.cell? ⟨g, 11, none⟩ = some (.slice A 1 c) ∧ Below w.heap.size w w' := by
  have HS := Lib.hid h
  obtain ⟨A, c, rfl, _, _, _⟩ := h
  have HC : Hid (∀ W : World, Calls Try.prog 14 #[.agg #[.int .i64 128, .int .i64 232, .int .i64 0, .int .i64 0, .slice A 3 c, .int .i64 0, .bool false]] W fun e w' => e = .returned (.int .i64 0) ∧ Below W.heap.size W w') := fun W => by
    have := pchk_any exC A 3 c W rfl (by decide)
    rw [exC_chk] at this
    exact this
  have HK : Hid (∀ W : World, Calls Try.prog 30 #[.int .i64 128] W fun e w' => e = .returned (.tuple #[.agg #[.int .i64 0, .bool false, .bool false, .bool true], .bool true]) ∧ Below W.heap.size W w') := fun W => by
    have := pcls_any 128 W
    rw [exC_cls.1, exC_cls.2] at this
    exact this
  have HB : Hid (∀ W : World, Calls Try.prog 32 #[.agg #[.int .i64 0, .bool false, .bool true, .bool true]] W fun e w' => e = .returned (.tuple #[.int .i64 144, .int .i64 0]) ∧ Below W.heap.size W w') := fun W => by
    have := pbyt_any ⟨0, false, true, true⟩ W
    rw [exC_byt.1, exC_byt.2] at this
    exact this
  have hmk := mk_two
  go_enter Try.func34, Try.ntmps34
  go_wp2_with fail
  refine (HC.out _).mono ?_
  rintro e w1 ⟨rfl, hb1⟩
  rw [alloc_size] at hb1
  have c0 := box_cell hb1 0 _ rfl
  have c1 := box_cell hb1 1 _ rfl
  have c2 := box_cell hb1 2 _ rfl
  have c3 := box_cell hb1 3 _ rfl
  have c4 := box_cell hb1 4 _ rfl
  have c5 := box_cell hb1 5 _ rfl
  have c6 := box_cell hb1 6 _ rfl
  have hs1 := hb1.size
  rw [alloc_size] at hs1
  have hw1 : Below w.heap.size w w1 := (alloc_below _ _).trans (hb1.mono (by omega))
  clear hb1
  go_wp2_with fail
  refine (HK.out _).mono ?_
  rintro e w2 ⟨rfl, hb2⟩
  have hlt : w.heap.size < w1.heap.size := by omega
  have d0 := (hb2.cell (p := ⟨w.heap.size, 0, none⟩) hlt).trans c0
  have d1 := (hb2.cell (p := ⟨w.heap.size, 1, none⟩) hlt).trans c1
  have d2 := (hb2.cell (p := ⟨w.heap.size, 2, none⟩) hlt).trans c2
  have d3 := (hb2.cell (p := ⟨w.heap.size, 3, none⟩) hlt).trans c3
  have d4 := (hb2.cell (p := ⟨w.heap.size, 4, none⟩) hlt).trans c4
  have d5 := (hb2.cell (p := ⟨w.heap.size, 5, none⟩) hlt).trans c5
  have d6 := (hb2.cell (p := ⟨w.heap.size, 6, none⟩) hlt).trans c6
  have hw2 : Below w.heap.size w w2 := hw1.trans (hb2.mono hw1.size)
  have hlt2 : w.heap.size < w2.heap.size := by have := hb2.size; omega
  clear c0 c1 c2 c3 c4 c5 c6 hb2
  go_wp2_with fail
  refine (HB.out _).mono ?_
  rintro e w3 ⟨rfl, hb3⟩
  have f0 := (hb3.cell (p := ⟨w.heap.size, 0, none⟩) (by show w.heap.size < _; rw [alloc_size]; omega)).trans (((alloc_below w2 _).cell (p := ⟨w.heap.size, 0, none⟩) hlt2).trans d0)
  have f1 := (hb3.cell (p := ⟨w.heap.size, 1, none⟩) (by show w.heap.size < _; rw [alloc_size]; omega)).trans (((alloc_below w2 _).cell (p := ⟨w.heap.size, 1, none⟩) hlt2).trans d1)
  have f2 := (hb3.cell (p := ⟨w.heap.size, 2, none⟩) (by show w.heap.size < _; rw [alloc_size]; omega)).trans (((alloc_below w2 _).cell (p := ⟨w.heap.size, 2, none⟩) hlt2).trans d2)
  have f3 := (hb3.cell (p := ⟨w.heap.size, 3, none⟩) (by show w.heap.size < _; rw [alloc_size]; omega)).trans (((alloc_below w2 _).cell (p := ⟨w.heap.size, 3, none⟩) hlt2).trans d3)
  have f4 := (hb3.cell (p := ⟨w.heap.size, 4, none⟩) (by show w.heap.size < _; rw [alloc_size]; omega)).trans (((alloc_below w2 _).cell (p := ⟨w.heap.size, 4, none⟩) hlt2).trans d4)
  have f5 := (hb3.cell (p := ⟨w.heap.size, 5, none⟩) (by show w.heap.size < _; rw [alloc_size]; omega)).trans (((alloc_below w2 _).cell (p := ⟨w.heap.size, 5, none⟩) hlt2).trans d5)
  have f6 := (hb3.cell (p := ⟨w.heap.size, 6, none⟩) (by show w.heap.size < _; rw [alloc_size]; omega)).trans (((alloc_below w2 _).cell (p := ⟨w.heap.size, 6, none⟩) hlt2).trans d6)
  have hw3 : Below w.heap.size w w3 := hw2.trans (((alloc_below w2 _).trans (hb3.mono (by rw [alloc_size]; omega))).mono hw2.size)
  have hlt3 : w.heap.size < w3.heap.size := by have := hb3.size; rw [alloc_size] at this; omega
  have HSP := psplit_ok [1, 2, 3] _ 2 w3 (HS.out.on hw3) (by decide) (by decide) (by decide)
  have e0 : splitL [1, 2, 3] 2 = [[1, 2], [3]] := by decide
  rw [e0] at HSP
  have HSP := Lib.hid HSP
  clear d0 d1 d2 d3 d4 d5 d6 hb3 e0
  go_wp2_with fail
  refine HSP.out.mono ?_
  rintro e w4 ⟨v4, rfl, hv4, hb4⟩
  have g0 := (hb4.cell (p := ⟨w.heap.size, 0, none⟩) hlt3).trans f0
  have g1 := (hb4.cell (p := ⟨w.heap.size, 1, none⟩) hlt3).trans f1
  have g2 := (hb4.cell (p := ⟨w.heap.size, 2, none⟩) hlt3).trans f2
  have g3 := (hb4.cell (p := ⟨w.heap.size, 3, none⟩) hlt3).trans f3
  have g4 := (hb4.cell (p := ⟨w.heap.size, 4, none⟩) hlt3).trans f4
  have g5 := (hb4.cell (p := ⟨w.heap.size, 5, none⟩) hlt3).trans f5
  have g6 := (hb4.cell (p := ⟨w.heap.size, 6, none⟩) hlt3).trans f6
  have hw4 : Below w.heap.size w w4 := hw3.trans (hb4.mono hw3.size)
  have hlt4 : w.heap.size < w4.heap.size := by have := hb4.size; omega
  obtain ⟨Al, cl, vs, rfl, l1, l2, l3, l4, l5⟩ := hv4
  obtain ⟨bl, ol, rfl, lb, lc⟩ := l4.out (by decide)
  have p0 : w4.cell? ⟨bl, ol, none⟩ = some (vs.getD 0 (.slice none 0 0)) := lc 0 (by decide)
  have p1 : w4.cell? ⟨bl, ol + 1, none⟩ = some (vs.getD 1 (.slice none 0 0)) := lc 1 (by decide)
  have q0 := l5.out 0 (by decide)
  have q1 := l5.out 1 (by decide)
  generalize vs.getD 0 (.slice none 0 0) = y0 at p0 q0
  generalize vs.getD 1 (.slice none 0 0) = y1 at p1 q1
  obtain ⟨B0, k0, rfl, _, _, _⟩ := q0
  obtain ⟨B1, k1, rfl, _, _, _⟩ := q1
  clear f0 f1 f2 f3 f4 f5 f6 hb4 l4 l5 lc
  go_wp2_with fail
  go_loopw [69] (fun i wr => ∃ j : Nat, j ≤ 2 ∧ i = .int .i64 j ∧ wr = w4.alloc (.cells (chBlk (.slice B0 2 k0) (.slice B1 1 k1) j) 24)) (fun i _ => 2 - (intOf i).toNat)
  case atStart => exact ⟨0, by omega, rfl, rfl⟩
  case round =>
    obtain ⟨j, hj, rfl, rfl⟩ := hrel
    have hjj : j = 0 ∨ j = 1 ∨ j = 2 := by omega
    rcases hjj with rfl | rfl | rfl
    · simp only [chBlk]
      go_wp2_with fail
      go_roundw
      case rel => exact ⟨1, by omega, rfl, rfl⟩
      case measure => simp [intOf]
    · simp only [chBlk]
      go_wp2_with fail
      go_roundw
      case rel => exact ⟨2, by omega, rfl, rfl⟩
      case measure => simp [intOf]
    · simp only [chBlk]
      go_wp2_with fail
      go_region_held3 (fun w' => w'.cell? ⟨w.heap.size, 0, none⟩ = some (.int .i64 128) ∧ w'.cell? ⟨w.heap.size, 5, none⟩ = some (.int .i64 0) ∧ w'.cell? ⟨w.heap.size, 6, none⟩ = some (.bool false))
        (first | (go_keep; done) | exact ⟨((alloc_below w4 _).cell (p := ⟨w.heap.size, 0, none⟩) hlt4).trans g0, ((alloc_below w4 _).cell (p := ⟨w.heap.size, 5, none⟩) hlt4).trans g5, ((alloc_below w4 _).cell (p := ⟨w.heap.size, 6, none⟩) hlt4).trans g6⟩) (fail)
      go_wp2_with fail
      go_ret2
      exact ⟨w4.heap.size, B1, k1, rfl, (cell_of_row _ w4.heap.size 0 _ 24 (0, 0) (heap_alloc_new w4 _)).trans rfl, (cell_of_row _ w4.heap.size 7 _ 24 (0, 0) (heap_alloc_new w4 _)).trans rfl, (cell_of_row _ w4.heap.size 11 _ 24 (0, 0) (heap_alloc_new w4 _)).trans rfl, hw4.trans (((alloc_below w4 _).drew).mono hw4.size)⟩
end Go.Proofs.Ytjoibonbmalbdaa
