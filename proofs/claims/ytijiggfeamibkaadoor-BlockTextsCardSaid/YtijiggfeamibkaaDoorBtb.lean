/-
  The lines of the other kinds, the information field (the program's).
-/
import Derived.Test.YtijiggfeamibkaaDoorBta
namespace Go.Proofs.YtijiggfeamibkaaDoor
set_option linter.unusedVariables false
set_option linter.unusedSimpArgs false
open Go.RowKit

theorem rn_any (s c : Int) (h : isRc c = true) (w : World) : Calls Tryd.prog 84 #[.agg #[.int .i64 s, .int .i64 c]] w fun e w' => e = .returned (.string ⟨(nmR c).toArray⟩) ∧ Below w.heap.size w w' := by
  rcases rc_cases h with rfl | rfl | rfl
  · exact rn_0 w s
  · exact rn_1 w s
  · exact rn_2 w s
theorem sn_any (c : Int) (a : Bool) (h : isSc c = true) (w : World) : Calls Tryd.prog 90 #[.agg #[.int .i64 c, .bool a]] w fun e w' => e = .returned (.string ⟨(nmS c).toArray⟩) ∧ Below w.heap.size w w' := by
  rcases sc_cases h with rfl | rfl | rfl | rfl
  · exact sn_0 w a
  · exact sn_1 w a
  · exact sn_2 w a
  · exact sn_3 w a
theorem nmR_len (c : Int) : (nmR c).length ≤ 5 := by unfold nmR; (repeat' split) <;> decide
theorem nmS_len (c : Int) : (nmS c).length ≤ 6 := by unfold nmS; (repeat' split) <;> decide

set_option maxRecDepth 100000 in
set_option maxHeartbeats 1600000 in
theorem pline_rdy (s c : Int) (nd ft : List UInt8) (w : World) (hs : isBit s = true) (hc : isRc c = true) (hn : nd.length ≤ 2) :
    Calls Tryd.prog 82 #[.agg #[.int .i64 s, .int .i64 c], .string ⟨nd.toArray⟩, .string ⟨ft.toArray⟩] w fun e w' => e = .returned (.string ⟨(jn [[82], nd, decF s.toNat, nmR c]).toArray⟩) ∧ Below w.heap.size w w' := by
  have HI := Lib.hid (itoa_bit s hs)
  have HC := Lib.hid (rn_any s c hc)
  have HS := decF_01 hs
  have HW : Hid (∀ W o, o = Obj.cells #[.string ⟨#[82]⟩, .string ⟨nd.toArray⟩, .string ⟨(decF s.toNat).toArray⟩, .string ⟨(nmR c).toArray⟩] 9 → Calls Tryd.prog 56 #[.slice (some ⟨W.heap.size, 0, none⟩) 4 4] (W.alloc o) fun e w' => e = .returned (.string ⟨(jn [[82], nd, decF s.toNat, nmR c]).toArray⟩) ∧ Below W.heap.size W w') := fun W o ho =>
    words_lit [[82], nd, decF s.toNat, nmR c] W 4 rfl o (by rw [ho]; rfl) (by omega) (by omega) (by
      have := nmR_len c
      rcases HS with h | h <;> (simp [sumLn, h]; omega))
  have hrow := heap_alloc_new w (.cells #[.int .i64 s, .int .i64 c] 48)
  have HROW := Lib.hid hrow
  have HB := Lib.hid (alloc_below w (.cells #[.int .i64 s, .int .i64 c] 48))
  have hsz : w.heap.size < (w.alloc (.cells #[.int .i64 s, .int .i64 c] 48)).heap.size := by rw [alloc_size]; omega
  have HC2 : Hid (∀ W : World, W.heap[w.heap.size]? = some (.cells #[.int .i64 s, .int .i64 c] 48 (0, 0)) → W.cell? ⟨w.heap.size, 0, none⟩ = some (.int .i64 s) ∧ W.cell? ⟨w.heap.size, 1, none⟩ = some (.int .i64 c)) := fun W h => by
    have x0 := cell_of_row W w.heap.size 0 _ _ _ h
    have x1 := cell_of_row W w.heap.size 1 _ _ _ h
    simp only [List.getElem?_toArray, List.getElem?_cons_zero, List.getElem?_cons_succ] at x0 x1
    exact ⟨x0, x1⟩
  clear hrow HS
  generalize jn [[82], nd, decF s.toNat, nmR c] = r at *
  generalize decF s.toNat = ds at *
  generalize nmR c = dw at *
  go_enter Tryd.func82, Tryd.ntmps82
  go_wp2_with fail
  generalize w.alloc (Obj.cells #[.int .i64 s, .int .i64 c] 48) = W0 at *
  go_region_held3 (fun W => W.cell? ⟨w.heap.size, 0, none⟩ = some (.int .i64 s) ∧ W.cell? ⟨w.heap.size, 1, none⟩ = some (.int .i64 c))
    (first
      | (go_keep; done)
      | exact HC2.out _ HROW.out
      | exact HC2.out _ ((hb2.block _ (by show w.heap.size < W0.heap.size; exact hsz)).trans HROW.out)
      | exact HC2.out _ ((hb4.block _ hq2).trans ((hb2.block _ (by show w.heap.size < W0.heap.size; exact hsz)).trans HROW.out)))
    (first
      | (go_at_call 84; refine (HC.out _).mono ?_; rintro e w2 ⟨rfl, hb2⟩; have hq2 : w.heap.size < w2.heap.size := (by have h := hb2.size; have h' : W0.heap.size ≤ w2.heap.size := h; omega))
      | (go_at_call 57; refine (HI.out _).mono ?_; rintro e w3 ⟨rfl, rfl⟩)
      | (go_at_call 56; refine (HW.out _ _ rfl).mono ?_; rintro e w4 ⟨rfl, hb4⟩))
  all_goals
    go_wp2_with fail
    go_ret
    have hB := HB.out.drew.trans (Below.mono hb2 HB.out.size)
    exact ⟨rfl, hB.trans (hb4.mono hB.size)⟩

set_option maxRecDepth 100000 in
set_option maxHeartbeats 1600000 in
theorem pline_sup (c : Int) (a : Bool) (nd ft : List UInt8) (w : World) (hc : isSc c = true) (hn : nd.length ≤ 2) (hf : ft.length ≤ 1000) :
    Calls Tryd.prog 88 #[.agg #[.int .i64 c, .bool a], .string ⟨nd.toArray⟩, .string ⟨ft.toArray⟩] w fun e w' => e = .returned (.string ⟨(jn [[83], nd, nmS c, wdS a, ft]).toArray⟩) ∧ Below w.heap.size w w' := by
  have HC := Lib.hid (sn_any c a hc)
  have HI := Lib.hid (choose_S a)
  have HW : Hid (∀ W o, o = Obj.cells #[.string ⟨#[83]⟩, .string ⟨nd.toArray⟩, .string ⟨(nmS c).toArray⟩, .string ⟨(wdS a).toArray⟩, .string ⟨ft.toArray⟩] 9 → Calls Tryd.prog 56 #[.slice (some ⟨W.heap.size, 0, none⟩) 5 5] (W.alloc o) fun e w' => e = .returned (.string ⟨(jn [[83], nd, nmS c, wdS a, ft]).toArray⟩) ∧ Below W.heap.size W w') := fun W o ho =>
    words_lit [[83], nd, nmS c, wdS a, ft] W 5 rfl o (by rw [ho]; rfl) (by omega) (by omega) (by
      have := nmS_len c
      have := wdS_len a
      simp [sumLn]; omega)
  have hrow := heap_alloc_new w (.cells #[.int .i64 c, .bool a] 50)
  have HROW := Lib.hid hrow
  have HB := Lib.hid (alloc_below w (.cells #[.int .i64 c, .bool a] 50))
  have hsz : w.heap.size < (w.alloc (.cells #[.int .i64 c, .bool a] 50)).heap.size := by rw [alloc_size]; omega
  have HC2 : Hid (∀ W : World, W.heap[w.heap.size]? = some (.cells #[.int .i64 c, .bool a] 50 (0, 0)) → W.cell? ⟨w.heap.size, 0, none⟩ = some (.int .i64 c) ∧ W.cell? ⟨w.heap.size, 1, none⟩ = some (.bool a)) := fun W h => by
    have x0 := cell_of_row W w.heap.size 0 _ _ _ h
    have x1 := cell_of_row W w.heap.size 1 _ _ _ h
    simp only [List.getElem?_toArray, List.getElem?_cons_zero, List.getElem?_cons_succ] at x0 x1
    exact ⟨x0, x1⟩
  clear hrow
  generalize jn [[83], nd, nmS c, wdS a, ft] = r at *
  generalize nmS c = ds at *
  generalize wdS a = dw at *
  go_enter Tryd.func88, Tryd.ntmps88
  go_wp2_with fail
  generalize w.alloc (Obj.cells #[.int .i64 c, .bool a] 50) = W0 at *
  go_region_held3 (fun W => W.cell? ⟨w.heap.size, 0, none⟩ = some (.int .i64 c) ∧ W.cell? ⟨w.heap.size, 1, none⟩ = some (.bool a))
    (first
      | (go_keep; done)
      | exact HC2.out _ HROW.out
      | exact HC2.out _ ((hb2.block _ (by show w.heap.size < W0.heap.size; exact hsz)).trans HROW.out)
      | exact HC2.out _ ((hb4.block _ hq2).trans ((hb2.block _ (by show w.heap.size < W0.heap.size; exact hsz)).trans HROW.out)))
    (first
      | (go_at_call 90; refine (HC.out _).mono ?_; rintro e w2 ⟨rfl, hb2⟩; have hq2 : w.heap.size < w2.heap.size := (by have h := hb2.size; have h' : W0.heap.size ≤ w2.heap.size := h; omega))
      | (go_at_call 58; refine (HI.out _).mono ?_; rintro e w3 ⟨rfl, rfl⟩)
      | (go_at_call 56; refine (HW.out _ _ rfl).mono ?_; rintro e w4 ⟨rfl, hb4⟩))
  all_goals
    go_wp2_with fail
    go_ret
    have hB := HB.out.drew.trans (Below.mono hb2 HB.out.size)
    exact ⟨rfl, hB.trans (hb4.mono hB.size)⟩

theorem pinft_any (l : List UInt8) (v : Value) (w : World) (hl : SL w w.heap.size v l) (hs : l.length ≤ 300) : Calls Tryd.prog 11 #[v] w fun e w' => e = .returned (.string ⟨(infT l).toArray⟩) ∧ Below w.heap.size w w' := by
  have HX := Lib.hid (phex_any l v w hl (by omega))
  obtain ⟨A, c, rfl, h1, h2, h3⟩ := hl
  clear h3
  unfold infT
  by_cases h0 : l = []
  · rw [if_pos h0]
    have e0 : ((l.length : Int) == 0) = true := by rw [h0]; rfl
    go_enter Tryd.func11, Tryd.ntmps11
    go_wp2_with fail
    go_ret
    exact ⟨rfl, Below.refl _ _⟩
  · rw [if_neg h0]
    have e0 : ((l.length : Int) == 0) = false := by
      have : l.length ≠ 0 := fun h => h0 (List.eq_nil_of_length_eq_zero h)
      rw [beq_eq_false_iff_ne]; omega
    generalize hexL l = r at *
    go_enter Tryd.func11, Tryd.ntmps11
    go_wp2_with fail
    refine HX.out.mono ?_
    rintro e w1 ⟨rfl, hb1⟩
    go_wp2_with fail
    go_ret
    exact ⟨rfl, hb1⟩
end Go.Proofs.YtijiggfeamibkaaDoor
