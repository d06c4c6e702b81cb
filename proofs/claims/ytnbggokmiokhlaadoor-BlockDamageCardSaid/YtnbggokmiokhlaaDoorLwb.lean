/-
  The walks of the laws BlockSame, BlockRoundTrip, BlockDamage.
-/
import Derived.Test.YtnbggokmiokhlaaDoorAwk
import Derived.Test.YtnbggokmiokhlaaDoorBlr
import Derived.RegionTactic
import Derived.ChangeAlike
namespace Go.Proofs.YtnbggokmiokhlaaDoor
set_option linter.unusedVariables false
set_option linter.unusedSimpArgs false
open Go.RowKit

theorem cells14 {W : World} {n : Nat} {x0 x1 x2 x3 x4 x5 x6 y0 y1 y2 y3 y4 y5 y6 : Value} (ra : W.heap[n]? = some (.cells #[x0, x1, x2, x3, x4, x5, x6] 47 (0, 0))) (rb : W.heap[n + 1]? = some (.cells #[y0, y1, y2, y3, y4, y5, y6] 47 (0, 0))) :
    W.cell? ⟨n, 0, none⟩ = some x0 ∧ W.cell? ⟨n, 1, none⟩ = some x1 ∧ W.cell? ⟨n, 2, none⟩ = some x2 ∧ W.cell? ⟨n, 3, none⟩ = some x3 ∧ W.cell? ⟨n, 4, none⟩ = some x4 ∧ W.cell? ⟨n, 5, none⟩ = some x5 ∧ W.cell? ⟨n, 6, none⟩ = some x6 ∧ W.cell? ⟨n + 1, 0, none⟩ = some y0 ∧ W.cell? ⟨n + 1, 1, none⟩ = some y1 ∧ W.cell? ⟨n + 1, 2, none⟩ = some y2 ∧ W.cell? ⟨n + 1, 3, none⟩ = some y3 ∧ W.cell? ⟨n + 1, 4, none⟩ = some y4 ∧ W.cell? ⟨n + 1, 5, none⟩ = some y5 ∧ W.cell? ⟨n + 1, 6, none⟩ = some y6 :=
  ⟨cell_of_row _ _ 0 _ _ _ ra, cell_of_row _ _ 1 _ _ _ ra, cell_of_row _ _ 2 _ _ _ ra, cell_of_row _ _ 3 _ _ _ ra, cell_of_row _ _ 4 _ _ _ ra, cell_of_row _ _ 5 _ _ _ ra, cell_of_row _ _ 6 _ _ _ ra, cell_of_row _ _ 0 _ _ _ rb, cell_of_row _ _ 1 _ _ _ rb, cell_of_row _ _ 2 _ _ _ rb, cell_of_row _ _ 3 _ _ _ rb, cell_of_row _ _ 4 _ _ _ rb, cell_of_row _ _ 5 _ _ _ rb, cell_of_row _ _ 6 _ _ _ rb⟩

set_option maxRecDepth 100000 in
set_option maxHeartbeats 3200000 in
theorem law_sameb (a b : Bk) (v u : Value) (w : World) (ha : SL w w.heap.size v a.inf) (hb : SL w w.heap.size u b.inf) (hT : Tb w) :
    Calls Tryd.prog 15 #[a.val v, b.val u] w fun e w' => e = .returned (.bool true) ∧ Below w.heap.size w w' := by
  have HA' := Lib.hid ha
  have HB' := Lib.hid hb
  have HT := Lib.hid hT
  obtain ⟨A1, c1, rfl, _, _, _⟩ := ha
  obtain ⟨A2, c2, rfl, _, _, _⟩ := hb
  have HP := Lib.hid (fun (W : World) (hW : Below w.heap.size w W) => psameb_any a b _ _ W (HA'.out.on hW) (HB'.out.on hW))
  have HR := Lib.hid (fun (W : World) (hW : Below w.heap.size w W) => rsameb_any a b _ _ W (HA'.out.on hW) (HB'.out.on hW))
  have hq := fun (W : World) (hW : Below w.heap.size w W) => psameb_any b a _ _ W (HB'.out.on hW) (HA'.out.on hW)
  rw [sameB_comm] at hq
  have HQ := Lib.hid hq
  have ho := fun (W : World) (hW : Below w.heap.size w W) => psameb_any a a _ _ W (HA'.out.on hW) (HA'.out.on hW)
  rw [sameB_self] at ho
  have HO := Lib.hid ho
  have HA := Lib.hid (fun (W : World) (hW : Below w.heap.size w W) => awake_any W (HT.out.on hW))
  clear hq ho hT
  generalize sameB a b = S at *
  obtain ⟨a0, a1, a2, a3, a4, a5, ad⟩ := a
  obtain ⟨b0, b1, b2, b3, b4, b5, bd⟩ := b
  simp only [Bk.val] at *
  have h2 := below_2 w (.cells #[.int .i64 a0, .int .i64 a1, .int .i64 a2, .bool a3, .int .i64 a4, .bool a5, .slice A1 ad.length c1] 47) (.cells #[.int .i64 b0, .int .i64 b1, .int .i64 b2, .bool b3, .int .i64 b4, .bool b5, .slice A2 bd.length c2] 47)
  have ra0 : ((w.alloc (.cells #[.int .i64 a0, .int .i64 a1, .int .i64 a2, .bool a3, .int .i64 a4, .bool a5, .slice A1 ad.length c1] 47)).alloc (.cells #[.int .i64 b0, .int .i64 b1, .int .i64 b2, .bool b3, .int .i64 b4, .bool b5, .slice A2 bd.length c2] 47)).heap[w.heap.size]? = some (.cells #[.int .i64 a0, .int .i64 a1, .int .i64 a2, .bool a3, .int .i64 a4, .bool a5, .slice A1 ad.length c1] 47 (0, 0)) := heap_alloc2_old w _ _
  have rb0 : ((w.alloc (.cells #[.int .i64 a0, .int .i64 a1, .int .i64 a2, .bool a3, .int .i64 a4, .bool a5, .slice A1 ad.length c1] 47)).alloc (.cells #[.int .i64 b0, .int .i64 b1, .int .i64 b2, .bool b3, .int .i64 b4, .bool b5, .slice A2 bd.length c2] 47)).heap[w.heap.size + 1]? = some (.cells #[.int .i64 b0, .int .i64 b1, .int .i64 b2, .bool b3, .int .i64 b4, .bool b5, .slice A2 bd.length c2] 47 (0, 0)) := by
    have := heap_alloc_new (w.alloc (.cells #[.int .i64 a0, .int .i64 a1, .int .i64 a2, .bool a3, .int .i64 a4, .bool a5, .slice A1 ad.length c1] 47)) (.cells #[.int .i64 b0, .int .i64 b1, .int .i64 b2, .bool b3, .int .i64 b4, .bool b5, .slice A2 bd.length c2] 47)
    rw [alloc_size] at this
    exact this
  have RA0 := Lib.hid ra0
  have RB0 := Lib.hid rb0
  have HSZ : Hid (((w.alloc (.cells #[.int .i64 a0, .int .i64 a1, .int .i64 a2, .bool a3, .int .i64 a4, .bool a5, .slice A1 ad.length c1] 47)).alloc (.cells #[.int .i64 b0, .int .i64 b1, .int .i64 b2, .bool b3, .int .i64 b4, .bool b5, .slice A2 bd.length c2] 47)).heap.size = w.heap.size + 2) := by show _ = _; rw [alloc_size, alloc_size]
  have HWD := Lib.hid h2.drew
  clear ra0 rb0 h2
  cases S
  all_goals
    go_enter Tryd.func15, Tryd.ntmps15
    go_wp2_with fail
    go_region_held3 (fun w' => w'.cell? ⟨w.heap.size, 0, none⟩ = some (.int .i64 a0) ∧ w'.cell? ⟨w.heap.size, 1, none⟩ = some (.int .i64 a1) ∧ w'.cell? ⟨w.heap.size, 2, none⟩ = some (.int .i64 a2) ∧ w'.cell? ⟨w.heap.size, 3, none⟩ = some (.bool a3) ∧ w'.cell? ⟨w.heap.size, 4, none⟩ = some (.int .i64 a4) ∧ w'.cell? ⟨w.heap.size, 5, none⟩ = some (.bool a5) ∧ w'.cell? ⟨w.heap.size, 6, none⟩ = some (.slice A1 ad.length c1) ∧ w'.cell? ⟨w.heap.size + 1, 0, none⟩ = some (.int .i64 b0) ∧ w'.cell? ⟨w.heap.size + 1, 1, none⟩ = some (.int .i64 b1) ∧ w'.cell? ⟨w.heap.size + 1, 2, none⟩ = some (.int .i64 b2) ∧ w'.cell? ⟨w.heap.size + 1, 3, none⟩ = some (.bool b3) ∧ w'.cell? ⟨w.heap.size + 1, 4, none⟩ = some (.int .i64 b4) ∧ w'.cell? ⟨w.heap.size + 1, 5, none⟩ = some (.bool b5) ∧ w'.cell? ⟨w.heap.size + 1, 6, none⟩ = some (.slice A2 bd.length c2))
      (first
        | (go_keep; done)
        | exact cells14 RA0.out RB0.out
        | exact cells14 ((hb1.block _ (by show w.heap.size < ((w.alloc _).alloc _).heap.size; rw [HSZ.out]; omega)).trans RA0.out) ((hb1.block _ (by show w.heap.size + 1 < ((w.alloc _).alloc _).heap.size; rw [HSZ.out]; omega)).trans RB0.out)
        | exact cells14 ((hb2.block _ hp1).trans ((hb1.block _ (by show w.heap.size < ((w.alloc _).alloc _).heap.size; rw [HSZ.out]; omega)).trans RA0.out)) ((hb2.block _ hq1).trans ((hb1.block _ (by show w.heap.size + 1 < ((w.alloc _).alloc _).heap.size; rw [HSZ.out]; omega)).trans RB0.out))
        | exact cells14 ((hb3.block _ hp2).trans ((hb2.block _ hp1).trans ((hb1.block _ (by show w.heap.size < ((w.alloc _).alloc _).heap.size; rw [HSZ.out]; omega)).trans RA0.out))) ((hb3.block _ hq2).trans ((hb2.block _ hq1).trans ((hb1.block _ (by show w.heap.size + 1 < ((w.alloc _).alloc _).heap.size; rw [HSZ.out]; omega)).trans RB0.out)))
        | exact cells14 ((hb4.block _ hp3).trans ((hb3.block _ hp2).trans ((hb2.block _ hp1).trans ((hb1.block _ (by show w.heap.size < ((w.alloc _).alloc _).heap.size; rw [HSZ.out]; omega)).trans RA0.out)))) ((hb4.block _ hq3).trans ((hb3.block _ hq2).trans ((hb2.block _ hq1).trans ((hb1.block _ (by show w.heap.size + 1 < ((w.alloc _).alloc _).heap.size; rw [HSZ.out]; omega)).trans RB0.out))))
        | exact cells14 ((hb5.block _ hp4).trans ((hb4.block _ hp3).trans ((hb3.block _ hp2).trans ((hb2.block _ hp1).trans ((hb1.block _ (by show w.heap.size < ((w.alloc _).alloc _).heap.size; rw [HSZ.out]; omega)).trans RA0.out))))) ((hb5.block _ hq4).trans ((hb4.block _ hq3).trans ((hb3.block _ hq2).trans ((hb2.block _ hq1).trans ((hb1.block _ (by show w.heap.size + 1 < ((w.alloc _).alloc _).heap.size; rw [HSZ.out]; omega)).trans RB0.out)))))
        | exact cells14 ((hb6.block _ hp5).trans ((hb5.block _ hp4).trans ((hb4.block _ hp3).trans ((hb3.block _ hp2).trans ((hb2.block _ hp1).trans ((hb1.block _ (by show w.heap.size < ((w.alloc _).alloc _).heap.size; rw [HSZ.out]; omega)).trans RA0.out)))))) ((hb6.block _ hq5).trans ((hb5.block _ hq4).trans ((hb4.block _ hq3).trans ((hb3.block _ hq2).trans ((hb2.block _ hq1).trans ((hb1.block _ (by show w.heap.size + 1 < ((w.alloc _).alloc _).heap.size; rw [HSZ.out]; omega)).trans RB0.out)))))))
      (first
        | (go_at_call 47; (with_reducible refine (HP.out _ HWD.out).mono ?_); rintro e w1 ⟨rfl, hb1⟩; have hp1 : w.heap.size < w1.heap.size := (by have h := hb1.size; have h' : w.heap.size + 2 ≤ w1.heap.size := (by rw [← HSZ.out]; exact h); omega); have hq1 : w.heap.size + 1 < w1.heap.size := (by have h := hb1.size; have h' : w.heap.size + 2 ≤ w1.heap.size := (by rw [← HSZ.out]; exact h); omega))
        | (go_at_call 46; (with_reducible refine (HR.out _ (HWD.out.trans (hb1.mono HWD.out.size))).mono ?_); rintro e w2 ⟨rfl, hb2⟩; have hp2 : w.heap.size < w2.heap.size := (by have := hb2.size; omega); have hq2 : w.heap.size + 1 < w2.heap.size := (by have := hb2.size; omega))
        | (go_at_call 47; (with_reducible refine (HQ.out _ ((HWD.out.trans (hb1.mono HWD.out.size)).trans (hb2.mono (HWD.out.trans (hb1.mono HWD.out.size)).size))).mono ?_); rintro e w3 ⟨rfl, hb3⟩; have hp3 : w.heap.size < w3.heap.size := (by have := hb3.size; omega); have hq3 : w.heap.size + 1 < w3.heap.size := (by have := hb3.size; omega))
        | (go_at_call 47; (with_reducible refine (HP.out _ (((HWD.out.trans (hb1.mono HWD.out.size)).trans (hb2.mono (HWD.out.trans (hb1.mono HWD.out.size)).size)).trans (hb3.mono ((HWD.out.trans (hb1.mono HWD.out.size)).trans (hb2.mono (HWD.out.trans (hb1.mono HWD.out.size)).size)).size))).mono ?_); rintro e w4 ⟨rfl, hb4⟩; have hp4 : w.heap.size < w4.heap.size := (by have := hb4.size; omega); have hq4 : w.heap.size + 1 < w4.heap.size := (by have := hb4.size; omega))
        | (go_at_call 47; (with_reducible refine (HO.out _ ((((HWD.out.trans (hb1.mono HWD.out.size)).trans (hb2.mono (HWD.out.trans (hb1.mono HWD.out.size)).size)).trans (hb3.mono ((HWD.out.trans (hb1.mono HWD.out.size)).trans (hb2.mono (HWD.out.trans (hb1.mono HWD.out.size)).size)).size)).trans (hb4.mono (((HWD.out.trans (hb1.mono HWD.out.size)).trans (hb2.mono (HWD.out.trans (hb1.mono HWD.out.size)).size)).trans (hb3.mono ((HWD.out.trans (hb1.mono HWD.out.size)).trans (hb2.mono (HWD.out.trans (hb1.mono HWD.out.size)).size)).size)).size))).mono ?_); rintro e w5 ⟨rfl, hb5⟩; have hp5 : w.heap.size < w5.heap.size := (by have := hb5.size; omega); have hq5 : w.heap.size + 1 < w5.heap.size := (by have := hb5.size; omega))
        | (go_at_call 40; (with_reducible refine (HA.out _ (((((HWD.out.trans (hb1.mono HWD.out.size)).trans (hb2.mono (HWD.out.trans (hb1.mono HWD.out.size)).size)).trans (hb3.mono ((HWD.out.trans (hb1.mono HWD.out.size)).trans (hb2.mono (HWD.out.trans (hb1.mono HWD.out.size)).size)).size)).trans (hb4.mono (((HWD.out.trans (hb1.mono HWD.out.size)).trans (hb2.mono (HWD.out.trans (hb1.mono HWD.out.size)).size)).trans (hb3.mono ((HWD.out.trans (hb1.mono HWD.out.size)).trans (hb2.mono (HWD.out.trans (hb1.mono HWD.out.size)).size)).size)).size)).trans (hb5.mono ((((HWD.out.trans (hb1.mono HWD.out.size)).trans (hb2.mono (HWD.out.trans (hb1.mono HWD.out.size)).size)).trans (hb3.mono ((HWD.out.trans (hb1.mono HWD.out.size)).trans (hb2.mono (HWD.out.trans (hb1.mono HWD.out.size)).size)).size)).trans (hb4.mono (((HWD.out.trans (hb1.mono HWD.out.size)).trans (hb2.mono (HWD.out.trans (hb1.mono HWD.out.size)).size)).trans (hb3.mono ((HWD.out.trans (hb1.mono HWD.out.size)).trans (hb2.mono (HWD.out.trans (hb1.mono HWD.out.size)).size)).size)).size)).size))).mono ?_); rintro e w6 ⟨rfl, hb6⟩; have hp6 : w.heap.size < w6.heap.size := (by have := hb6.size; omega); have hq6 : w.heap.size + 1 < w6.heap.size := (by have := hb6.size; omega)))
    go_wp2_with fail
    go_ret
    exact ⟨rfl, ((((((HWD.out.trans (hb1.mono HWD.out.size)).trans (hb2.mono (HWD.out.trans (hb1.mono HWD.out.size)).size)).trans (hb3.mono ((HWD.out.trans (hb1.mono HWD.out.size)).trans (hb2.mono (HWD.out.trans (hb1.mono HWD.out.size)).size)).size)).trans (hb4.mono (((HWD.out.trans (hb1.mono HWD.out.size)).trans (hb2.mono (HWD.out.trans (hb1.mono HWD.out.size)).size)).trans (hb3.mono ((HWD.out.trans (hb1.mono HWD.out.size)).trans (hb2.mono (HWD.out.trans (hb1.mono HWD.out.size)).size)).size)).size)).trans (hb5.mono ((((HWD.out.trans (hb1.mono HWD.out.size)).trans (hb2.mono (HWD.out.trans (hb1.mono HWD.out.size)).size)).trans (hb3.mono ((HWD.out.trans (hb1.mono HWD.out.size)).trans (hb2.mono (HWD.out.trans (hb1.mono HWD.out.size)).size)).size)).trans (hb4.mono (((HWD.out.trans (hb1.mono HWD.out.size)).trans (hb2.mono (HWD.out.trans (hb1.mono HWD.out.size)).size)).trans (hb3.mono ((HWD.out.trans (hb1.mono HWD.out.size)).trans (hb2.mono (HWD.out.trans (hb1.mono HWD.out.size)).size)).size)).size)).size)).trans (hb6.mono (((((HWD.out.trans (hb1.mono HWD.out.size)).trans (hb2.mono (HWD.out.trans (hb1.mono HWD.out.size)).size)).trans (hb3.mono ((HWD.out.trans (hb1.mono HWD.out.size)).trans (hb2.mono (HWD.out.trans (hb1.mono HWD.out.size)).size)).size)).trans (hb4.mono (((HWD.out.trans (hb1.mono HWD.out.size)).trans (hb2.mono (HWD.out.trans (hb1.mono HWD.out.size)).size)).trans (hb3.mono ((HWD.out.trans (hb1.mono HWD.out.size)).trans (hb2.mono (HWD.out.trans (hb1.mono HWD.out.size)).size)).size)).size)).trans (hb5.mono ((((HWD.out.trans (hb1.mono HWD.out.size)).trans (hb2.mono (HWD.out.trans (hb1.mono HWD.out.size)).size)).trans (hb3.mono ((HWD.out.trans (hb1.mono HWD.out.size)).trans (hb2.mono (HWD.out.trans (hb1.mono HWD.out.size)).size)).size)).trans (hb4.mono (((HWD.out.trans (hb1.mono HWD.out.size)).trans (hb2.mono (HWD.out.trans (hb1.mono HWD.out.size)).size)).trans (hb3.mono ((HWD.out.trans (hb1.mono HWD.out.size)).trans (hb2.mono (HWD.out.trans (hb1.mono HWD.out.size)).size)).size)).size)).size)).size))⟩
end Go.Proofs.YtnbggokmiokhlaaDoor
