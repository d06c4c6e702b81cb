/-
  The walks of seal and Seal where no response is expected, and of shut.
-/
import Derived.Test.YtdalcldilmmgmaaDoorMge
namespace Go.Proofs.YtdalcldilmmgmaaDoor
set_option linter.unusedVariables false
set_option linter.unusedSimpArgs false
open Go.RowKit

theorem row2st {W : World} {b : Nat} {x0 x1 : Value} {t : TypeId} (h : W.heap[b]? = some (.cells #[x0, x1] t (0, 0))) (y0 y1 : Value) :
    ((W.setCell ⟨b, 0, none⟩ y0).setCell ⟨b, 1, none⟩ y1).heap[b]? = some (.cells #[y0, y1] t (0, 0)) := by
  have h0 : (W.setCell ⟨b, 0, none⟩ y0).heap[b]? = some (.cells #[y0, x1] t (0, 0)) := heap_setCell_same _ b 0 _ _ y0 h
  exact heap_setCell_same _ b 1 _ _ y1 h0
theorem BP.st2 {B : Nat} {w W : World} (h : BP B w W) {b : Nat} (hb : B ≤ b) (y0 y1 : Value) : BP B w ((W.setCell ⟨b, 0, none⟩ y0).setCell ⟨b, 1, none⟩ y1) := (h.st hb 0 y0).st hb 1 y1
theorem cells2 {W : World} {b : Nat} {x0 x1 : Value} {t : TypeId} (h : W.heap[b]? = some (.cells #[x0, x1] t (0, 0))) : (W.cell? ⟨b, 0, none⟩ = some x0 ∧ W.cell? ⟨b, 1, none⟩ = some x1) ∧ (W.frozen? ⟨b, 0, none⟩ = false ∧ W.frozen? ⟨b, 1, none⟩ = false) :=
  ⟨⟨cell_of_row _ _ 0 _ _ _ h, cell_of_row _ _ 1 _ _ _ h⟩, frozen_of_row _ _ 0 _ _ h, frozen_of_row _ _ 1 _ _ h⟩
set_option maxRecDepth 100000 in
set_option maxHeartbeats 1600000 in
theorem pseal_bad (g : Nat) (s : Ch) (r : Rs) (A : Option Addr) (n k : Nat) (w : World) (h : CH w g s) (hE : ckE s r ≠ 0) :
    Calls Tryd.prog 32 #[.pointer (some ⟨g, 0, none⟩), r.val (.slice A n k)] w fun e w' => e = .returned (.tuple #[(⟨[], 0⟩ : Rs).val (.slice none 0 0), errV (ckE s r)]) ∧ Below w.heap.size w w' := by
  have hc := fun W (hW : Below w.heap.size w W) => pcheck_any g s r A n k W (h.below hW)
  rw [erV, if_neg hE] at hc
  obtain ⟨rd, sw⟩ := r
  simp only [Rs.val] at *
  unfold errV at *
  have hb := alloc2_below w (Obj.cells #[.slice A n k, .int .i64 sw] 32) (Obj.cells #[.slice none 0 0, .int .i64 0] 32)
  have HB := Lib.hid hb
  have HC := Lib.hid (hc _ hb)
  have HN1 := Lib.hid (heap_alloc2_old w (Obj.cells #[.slice A n k, .int .i64 sw] 32) (Obj.cells #[.slice none 0 0, .int .i64 0] 32))
  have HN2 := Lib.hid (heap2_new w (Obj.cells #[.slice A n k, .int .i64 sw] 32) (Obj.cells #[.slice none 0 0, .int .i64 0] 32))
  clear hc hb h hE
  go_enter Tryd.func32, Tryd.ntmps32
  go_wp2_with fail
  refine HC.out.mono ?_
  rintro e w3 ⟨rfl, hb3⟩
  have HN3 := Lib.hid ((hb3.block _ (blk_lt HN2.out)).trans HN2.out)
  have HB3 := Lib.hid (BP.mk (HB.out.trans (hb3.mono HB.out.size)) (Nat.le_trans HB.out.size hb3.size))
  obtain ⟨⟨t0, t1⟩, f0, f1⟩ := cells2 HN3.out
  clear hb3
  go_wp2_with fail
  exact bodyPost_ret (results_cell2 rfl _ _ (w.heap.size + 1) 32 #[.slice none 0 0, .int .i64 0] (0, 0) _ rfl (row2st HN3.out ..) Tryd.underlying32 rfl (by kernel_rfl)) rfl ⟨rfl, (HB3.out.st2 (Nat.le_succ _) ..).b⟩
set_option maxRecDepth 100000 in
set_option maxHeartbeats 3200000 in
theorem pSeal_bad (g : Nat) (s : Ch) (r : Rs) (E : Int) (A : Option Addr) (n k : Nat) (w : World) (h : CH w g s) (hv : s.cv.length = 8) (ht : ET w) (hE : E ≠ 0)
    (hw : ∀ W, Below w.heap.size w W → Calls Tryd.prog 32 #[.pointer (some ⟨g, 0, none⟩), r.val (.slice A n k)] W fun e w' => e = .returned (.tuple #[(⟨[], 0⟩ : Rs).val (.slice none 0 0), errV E]) ∧ Below W.heap.size W w') :
    Calls Tryd.prog 14 #[.pointer (some ⟨g, 0, none⟩), r.val (.slice A n k)] w fun e w' => e = .returned (.tuple #[(⟨[], 0⟩ : Rs).val (.slice none 0 0), .int .i64 E]) ∧ Below w.heap.size w w' := by
  have hm := fun W (hW : Below w.heap.size w W) => pmade_any g s W (h.below hW)
  rw [hv, show decide (0 < 8) = true from rfl] at hm
  have hco := fun W (hW : Below w.heap.size w W) => pcode_any E W (ht.on hW)
  unfold errV at *
  obtain ⟨rd, sw⟩ := r
  simp only [Rs.val] at *
  have hb := alloc2_below w (Obj.cells #[.slice A n k, .int .i64 sw] 32) (Obj.cells #[.slice none 0 0, .int .i64 0] 32)
  have HB := Lib.hid hb
  have HM := Lib.hid (hm _ hb)
  have HW := Lib.hid (hw _ hb)
  have HN2 := Lib.hid (heap2_new w (Obj.cells #[.slice A n k, .int .i64 sw] 32) (Obj.cells #[.slice none 0 0, .int .i64 0] 32))
  have HCO := Lib.hid hco
  have hne : (E != 0) = true := by rw [bne_iff_ne]; exact hE
  clear h hv hw hm hb ht hco
  go_enter Tryd.func14, Tryd.ntmps14
  go_wp2_with (go_at_call 25; refine HM.out.mono ?_; rintro e w' ⟨rfl, rfl⟩)
  refine HW.out.mono ?_
  rintro e w4 ⟨rfl, hb4⟩
  have HB4 := Lib.hid (HB.out.trans (hb4.mono HB.out.size))
  have HN4 := Lib.hid ((hb4.block _ (blk_lt HN2.out)).trans HN2.out)
  clear hb4
  have HA := Lib.hid (alloc_below w4 (Obj.cells #[.slice none 0 0, .int .i64 0] 32))
  have HBA := Lib.hid (HB4.out.trans (HA.out.mono HB4.out.size))
  go_wp2_with fail
  refine (HCO.out _ HBA.out).mono ?_
  rintro e w5 ⟨rfl, hb5⟩
  have HP5 : Hid (BP w.heap.size w w5) := (BP.mk HBA.out HBA.out.size).on hb5
  have HN5 := Lib.hid (rowC hb5 (rowC HA.out HN4.out))
  obtain ⟨⟨t0, t1⟩, f0, f1⟩ := cells2 HN5.out
  clear hb5
  go_wp2_with fail
  exact bodyPost_ret (results_cell2 rfl _ _ (w.heap.size + 1) 32 #[.slice none 0 0, .int .i64 0] (0, 0) _ rfl (row2st HN5.out ..) Tryd.underlying32 rfl (by kernel_rfl)) rfl ⟨rfl, (HP5.out.st2 (Nat.le_succ _) ..).b⟩
/-- Seal of a side that is closed. -/
theorem pSeal_shut (g : Nat) (s : Ch) (r : Rs) (A : Option Addr) (n k : Nat) (w : World) (h : CH w g s.shut) (hv : s.cv.length = 8) (ht : ET w) :
    Calls Tryd.prog 14 #[.pointer (some ⟨g, 0, none⟩), r.val (.slice A n k)] w fun e w' => e = .returned (.tuple #[(⟨[], 0⟩ : Rs).val (.slice none 0 0), .int .i64 14]) ∧ Below w.heap.size w w' := by
  have hc : ckE s.shut r = 14 := rfl
  refine pSeal_bad g s.shut r 14 A n k w h hv ht (by decide) (fun W hW => ?_)
  have := pseal_bad g s.shut r A n k W (h.below hW) (by rw [hc]; decide)
  rw [hc] at this
  exact this
/-- Unwrap and Wrap of a side that is closed. -/
theorem pUnwrap_shut (g : Nat) (s : Ch) (x : Cm) (A : Option Addr) (k : Nat) (w : World) (h : CH w g s.shut) (hv : s.cv.length = 8) (ht : ET w) (hle : -9223372036854775808 ≤ x.le ∧ x.le ≤ 9223372036854775807) :
    Calls Tryd.prog 11 #[.pointer (some ⟨g, 0, none⟩), x.val (.slice A x.data.length k)] w fun e w' => e = .returned (.tuple #[Cm.zero.val (.slice none 0 0), .int .i64 14]) ∧ CH w' g s.shut ∧ Kb g w w' := by
  have hc : clE s.shut x = 14 := rfl
  have hu : unE s.shut x = 14 := by rw [unE_cl (by rw [hc]; decide), hc]
  refine pUnwrap_bad g s.shut x 14 A x.data.length k w h hv ht (by decide) (fun W hW => ?_)
  have := punwrap_bad g s.shut x A k W (h.below hW) hle (by rw [hu]; decide)
  rw [hu] at this
  exact this
theorem pWrap_shut (g : Nat) (s : Ch) (x : Cm) (A : Option Addr) (k : Nat) (w : World) (h : CH w g s.shut) (hv : s.cv.length = 8) (ht : ET w) (hle : -9223372036854775808 ≤ x.le ∧ x.le ≤ 9223372036854775807) :
    Calls Tryd.prog 10 #[.pointer (some ⟨g, 0, none⟩), x.val (.slice A x.data.length k)] w fun e w' => e = .returned (.tuple #[Cm.zero.val (.slice none 0 0), .int .i64 14]) ∧ Below w.heap.size w w' := by
  have hc : clE s.shut x = 14 := rfl
  have hu : wrE s.shut x = 14 := by rw [wrE_cl (by rw [hc]; decide), hc]
  refine pWrap_bad g s.shut x 14 A x.data.length k w h hv ht (by decide) (fun W hW => ?_)
  have := pwrap_bad g s.shut x A k W (h.below hW) hle (by rw [hu]; decide)
  rw [hu] at this
  exact this
--B
end Go.Proofs.YtdalcldilmmgmaaDoor
