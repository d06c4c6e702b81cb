/-
  headOf and checkPart of the program.
-/
import Derived.Test.YtjoibonbmalbdaaCha
namespace Go.Proofs.Ytjoibonbmalbdaa
set_option linter.unusedVariables false
set_option linter.unusedSimpArgs false
open Go.RowKit

theorem results_cell1 {P : Program} {fn : Func} {p : Tmp} {ty : TypeId} (h : fn.results = #[.cell p ty]) (tmps : Array Value) (w : World) (g : Nat) (t : TypeId) (cs : Array Value) (fr : Nat × Nat) (d : TypeDesc)
    (hp : tmps.getD p undef = .pointer (some ⟨g, 0, none⟩)) (hg : w.heap[g]? = some (.cells cs t fr)) (hu : P.underlying ty = some d)
    (hd : (match d with | .struct _ | .array _ _ => true | _ => false) = true) (hi : (P.info? ty).map (·.size) = some cs.size) :
    (results fn tmps).run P w = .ok (.agg cs) w := by
  have hp' : tmps[p]?.getD undef = .pointer (some ⟨g, 0, none⟩) := by rw [← hp]; simp [Array.getD_eq_getD_getElem?]
  simp [results, h, hp', asAddr, run_loadVar_row w g t ty cs fr d hg hu hd hi]
theorem set7_below {w W : World} {g : Nat} {x0 x1 x2 x3 x4 x5 x6 : Value} (hb : Below w.heap.size w W) (hg : w.heap.size ≤ g) :
    Below w.heap.size w (((((((W.setCell ⟨g, 0, none⟩ x0).setCell ⟨g, 1, none⟩ x1).setCell ⟨g, 2, none⟩ x2).setCell ⟨g, 3, none⟩ x3).setCell ⟨g, 4, none⟩ x4).setCell ⟨g, 5, none⟩ x5).setCell ⟨g, 6, none⟩ x6) :=
  ((((((hb.setCell (p := ⟨g, 0, none⟩) hg _).setCell (p := ⟨g, 1, none⟩) hg _).setCell (p := ⟨g, 2, none⟩) hg _).setCell (p := ⟨g, 3, none⟩) hg _).setCell (p := ⟨g, 4, none⟩) hg _).setCell (p := ⟨g, 5, none⟩) hg _).setCell (p := ⟨g, 6, none⟩) hg _
def hdV (c : Cm) : Value := .agg #[.int .i64 (clsK c.cla).ch, .bool (clsK c.cla).sec, .bool false, .bool (clsK c.cla).prp, .int .i64 c.ins, .int .i64 c.p1, .int .i64 c.p2]
set_option maxRecDepth 100000 in
set_option maxHeartbeats 1600000 in
theorem phead_any (c : Cm) (A : Option Addr) (n k : Nat) (w : World) :
    Calls Try.prog 62 #[c.val (.slice A n k)] w fun e w' => e = .returned (hdV c) ∧ Below w.heap.size w w' := by
  have HK := Lib.hid (fun (W : World) => pcls_any c.cla W)
  have hb0 := alloc_below w (.cells #[.int .i64 c.cla, .int .i64 c.ins, .int .i64 c.p1, .int .i64 c.p2, .slice A n k, .int .i64 c.le, .bool c.long] 24)
  have hr0 := heap_alloc_new w (.cells #[.int .i64 c.cla, .int .i64 c.ins, .int .i64 c.p1, .int .i64 c.p2, .slice A n k, .int .i64 c.le, .bool c.long] 24)
  have hb1 := alloc_below (w.alloc (.cells #[.int .i64 c.cla, .int .i64 c.ins, .int .i64 c.p1, .int .i64 c.p2, .slice A n k, .int .i64 c.le, .bool c.long] 24)) (.cells #[.int .i64 0, .bool false, .bool false, .bool false, .int .i64 0, .int .i64 0, .int .i64 0] 83)
  have hr1 := heap_alloc_new (w.alloc (.cells #[.int .i64 c.cla, .int .i64 c.ins, .int .i64 c.p1, .int .i64 c.p2, .slice A n k, .int .i64 c.le, .bool c.long] 24)) (.cells #[.int .i64 0, .bool false, .bool false, .bool false, .int .i64 0, .int .i64 0, .int .i64 0] 83)
  rw [alloc_size] at hr1
  have hal := Lib.hid (hb0.trans (hb1.mono hb0.size))
  have hrow := Lib.hid ((hb1.block _ (lt_row hr0)).trans hr0)
  have hrow2 := Lib.hid hr1
  clear hb0 hb1 hr0 hr1
  have HV : Hid (hdV c = .agg #[.int .i64 (clsK c.cla).ch, .bool (clsK c.cla).sec, .bool false, .bool (clsK c.cla).prp, .int .i64 c.ins, .int .i64 c.p1, .int .i64 c.p2]) := rfl
  obtain ⟨cla, ins, p1, p2, d, le, lg⟩ := c
  simp only [Cm.val, Kl.val] at *
  generalize clsB cla = ok at *
  generalize clsK cla = kk at *
  obtain ⟨k0, k1, k2, k3⟩ := kk
  simp only at HK HV
  go_enter Try.func62, Try.ntmps62
  go_wp2_with fail
  refine (HK.out _).mono ?_
  rintro e w1 ⟨rfl, hb1⟩
  have HB1 := Lib.hid (hal.out.trans (hb1.mono hal.out.size))
  have HR1 := Lib.hid ((hb1.block _ (lt_row hrow.out)).trans hrow.out)
  have HR2 := Lib.hid ((hb1.block _ (lt_row hrow2.out)).trans hrow2.out)
  clear hb1
  have hb3 := alloc_below w1 (.cells #[.int .i64 k0, .bool k1, .bool false, .bool k3] 47)
  have HB3 := Lib.hid (HB1.out.trans (hb3.mono HB1.out.size))
  have HR3 := Lib.hid ((hb3.block _ (lt_row HR1.out)).trans HR1.out)
  have HR4 := Lib.hid ((hb3.block _ (lt_row HR2.out)).trans HR2.out)
  clear hb3
  obtain ⟨r0, r1, r2, r3, r4, r5, r6⟩ := box7 (w' := w1) HR3.out
  have z0 := cell_of_row _ _ 0 _ _ _ HR4.out
  have z1 := cell_of_row _ _ 1 _ _ _ HR4.out
  have z2 := cell_of_row _ _ 2 _ _ _ HR4.out
  have z3 := cell_of_row _ _ 3 _ _ _ HR4.out
  have z4 := cell_of_row _ _ 4 _ _ _ HR4.out
  have z5 := cell_of_row _ _ 5 _ _ _ HR4.out
  have z6 := cell_of_row _ _ 6 _ _ _ HR4.out
  have y0 := frozen_of_row _ _ 0 _ _ HR4.out
  have y1 := frozen_of_row _ _ 1 _ _ HR4.out
  have y2 := frozen_of_row _ _ 2 _ _ HR4.out
  have y3 := frozen_of_row _ _ 3 _ _ HR4.out
  have y4 := frozen_of_row _ _ 4 _ _ HR4.out
  have y5 := frozen_of_row _ _ 5 _ _ HR4.out
  have y6 := frozen_of_row _ _ 6 _ _ HR4.out
  go_wp2_with fail
  exact bodyPost_ret (results_cell1 rfl _ _ (w.heap.size + 1) 83 #[.int .i64 k0, .bool k1, .bool false, .bool k3, .int .i64 ins, .int .i64 p1, .int .i64 p2] (0, 0) _ rfl (row7_set _ _ _ _ _ _ _ _ _ _ _ _ _ _ _ _ _ HR4.out) Try.underlying83 rfl (by kernel_rfl)) rfl ⟨by rw [HV.out], set7_below HB3.out (by omega)⟩
end Go.Proofs.Ytjoibonbmalbdaa
