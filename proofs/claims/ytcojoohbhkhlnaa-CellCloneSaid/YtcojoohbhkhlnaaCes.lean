/-
  The walk of open.
-/
import Derived.Test.YtcojoohbhkhlnaaCer
import Derived.StillTailTactics
namespace Go.Proofs.Ytcojoohbhkhlnaa
set_option linter.unusedVariables false
set_option linter.unusedSimpArgs false
open Go.RowKit

theorem results_tct {P : Program} {fn : Func} {p u v : Tmp} {ty : TypeId} (h : fn.results = #[.tmp v, .cell p ty, .tmp u]) (tmps : Array Value) (w : World) (g : Nat) (t : TypeId) (cs : Array Value) (fr : Nat × Nat) (d : TypeDesc)
    (hp : tmps.getD p undef = .pointer (some ⟨g, 0, none⟩)) (hg : w.heap[g]? = some (.cells cs t fr))
    (hu : P.underlying ty = some d) (hd : (match d with | .struct _ | .array _ _ => true | _ => false) = true) (hi : (P.info? ty).map (·.size) = some cs.size) :
    (results fn tmps).run P w = .ok (.tuple #[tmps.getD v undef, .agg cs, tmps.getD u undef]) w := by
  have hp' : tmps[p]?.getD undef = .pointer (some ⟨g, 0, none⟩) := by simpa using hp
  simp [results, h, hp', asAddr, run_loadVar_row w g t ty cs fr d hg hu hd hi]
theorem MA.far7 {w : World} {b g lf k : Nat} {s : St} (h : MA w b g s lf) (hb : k ≠ b) (hg : k ≠ g) (x0 x1 x2 x3 x4 x5 x6 : Value) :
    MA (((((((w.setCell ⟨k, 0, none⟩ x0).setCell ⟨k, 1, none⟩ x1).setCell ⟨k, 2, none⟩ x2).setCell ⟨k, 3, none⟩ x3).setCell ⟨k, 4, none⟩ x4).setCell ⟨k, 5, none⟩ x5).setCell ⟨k, 6, none⟩ x6) b g s lf :=
  h.keep (by rw [set_blk (Ne.symm hb), set_blk (Ne.symm hb), set_blk (Ne.symm hb), set_blk (Ne.symm hb), set_blk (Ne.symm hb), set_blk (Ne.symm hb), set_blk (Ne.symm hb)])
    (by rw [set_blk (Ne.symm hg), set_blk (Ne.symm hg), set_blk (Ne.symm hg), set_blk (Ne.symm hg), set_blk (Ne.symm hg), set_blk (Ne.symm hg), set_blk (Ne.symm hg)]) (by simp)

/-- The blocks of a memory. -/
def Xm (b g : Nat) : Nat → Prop := fun k => k = b ∨ k = g
/-- What open returns where it makes a memory. -/
def OpenR (n en : Nat) (w : World) (e : Ending) (w' : World) : Prop :=
  ∃ b g v1 v2, e = .returned (.tuple #[.pointer (some ⟨b, 0, none⟩), .agg (rrow v1 v2 (st0 n en)), .bool true]) ∧ MA w' b g (st0 n en) 0 ∧ RV w' (Xm b g) (st0 n en) v1 v2 ∧ w.heap.size ≤ b ∧ w.heap.size ≤ g ∧ Below w.heap.size w w'

set_option maxRecDepth 100000 in
set_option maxHeartbeats 1600000 in
theorem open_ok (n en : Nat) (w : World) (h1 : 1 ≤ n) (h2 : n ≤ 65536) (h3 : 1 ≤ en) (h4 : en < 9223372036854775808) : Calls Try.prog 8 #[.agg #[.int .i64 (n : Int), .int .i64 (en : Int)]] w (OpenR n en w) := by
  have HB1 := Lib.hid (below_new2 w (.cells #[.int .i64 (n : Int), .int .i64 (en : Int)] 23) (.cells #[.slice none 0 0, .slice none 0 0, .int .i64 0, .int .i64 0, .int .i64 0, .bool false, .int .i64 0] 29))
  have RA := Lib.hid (heap_new1 w #[.int .i64 (n : Int), .int .i64 (en : Int)] 23 (.cells #[.slice none 0 0, .slice none 0 0, .int .i64 0, .int .i64 0, .int .i64 0, .bool false, .int .i64 0] 29))
  have RB := Lib.hid (heap_new2 w (.cells #[.int .i64 (n : Int), .int .i64 (en : Int)] 23) #[.slice none 0 0, .slice none 0 0, .int .i64 0, .int .i64 0, .int .i64 0, .bool false, .int .i64 0] 29)
  have HNW := Lib.hid (fun W => new_ok n en W h1 h2 h3 h4)
  have HFI := Lib.hid (fun (X : Nat → Prop) W hX => first_ok (X := X) n en W hX h1 h2 h3 h4)
  go_enter Try.func8, Try.ntmps8
  go_wp2_with fail
  generalize (w.alloc (.cells #[.int .i64 (n : Int), .int .i64 (en : Int)] 23)).alloc (.cells #[.slice none 0 0, .slice none 0 0, .int .i64 0, .int .i64 0, .int .i64 0, .bool false, .int .i64 0] 29) = w1 at *
  have HLT : Hid (w.heap.size + 2 ≤ w1.heap.size) := (Array.getElem?_eq_some_iff.1 RB.out).1
  refine (HNW.out w1).mono ?_
  rintro e w2 ⟨b, g, rfl, hma, hb, hg, hb2⟩
  have HMA := Lib.hid hma
  have HB2 := Lib.hid hb2
  have a0 := cell_of_row _ _ 0 _ _ _ ((hb2.block w.heap.size (by have := HLT.out; omega)).trans RA.out)
  have a1 := cell_of_row _ _ 1 _ _ _ ((hb2.block w.heap.size (by have := HLT.out; omega)).trans RA.out)
  clear hma hb2
  go_wp2_with fail
  refine (HFI.out (X2 (Xm b g) w.heap.size) w2 (fun k hk => by
      have h1 := HLT.out; have h2 := HB2.out.size
      rcases hk with (rfl | rfl) | rfl | rfl
      · exact HMA.out.ltb
      · exact HMA.out.ltg
      · omega
      · omega)).mono ?_
  rintro e w3 ⟨v1, v2, rfl, hrv, hb3⟩
  obtain ⟨g1, c1, rfl, _⟩ := hrv.ws
  obtain ⟨g2, c2, rfl, _⟩ := hrv.we
  have HRV := Lib.hid hrv
  have HMA3 := Lib.hid (HMA.out.on hb3)
  have hb13 := HB2.out.trans (hb3.mono HB2.out.size)
  have HRB := Lib.hid ((hb13.block (w.heap.size + 1) HLT.out).trans RB.out)
  have HB13 := Lib.hid (HB1.out.trans (hb13.mono HB1.out.size))
  have hlt3 : w.heap.size + 1 < w3.heap.size := by have := HLT.out; have := hb13.size; omega
  have hb34 := alloc_below w3 (.cells #[.slice (some ⟨g1, 0, none⟩) (st0 n en).ws.length c1, .slice (some ⟨g2, 0, none⟩) (st0 n en).wear.length c2, .int .i64 ((st0 n en).en : Int), .int .i64 ((st0 n en).wr : Int), .int .i64 ((st0 n en).cu : Int), .bool (st0 n en).on, .int .i64 (cutI (st0 n en))] 29)
  have rt := heap_alloc_new w3 (.cells #[.slice (some ⟨g1, 0, none⟩) (st0 n en).ws.length c1, .slice (some ⟨g2, 0, none⟩) (st0 n en).wear.length c2, .int .i64 ((st0 n en).en : Int), .int .i64 ((st0 n en).wr : Int), .int .i64 ((st0 n en).cu : Int), .bool (st0 n en).on, .int .i64 (cutI (st0 n en))] 29)
  have HMA4 := Lib.hid (HMA3.out.on hb34)
  have HRV4 := Lib.hid (HRV.out.below hb34)
  have HB14 := Lib.hid (HB13.out.trans (hb34.mono HB13.out.size))
  have rb := (hb34.block (w.heap.size + 1) hlt3).trans HRB.out
  have HRB4 := Lib.hid rb
  have HRT := Lib.hid rt
  clear hrv hb3 hb13 rb a0 a1 hb34 rt
  unfold rrow
  go_wp2_with fail
  generalize w3.alloc (.cells #[.slice (some ⟨g1, 0, none⟩) (st0 n en).ws.length c1, .slice (some ⟨g2, 0, none⟩) (st0 n en).wear.length c2, .int .i64 ((st0 n en).en : Int), .int .i64 ((st0 n en).wr : Int), .int .i64 ((st0 n en).cu : Int), .bool (st0 n en).on, .int .i64 (cutI (st0 n en))] 29) = w4 at *
  obtain ⟨T, hT⟩ : ∃ T, w3.heap.size = T := ⟨_, rfl⟩
  rw [hT] at hlt3 HRT
  simp only [hT]
  have rb := HRB4.out
  have rt := HRT.out
  have hne1 : w.heap.size + 1 ≠ T := by omega
  have hne2 : T ≠ w.heap.size + 1 := by omega
  have e0 := cell_of_row _ _ 0 _ _ _ rb
  have e1 := cell_of_row _ _ 1 _ _ _ rb
  have e2 := cell_of_row _ _ 2 _ _ _ rb
  have e3 := cell_of_row _ _ 3 _ _ _ rb
  have e4 := cell_of_row _ _ 4 _ _ _ rb
  have e5 := cell_of_row _ _ 5 _ _ _ rb
  have e6 := cell_of_row _ _ 6 _ _ _ rb
  have y0 := frozen_of_row _ _ 0 _ _ rb
  have y1 := frozen_of_row _ _ 1 _ _ rb
  have y2 := frozen_of_row _ _ 2 _ _ rb
  have y3 := frozen_of_row _ _ 3 _ _ rb
  have y4 := frozen_of_row _ _ 4 _ _ rb
  have y5 := frozen_of_row _ _ 5 _ _ rb
  have y6 := frozen_of_row _ _ 6 _ _ rb
  have t0 := cell_of_row _ _ 0 _ _ _ rt
  have t1 := cell_of_row _ _ 1 _ _ _ rt
  have t2 := cell_of_row _ _ 2 _ _ _ rt
  have t3 := cell_of_row _ _ 3 _ _ _ rt
  have t4 := cell_of_row _ _ 4 _ _ _ rt
  have t5 := cell_of_row _ _ 5 _ _ _ rt
  have t6 := cell_of_row _ _ 6 _ _ _ rt
  clear rb rt hT
  go_region_held3 (fun w' => w'.cell? ⟨T, 0, none⟩ = some (.slice (some ⟨g1, 0, none⟩) (st0 n en).ws.length c1) ∧ w'.cell? ⟨T, 1, none⟩ = some (.slice (some ⟨g2, 0, none⟩) (st0 n en).wear.length c2) ∧ w'.cell? ⟨T, 2, none⟩ = some (.int .i64 ((st0 n en).en : Int)) ∧ w'.cell? ⟨T, 3, none⟩ = some (.int .i64 ((st0 n en).wr : Int)) ∧ w'.cell? ⟨T, 4, none⟩ = some (.int .i64 ((st0 n en).cu : Int)) ∧ w'.cell? ⟨T, 5, none⟩ = some (.bool (st0 n en).on) ∧ w'.cell? ⟨T, 6, none⟩ = some (.int .i64 (cutI (st0 n en))))
    (first | (go_keep; done) | exact ⟨t0, t1, t2, t3, t4, t5, t6⟩)
    (fail)
  go_wp2
  have hbA : w.heap.size + 1 ≠ b := by have := HLT.out; omega
  have hgA : w.heap.size + 1 ≠ g := by have := HLT.out; omega
  have hM := (HMA4.out.far7 hbA hgA (.slice (some ⟨g1, 0, none⟩) (st0 n en).ws.length c1) (.slice (some ⟨g2, 0, none⟩) (st0 n en).wear.length c2) (.int .i64 ((st0 n en).en : Int)) (.int .i64 ((st0 n en).wr : Int)) (.int .i64 ((st0 n en).cu : Int)) (.bool (st0 n en).on) (.int .i64 (cutI (st0 n en)))).drewN 1
  have hW := (((HRV4.out.ws.set7 X2.b (.slice (some ⟨g1, 0, none⟩) (st0 n en).ws.length c1) (.slice (some ⟨g2, 0, none⟩) (st0 n en).wear.length c2) (.int .i64 ((st0 n en).en : Int)) (.int .i64 ((st0 n en).wr : Int)) (.int .i64 ((st0 n en).cu : Int)) (.bool (st0 n en).on) (.int .i64 (cutI (st0 n en)))).drop).below (Below.refl _ _).drew)
  have hI := (((HRV4.out.we.set7 X2.b (.slice (some ⟨g1, 0, none⟩) (st0 n en).ws.length c1) (.slice (some ⟨g2, 0, none⟩) (st0 n en).wear.length c2) (.int .i64 ((st0 n en).en : Int)) (.int .i64 ((st0 n en).wr : Int)) (.int .i64 ((st0 n en).cu : Int)) (.bool (st0 n en).on) (.int .i64 (cutI (st0 n en)))).drop).below (Below.refl _ _).drew)
  have hB := (below_set7 HB14.out (show w.heap.size ≤ w.heap.size + 1 by omega) (.slice (some ⟨g1, 0, none⟩) (st0 n en).ws.length c1) (.slice (some ⟨g2, 0, none⟩) (st0 n en).wear.length c2) (.int .i64 ((st0 n en).en : Int)) (.int .i64 ((st0 n en).wr : Int)) (.int .i64 ((st0 n en).cu : Int)) (.bool (st0 n en).on) (.int .i64 (cutI (st0 n en)))).drew
  have hR := row7_set w4 (w.heap.size + 1) 29 _ _ _ _ _ _ _ (.slice (some ⟨g1, 0, none⟩) (st0 n en).ws.length c1) (.slice (some ⟨g2, 0, none⟩) (st0 n en).wear.length c2) (.int .i64 ((st0 n en).en : Int)) (.int .i64 ((st0 n en).wr : Int)) (.int .i64 ((st0 n en).cu : Int)) (.bool (st0 n en).on) (.int .i64 (cutI (st0 n en))) HRB4.out
  have hb5 : w.heap.size ≤ b := by have := HLT.out; omega
  have hg5 : w.heap.size ≤ g := by have := HLT.out; omega
  clear HMA4 HRV4 HB14 HRB4 HNW HFI HMA HB2 HMA3 HRV HB13 HRB HB1 RA RB
  generalize ((((((w4.setCell ⟨w.heap.size + 1, 0, none⟩ (.slice (some ⟨g1, 0, none⟩) (st0 n en).ws.length c1)).setCell ⟨w.heap.size + 1, 1, none⟩ (.slice (some ⟨g2, 0, none⟩) (st0 n en).wear.length c2)).setCell ⟨w.heap.size + 1, 2, none⟩ (.int .i64 ((st0 n en).en : Int))).setCell ⟨w.heap.size + 1, 3, none⟩ (.int .i64 ((st0 n en).wr : Int))).setCell ⟨w.heap.size + 1, 4, none⟩ (.int .i64 ((st0 n en).cu : Int))).setCell ⟨w.heap.size + 1, 5, none⟩ (.bool (st0 n en).on)).setCell ⟨w.heap.size + 1, 6, none⟩ (.int .i64 (cutI (st0 n en))) = w5 at *
  refine bodyPost_ret (results_tct rfl _ _ (w.heap.size + 1) 29 _ (0, 0) _ rfl hR Try.underlying29 rfl (by kernel_rfl)) rfl ?_
  refine ⟨b, g, .slice (some ⟨g1, 0, none⟩) (st0 n en).ws.length c1, .slice (some ⟨g2, 0, none⟩) (st0 n en).wear.length c2, ?_, hM, ⟨hW, hI⟩, hb5, hg5, hB⟩
  unfold rrow
  rfl
end Go.Proofs.Ytcojoohbhkhlnaa
