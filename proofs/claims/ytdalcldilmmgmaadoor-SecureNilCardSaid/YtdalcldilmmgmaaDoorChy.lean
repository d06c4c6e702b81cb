/-
  The walk of Wrap where wrap gives a command.
-/
import Derived.Test.YtdalcldilmmgmaaDoorChx
namespace Go.Proofs.YtdalcldilmmgmaaDoor
set_option linter.unusedVariables false
set_option linter.unusedSimpArgs false
open Go.RowKit

theorem Kb.far {g b : Nat} {w W : World} (h : Kb g w W) (hb : w.heap.size ≤ b) (i : Nat) (u : Value) : Kb g w (W.setCell ⟨b, i, none⟩ u) :=
  ⟨h.os, h.tape, h.output, by simp [World.setCell]; exact h.size, fun k hk h1 => (Below.heap_setCell _ _ _ _ (by show k ≠ b; omega)).trans (h.block k hk h1)⟩
/-- A side is kept where a row without bytes is written. -/
theorem CH.keepb {w w' : World} {g b : Nat} {s : Ch} {cs : Array Value} {t : TypeId} (h : CH w g s) (hr : w.heap[b]? = some (.cells cs t (0, 0))) (hcs : ∀ (j : Nat) (z : Int), cs[j]? ≠ some (.int .u8 z)) (hne : g ≠ b) (hk : Kb b w w') : CH w' g s := by
  have hl := h.lt
  obtain ⟨A0, A1, A2, A3, A5, c0, c1, c2, c3, c5, hr', h0, h1, h2, h3, h5⟩ := h
  have key : ∀ {v : Value} {l : List UInt8}, FL g w v l → FL g w' v l := fun {v l} hf => by
    have h7 := (offC hr hcs hf.sl (Nat.le_refl _)).kb hk
    obtain ⟨A, c, hv, k1, k2, k3⟩ := hf
    obtain ⟨A', c', hv', k1', k2', k3'⟩ := h7
    rw [hv] at hv'
    injection hv' with e1 e2 e3
    subst e1 e3
    refine ⟨A, c, hv, k1, k2, fun hp => ?_⟩
    obtain ⟨b, o, hA, hb, hlt, hc⟩ := k3 hp
    obtain ⟨b', o', hA', hb', hlt', hc'⟩ := k3' hp
    rw [hA] at hA'
    injection hA' with hA'
    injection hA' with e1 e2
    subst e1 e2
    exact ⟨b, o, hA, hb, hlt', hc'⟩
  exact ⟨A0, A1, A2, A3, A5, c0, c1, c2, c3, c5, (hk.block g hl hne).trans hr', key h0, key h1, key h2, key h3, key h5⟩

/-- What Wrap gives where it gives a command. -/
def WRP (g : Nat) (s : Ch) (y : Cm) (w : World) (e : Ending) (w' : World) : Prop :=
  ∃ v, e = .returned (.tuple #[y.val v, .int .i64 0]) ∧ SL w' w'.heap.size v y.data ∧ CH w' g (s.next y.data) ∧ Kb g w w'
theorem wrap_fin {g : Nat} {s2 : Ch} {w w6 : World} {A4 : Option Addr} {c4 : Nat} {cla2 ins2 p12 p22 le2 : Int} {long2 : Bool} {dat2 : List UInt8} (hg : g < w.heap.size)
    (hk : Kb g w w6) (hr : w6.heap[w.heap.size + 1]? = some (.cells #[.int .i64 0, .int .i64 0, .int .i64 0, .int .i64 0, .slice none 0 0, .int .i64 0, .bool false] 30 (0, 0))) (hc : CH w6 g s2) (hv : SL w6 w6.heap.size (.slice A4 dat2.length c4) dat2) :
    (((((((w6.setCell ⟨w.heap.size + 1, 0, none⟩ (.int .i64 cla2)).setCell ⟨w.heap.size + 1, 1, none⟩ (.int .i64 ins2)).setCell ⟨w.heap.size + 1, 2, none⟩ (.int .i64 p12)).setCell ⟨w.heap.size + 1, 3, none⟩ (.int .i64 p22)).setCell ⟨w.heap.size + 1, 4, none⟩ (.slice A4 dat2.length c4)).setCell ⟨w.heap.size + 1, 5, none⟩ (.int .i64 le2)).setCell ⟨w.heap.size + 1, 6, none⟩ (.bool long2)).heap[w.heap.size + 1]? = some (.cells #[.int .i64 cla2, .int .i64 ins2, .int .i64 p12, .int .i64 p22, .slice A4 dat2.length c4, .int .i64 le2, .bool long2] 30 (0, 0)) ∧ SL (((((((w6.setCell ⟨w.heap.size + 1, 0, none⟩ (.int .i64 cla2)).setCell ⟨w.heap.size + 1, 1, none⟩ (.int .i64 ins2)).setCell ⟨w.heap.size + 1, 2, none⟩ (.int .i64 p12)).setCell ⟨w.heap.size + 1, 3, none⟩ (.int .i64 p22)).setCell ⟨w.heap.size + 1, 4, none⟩ (.slice A4 dat2.length c4)).setCell ⟨w.heap.size + 1, 5, none⟩ (.int .i64 le2)).setCell ⟨w.heap.size + 1, 6, none⟩ (.bool long2)) (((((((w6.setCell ⟨w.heap.size + 1, 0, none⟩ (.int .i64 cla2)).setCell ⟨w.heap.size + 1, 1, none⟩ (.int .i64 ins2)).setCell ⟨w.heap.size + 1, 2, none⟩ (.int .i64 p12)).setCell ⟨w.heap.size + 1, 3, none⟩ (.int .i64 p22)).setCell ⟨w.heap.size + 1, 4, none⟩ (.slice A4 dat2.length c4)).setCell ⟨w.heap.size + 1, 5, none⟩ (.int .i64 le2)).setCell ⟨w.heap.size + 1, 6, none⟩ (.bool long2)).heap.size (.slice A4 dat2.length c4) dat2 ∧ CH (((((((w6.setCell ⟨w.heap.size + 1, 0, none⟩ (.int .i64 cla2)).setCell ⟨w.heap.size + 1, 1, none⟩ (.int .i64 ins2)).setCell ⟨w.heap.size + 1, 2, none⟩ (.int .i64 p12)).setCell ⟨w.heap.size + 1, 3, none⟩ (.int .i64 p22)).setCell ⟨w.heap.size + 1, 4, none⟩ (.slice A4 dat2.length c4)).setCell ⟨w.heap.size + 1, 5, none⟩ (.int .i64 le2)).setCell ⟨w.heap.size + 1, 6, none⟩ (.bool long2)) g s2 ∧ Kb g w (((((((w6.setCell ⟨w.heap.size + 1, 0, none⟩ (.int .i64 cla2)).setCell ⟨w.heap.size + 1, 1, none⟩ (.int .i64 ins2)).setCell ⟨w.heap.size + 1, 2, none⟩ (.int .i64 p12)).setCell ⟨w.heap.size + 1, 3, none⟩ (.int .i64 p22)).setCell ⟨w.heap.size + 1, 4, none⟩ (.slice A4 dat2.length c4)).setCell ⟨w.heap.size + 1, 5, none⟩ (.int .i64 le2)).setCell ⟨w.heap.size + 1, 6, none⟩ (.bool long2)) := by
  have hkb := kb7 (W := w6) (b := w.heap.size + 1) (.int .i64 cla2) (.int .i64 ins2) (.int .i64 p12) (.int .i64 p22) (.slice A4 dat2.length c4) (.int .i64 le2) (.bool long2)
  refine ⟨row7st hr .., ((offC hr (cm_cells _ _ _ _ _ _ _ _ _) hv (Nat.le_refl _)).kb hkb).sl, hc.keepb hr (cm_cells _ _ _ _ _ _ _ _ _) (by omega) hkb, ?_⟩
  have h0 := hk.far (Nat.le_succ _) 0 (.int .i64 cla2)
  have h1 := h0.far (Nat.le_succ _) 1 (.int .i64 ins2)
  have h2 := h1.far (Nat.le_succ _) 2 (.int .i64 p12)
  have h3 := h2.far (Nat.le_succ _) 3 (.int .i64 p22)
  have h4 := h3.far (Nat.le_succ _) 4 (.slice A4 dat2.length c4)
  have h5 := h4.far (Nat.le_succ _) 5 (.int .i64 le2)
  have h6 := h5.far (Nat.le_succ _) 6 (.bool long2)
  exact h6
set_option maxRecDepth 100000 in
set_option maxHeartbeats 3200000 in
theorem pWrap_ok (g : Nat) (s : Ch) (x y : Cm) (A : Option Addr) (n k : Nat) (w : World) (h : CH w g s) (hv : s.cv.length = 8) (hcn : 0 ≤ s.cnt ∧ s.cnt ≤ 1000)
    (hw : ∀ W, Below w.heap.size w W → Calls Tryd.prog 26 #[.pointer (some ⟨g, 0, none⟩), x.val (.slice A n k)] W (WrP W y)) (hyl : y.data.length ≤ 2000) (hy8 : hasB s.lvl 1 = true → 8 ≤ y.data.length) :
    Calls Tryd.prog 10 #[.pointer (some ⟨g, 0, none⟩), x.val (.slice A n k)] w (WRP g s y w) := by
  have hlt := h.lt
  have hm := fun W (hW : Below w.heap.size w W) => pmade_any g s W (h.below hW)
  rw [hv, show decide (0 < 8) = true from rfl] at hm
  have hnx := fun W A4 c4 (hW : Below w.heap.size w W) (hd : SL W W.heap.size (.slice A4 y.data.length c4) y.data) => pnext_any g s y A4 c4 W (h.below hW) hd hyl hy8 hcn
  have hP : Hid (∀ e v w', e = .returned (.tuple #[y.val v, .int .i64 0]) → SL w' w'.heap.size v y.data → CH w' g (s.next y.data) → Kb g w w' → WRP g s y w e w') := fun e v w' he h1 h2 h3 => ⟨v, he, h1, h2, h3⟩
  have HOF : Hid (∀ (W : World) v l, Below w.heap.size w W → SL W W.heap.size v l → FL g W v l) := fun W v l hW hv => (h.below hW).off hv (Nat.le_refl _)
  generalize WRP g s y w = Q at *
  unfold WrP at hw
  generalize s.next y.data = s2 at *
  obtain ⟨cla, ins, p1, p2, data, le, long⟩ := x
  obtain ⟨cla2, ins2, p12, p22, dat2, le2, long2⟩ := y
  simp only [Cm.val] at *
  have hb := alloc2_below w (Obj.cells #[.int .i64 cla, .int .i64 ins, .int .i64 p1, .int .i64 p2, .slice A n k, .int .i64 le, .bool long] 30) (Obj.cells #[.int .i64 0, .int .i64 0, .int .i64 0, .int .i64 0, .slice none 0 0, .int .i64 0, .bool false] 30)
  have HB := Lib.hid hb
  have HM := Lib.hid (hm _ hb)
  have HW := Lib.hid (hw _ hb)
  have HN2 := Lib.hid (heap2_new w (Obj.cells #[.int .i64 cla, .int .i64 ins, .int .i64 p1, .int .i64 p2, .slice A n k, .int .i64 le, .bool long] 30) (Obj.cells #[.int .i64 0, .int .i64 0, .int .i64 0, .int .i64 0, .slice none 0 0, .int .i64 0, .bool false] 30))
  have HZ : Hid (((w.alloc (Obj.cells #[.int .i64 cla, .int .i64 ins, .int .i64 p1, .int .i64 p2, .slice A n k, .int .i64 le, .bool long] 30)).alloc (Obj.cells #[.int .i64 0, .int .i64 0, .int .i64 0, .int .i64 0, .slice none 0 0, .int .i64 0, .bool false] 30)).heap.size = w.heap.size + 2) := by show _ = _; rw [alloc_size, alloc_size]
  have HNX := Lib.hid hnx
  have HLT := Lib.hid hlt
  clear h hv hcn hw hyl hy8 hm hnx hb hlt
  go_enter Tryd.func10, Tryd.ntmps10
  go_wp2_with (go_at_call 25; refine HM.out.mono ?_; rintro e w' ⟨rfl, rfl⟩)
  refine HW.out.mono ?_
  rintro e w4 ⟨v4, rfl, hv4, hb4⟩
  obtain ⟨A4, c4, rfl, _, _, _⟩ := id hv4
  have hz4 := hb4.size
  rw [HZ.out] at hz4
  have HB4 := Lib.hid (HB.out.trans (hb4.mono HB.out.size))
  have HV4 := Lib.hid hv4
  have HN4 := Lib.hid ((hb4.block _ (blk_lt HN2.out)).trans HN2.out)
  clear hv4 hb4
  go_wp2_with fail
  refine (pcode_nil _).mono ?_
  rintro e w5 ⟨rfl, hb5⟩
  have HA := Lib.hid (alloc_below w4 (Obj.cells #[.int .i64 cla2, .int .i64 ins2, .int .i64 p12, .int .i64 p22, .slice A4 dat2.length c4, .int .i64 le2, .bool long2] 30))
  have HB5 := Lib.hid ((HB4.out.trans (HA.out.mono HB4.out.size)).trans (hb5.mono (Nat.le_trans HB4.out.size HA.out.size)))
  have HV5 := Lib.hid ((HV4.out.on HA.out).on hb5)
  have HN5 := Lib.hid (rowC hb5 (rowC HA.out HN4.out))
  have HK5 := Lib.hid (rowC hb5 (heap_alloc_new w4 (Obj.cells #[.int .i64 cla2, .int .i64 ins2, .int .i64 p12, .int .i64 p22, .slice A4 dat2.length c4, .int .i64 le2, .bool long2] 30)))
  obtain ⟨⟨q0, q1, q2, q3, q4, q5, q6⟩, ⟨g0, g1, g2, g3, g4, g5, g6⟩⟩ := cells7 HK5.out
  clear hb5
  go_wp2_with fail
  refine (HNX.out _ _ _ HB5.out HV5.out).mono ?_
  rintro e w6 ⟨⟨u6, rfl⟩, hc6, hk6⟩
  have HK6 := Lib.hid ((hk6.block _ (blk_lt HK5.out) (by have := HLT.out; omega)).trans HK5.out)
  have HN6 := Lib.hid ((hk6.block _ (blk_lt HN5.out) (by have := HLT.out; omega)).trans HN5.out)
  have HF := Lib.hid (wrap_fin (cla2 := cla2) (ins2 := ins2) (p12 := p12) (p22 := p22) (le2 := le2) (long2 := long2) HLT.out ((Kb.of_below HB5.out).trans hk6) HN6.out hc6 ((HOF.out _ _ _ HB5.out HV5.out).kb hk6).sl)
  clear q0 q1 q2 q3 q4 q5 q6 g0 g1 g2 g3 g4 g5 g6 hc6 hk6
  obtain ⟨⟨q0, q1, q2, q3, q4, q5, q6⟩, ⟨g0, g1, g2, g3, g4, g5, g6⟩⟩ := cells7 HK6.out
  obtain ⟨⟨r0, r1, r2, r3, r4, r5, r6⟩, ⟨f0, f1, f2, f3, f4, f5, f6⟩⟩ := cells7 HN6.out
  have hx1 : w.heap.size + 1 ≠ w4.heap.size := by omega
  have hx2 : w4.heap.size ≠ w.heap.size + 1 := by omega
  go_wp2_with fail
  exact bodyPost_ret (results_cell2 rfl _ _ (w.heap.size + 1) 30 _ (0, 0) _ rfl HF.out.1 Tryd.underlying30 rfl (by kernel_rfl)) rfl (hP.out _ _ _ rfl HF.out.2.1 HF.out.2.2.1 HF.out.2.2.2)
end Go.Proofs.YtdalcldilmmgmaaDoor
