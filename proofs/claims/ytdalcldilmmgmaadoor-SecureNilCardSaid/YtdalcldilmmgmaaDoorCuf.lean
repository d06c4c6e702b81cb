/-
  The walk of Unwrap.
-/
import Derived.Test.YtdalcldilmmgmaaDoorCue
import Derived.Test.YtdalcldilmmgmaaDoorChz
namespace Go.Proofs.YtdalcldilmmgmaaDoor
set_option linter.unusedVariables false
set_option linter.unusedSimpArgs false
open Go.RowKit

/-- What Unwrap gives where it gives a command. -/
def UWP (g : Nat) (s : Ch) (x y : Cm) (w : World) (e : Ending) (w' : World) : Prop :=
  ∃ v, e = .returned (.tuple #[y.val v, .int .i64 0]) ∧ SL w' w'.heap.size v y.data ∧ CH w' g (s.next x.data) ∧ Kb g w w'
set_option maxRecDepth 100000 in
set_option maxHeartbeats 3200000 in
theorem pUnwrap_ok (g : Nat) (s : Ch) (x y : Cm) (A : Option Addr) (k : Nat) (w : World) (h : CH w g s) (hv : s.cv.length = 8) (hcn : 0 ≤ s.cnt ∧ s.cnt ≤ 1000)
    (hw : ∀ W, Below w.heap.size w W → Calls Tryd.prog 29 #[.pointer (some ⟨g, 0, none⟩), x.val (.slice A x.data.length k)] W (WrP W y)) (hd : SL w w.heap.size (.slice A x.data.length k) x.data) (hyl : x.data.length ≤ 2000) (hy8 : hasB s.lvl 1 = true → 8 ≤ x.data.length) :
    Calls Tryd.prog 11 #[.pointer (some ⟨g, 0, none⟩), x.val (.slice A x.data.length k)] w (UWP g s x y w) := by
  have hlt := h.lt
  have hm := fun W (hW : Below w.heap.size w W) => pmade_any g s W (h.below hW)
  rw [hv, show decide (0 < 8) = true from rfl] at hm
  have hnx := fun W (hW : Below w.heap.size w W) => pnext_any g s x A k W (h.below hW) (hd.on hW) hyl hy8 hcn
  have hP : Hid (∀ e v w', e = .returned (.tuple #[y.val v, .int .i64 0]) → SL w' w'.heap.size v y.data → CH w' g (s.next x.data) → Kb g w w' → UWP g s x y w e w') := fun e v w' he h1 h2 h3 => ⟨v, he, h1, h2, h3⟩
  have HOF : Hid (∀ (W : World) v l, Below w.heap.size w W → SL W W.heap.size v l → FL g W v l) := fun W v l hW hv => (h.below hW).off hv (Nat.le_refl _)
  generalize UWP g s x y w = Q at *
  unfold WrP at hw
  generalize s.next x.data = s2 at *
  obtain ⟨cla, ins, p1, p2, data, le, long⟩ := x
  obtain ⟨cla2, ins2, p12, p22, dat2, le2, long2⟩ := y
  simp only [Cm.val] at *
  have hb := alloc2_below w (Obj.cells #[.int .i64 cla, .int .i64 ins, .int .i64 p1, .int .i64 p2, .slice A data.length k, .int .i64 le, .bool long] 30) (Obj.cells #[.int .i64 0, .int .i64 0, .int .i64 0, .int .i64 0, .slice none 0 0, .int .i64 0, .bool false] 30)
  have HB := Lib.hid hb
  have HM := Lib.hid (hm _ hb)
  have HW := Lib.hid (hw _ hb)
  have HN1 := Lib.hid (heap_alloc2_old w (Obj.cells #[.int .i64 cla, .int .i64 ins, .int .i64 p1, .int .i64 p2, .slice A data.length k, .int .i64 le, .bool long] 30) (Obj.cells #[.int .i64 0, .int .i64 0, .int .i64 0, .int .i64 0, .slice none 0 0, .int .i64 0, .bool false] 30))
  have HN2 := Lib.hid (heap2_new w (Obj.cells #[.int .i64 cla, .int .i64 ins, .int .i64 p1, .int .i64 p2, .slice A data.length k, .int .i64 le, .bool long] 30) (Obj.cells #[.int .i64 0, .int .i64 0, .int .i64 0, .int .i64 0, .slice none 0 0, .int .i64 0, .bool false] 30))
  have HZ : Hid (((w.alloc (Obj.cells #[.int .i64 cla, .int .i64 ins, .int .i64 p1, .int .i64 p2, .slice A data.length k, .int .i64 le, .bool long] 30)).alloc (Obj.cells #[.int .i64 0, .int .i64 0, .int .i64 0, .int .i64 0, .slice none 0 0, .int .i64 0, .bool false] 30)).heap.size = w.heap.size + 2) := by show _ = _; rw [alloc_size, alloc_size]
  have HNX := Lib.hid hnx
  have HLT := Lib.hid hlt
  clear h hv hcn hw hyl hy8 hm hnx hb hlt hd
  go_enter Tryd.func11, Tryd.ntmps11
  go_wp2_with (go_at_call 25; refine HM.out.mono ?_; rintro e w' ⟨rfl, rfl⟩)
  refine HW.out.mono ?_
  rintro e w4 ⟨v4, rfl, hv4, hb4⟩
  obtain ⟨A4, c4, rfl, _, _, _⟩ := id hv4
  have hz4 := hb4.size
  rw [HZ.out] at hz4
  have HB4 := Lib.hid (HB.out.trans (hb4.mono HB.out.size))
  have HV4 := Lib.hid hv4
  have HN4 := Lib.hid ((hb4.block _ (blk_lt HN2.out)).trans HN2.out)
  have HX4 := Lib.hid ((hb4.block _ (blk_lt HN1.out)).trans HN1.out)
  clear hv4 hb4
  go_wp2_with fail
  refine (pcode_nil _).mono ?_
  rintro e w5 ⟨rfl, hb5⟩
  have HA := Lib.hid (alloc_below w4 (Obj.cells #[.int .i64 cla2, .int .i64 ins2, .int .i64 p12, .int .i64 p22, .slice A4 dat2.length c4, .int .i64 le2, .bool long2] 30))
  have HB5 := Lib.hid ((HB4.out.trans (HA.out.mono HB4.out.size)).trans (hb5.mono (Nat.le_trans HB4.out.size HA.out.size)))
  have HV5 := Lib.hid ((HV4.out.on HA.out).on hb5)
  have HN5 := Lib.hid (rowC hb5 (rowC HA.out HN4.out))
  have HX5 := Lib.hid (rowC hb5 (rowC HA.out HX4.out))
  have HK5 := Lib.hid (rowC hb5 (heap_alloc_new w4 (Obj.cells #[.int .i64 cla2, .int .i64 ins2, .int .i64 p12, .int .i64 p22, .slice A4 dat2.length c4, .int .i64 le2, .bool long2] 30)))
  obtain ⟨⟨q0, q1, q2, q3, q4, q5, q6⟩, ⟨g0, g1, g2, g3, g4, g5, g6⟩⟩ := cells7 HX5.out
  clear hb5
  go_wp2_with fail
  refine (HNX.out _ HB5.out).mono ?_
  rintro e w6 ⟨⟨u6, rfl⟩, hc6, hk6⟩
  have HK6 := Lib.hid ((hk6.block _ (blk_lt HK5.out) (by have := HLT.out; omega)).trans HK5.out)
  have HN6 := Lib.hid ((hk6.block _ (blk_lt HN5.out) (by have := HLT.out; omega)).trans HN5.out)
  have HF := Lib.hid (wrap_fin (cla2 := cla2) (ins2 := ins2) (p12 := p12) (p22 := p22) (le2 := le2) (long2 := long2) HLT.out ((Kb.of_below HB5.out).trans hk6) HN6.out hc6 ((HOF.out _ _ _ HB5.out HV5.out).kb hk6).sl)
  clear q0 q1 q2 q3 q4 q5 q6 g0 g1 g2 g3 g4 g5 g6 hc6 hk6
  obtain ⟨⟨q0, q1, q2, q3, q4, q5, q6⟩, ⟨g0, g1, g2, g3, g4, g5, g6⟩⟩ := cells7 HK6.out
  obtain ⟨⟨r0, r1, r2, r3, r4, r5, r6⟩, ⟨f0, f1, f2, f3, f4, f5, f6⟩⟩ := cells7 HN6.out
  have hx1 : w.heap.size + 1 ≠ w4.heap.size := by omega
  have hx2 : w4.heap.size ≠ w.heap.size + 1 := by omega
  go_wp2_with fail
  exact bodyPost_ret (results_cell2 rfl _ _ (w.heap.size + 1) 30 _ (0, 0) _ rfl HF.out.1 Tryd.underlying30 rfl (by kernel_rfl)) rfl (hP.out _ _ _ rfl HF.out.2.1 HF.out.2.2.1 HF.out.2.2.2)
set_option maxRecDepth 100000 in
set_option maxHeartbeats 3200000 in
theorem pUnwrap_bad (g : Nat) (s : Ch) (x : Cm) (E : Int) (A : Option Addr) (n k : Nat) (w : World) (h : CH w g s) (hv : s.cv.length = 8) (ht : ET w) (hE : E ≠ 0)
    (hw : ∀ W, Below w.heap.size w W → Calls Tryd.prog 29 #[.pointer (some ⟨g, 0, none⟩), x.val (.slice A n k)] W fun e w' => e = .returned (.tuple #[Cm.zero.val (.slice none 0 0), errV E]) ∧ Below W.heap.size W w') :
    Calls Tryd.prog 11 #[.pointer (some ⟨g, 0, none⟩), x.val (.slice A n k)] w fun e w' => e = .returned (.tuple #[Cm.zero.val (.slice none 0 0), .int .i64 E]) ∧ CH w' g s.shut ∧ Kb g w w' := by
  have hm := fun W (hW : Below w.heap.size w W) => pmade_any g s W (h.below hW)
  rw [hv, show decide (0 < 8) = true from rfl] at hm
  have hcl := fun W (hW : Below w.heap.size w W) => pclose_any g s W (h.below hW)
  have HLT := Lib.hid h.lt
  have hco := fun W (hW : Below w.heap.size w W) => pcode_any E W (ht.on hW)
  unfold errV Cm.zero at *
  obtain ⟨cla, ins, p1, p2, data, le, long⟩ := x
  simp only [Cm.val] at *
  have hb := alloc2_below w (Obj.cells #[.int .i64 cla, .int .i64 ins, .int .i64 p1, .int .i64 p2, .slice A n k, .int .i64 le, .bool long] 30) (Obj.cells #[.int .i64 0, .int .i64 0, .int .i64 0, .int .i64 0, .slice none 0 0, .int .i64 0, .bool false] 30)
  have HB := Lib.hid hb
  have HM := Lib.hid (hm _ hb)
  have HW := Lib.hid (hw _ hb)
  have HN2 := Lib.hid (heap2_new w (Obj.cells #[.int .i64 cla, .int .i64 ins, .int .i64 p1, .int .i64 p2, .slice A n k, .int .i64 le, .bool long] 30) (Obj.cells #[.int .i64 0, .int .i64 0, .int .i64 0, .int .i64 0, .slice none 0 0, .int .i64 0, .bool false] 30))
  have HZ : Hid (((w.alloc (Obj.cells #[.int .i64 cla, .int .i64 ins, .int .i64 p1, .int .i64 p2, .slice A n k, .int .i64 le, .bool long] 30)).alloc (Obj.cells #[.int .i64 0, .int .i64 0, .int .i64 0, .int .i64 0, .slice none 0 0, .int .i64 0, .bool false] 30)).heap.size = w.heap.size + 2) := by show _ = _; rw [alloc_size, alloc_size]
  have HCO := Lib.hid hco
  have HCL := Lib.hid hcl
  have hne : (E != 0) = true := by rw [bne_iff_ne]; exact hE
  clear h hv hw hm hb ht hco hcl
  go_enter Tryd.func11, Tryd.ntmps11
  go_wp2_with (go_at_call 25; refine HM.out.mono ?_; rintro e w' ⟨rfl, rfl⟩)
  refine HW.out.mono ?_
  rintro e w4 ⟨rfl, hb4⟩
  have hz4 := hb4.size
  rw [HZ.out] at hz4
  have HB4 := Lib.hid (HB.out.trans (hb4.mono HB.out.size))
  have HN4 := Lib.hid ((hb4.block _ (blk_lt HN2.out)).trans HN2.out)
  clear hb4
  have HA := Lib.hid (alloc_below w4 (Obj.cells #[.int .i64 0, .int .i64 0, .int .i64 0, .int .i64 0, .slice none 0 0, .int .i64 0, .bool false] 30))
  have HBA := Lib.hid (HB4.out.trans (HA.out.mono HB4.out.size))
  go_wp2_with fail
  refine (HCO.out _ HBA.out).mono ?_
  rintro e w5 ⟨rfl, hb5⟩
  have HB5 := Lib.hid (HBA.out.trans (hb5.mono HBA.out.size))
  have HN5 := Lib.hid (rowC hb5 (rowC HA.out HN4.out))
  clear hb5
  go_wp2_with fail
  refine (HCL.out _ HB5.out).mono ?_
  rintro e w6 ⟨⟨u6, rfl⟩, hc6, hk6⟩
  have HN6 := Lib.hid ((hk6.block _ (blk_lt HN5.out) (by have := HLT.out; omega)).trans HN5.out)
  have HF := Lib.hid (wrap_fin (cla2 := 0) (ins2 := 0) (p12 := 0) (p22 := 0) (le2 := 0) (long2 := false) (A4 := none) (c4 := 0) (dat2 := []) HLT.out ((Kb.of_below HB5.out).trans hk6) HN6.out hc6 (FL.nil g w6).sl)
  obtain ⟨⟨r0, r1, r2, r3, r4, r5, r6⟩, ⟨f0, f1, f2, f3, f4, f5, f6⟩⟩ := cells7 HN6.out
  clear hc6 hk6
  go_wp2_with fail
  exact bodyPost_ret (results_cell2 rfl _ _ (w.heap.size + 1) 30 _ (0, 0) _ rfl HF.out.1 Tryd.underlying30 rfl (by kernel_rfl)) rfl ⟨rfl, HF.out.2.2.1, HF.out.2.2.2⟩
end Go.Proofs.YtdalcldilmmgmaaDoor
