/-
  Chain of the program, for a command that need not be divided.
-/
import Derived.Test.YtjoibonbmalbdaaCha
namespace Go.Proofs.Ytjoibonbmalbdaa
set_option linter.unusedVariables false
set_option linter.unusedSimpArgs false
open Go.RowKit

theorem chn_ok {c : Cm} {n : Int} {w w' : World} {v : Value} (hE : chnE c n = 0) (hv : ML w' w'.heap.size v (chnL c n.toNat)) (hB : Below w.heap.size w w') : ChnR c n w (.returned (.tuple #[v, .int .i64 0])) w' :=
  ⟨v, by rw [hE], by rw [hE, if_pos rfl]; exact hv, hB⟩
theorem OB.setOld {w : World} {base : Nat} {v : Value} {l : List UInt8} {g i : Nat} {x : Value} (h : OB w base v l) (hg : g < base) : OB (w.setCell ⟨g, i, none⟩ x) base v l := by
  obtain ⟨h1, h2⟩ := h
  refine ⟨h1, ?_⟩
  rcases h2 with h2 | ⟨g', cap, cur, hv, hb, hh, r⟩
  · exact .inl h2
  · exact .inr ⟨g', cap, cur, hv, hb, (heap_setCell_other _ _ _ _ (by simp; omega)).trans hh, r⟩
theorem ml_one {w : World} {g : Nat} {c : Cm} {u : Value} {k : Nat} (hk : 1 ≤ k) (hk2 : k ≤ maxLen) (h : w.heap[g]? = some (.cells #[.int .i64 c.cla, .int .i64 c.ins, .int .i64 c.p1, .int .i64 c.p2, u, .int .i64 c.le, .bool c.long] 24 (0, 0))) (hu : SL w w.heap.size u c.data) : ML w w.heap.size (.slice (some ⟨g, 0, none⟩) 1 k) [c] := by
  refine ⟨_, k, rfl, hk, hk2, fun _ => ⟨g, 0, rfl, lt_row h, fun i hi => ?_⟩⟩
  have : i = 0 := by simpa using hi
  subst this
  obtain ⟨r0, r1, r2, r3, r4, r5, r6⟩ := box7 (w' := w) h
  exact ⟨r0, r1, r2, r3, ⟨u, r4, hu⟩, r5, r6⟩

set_option maxRecDepth 100000 in
set_option maxHeartbeats 3200000 in
theorem pchn_one (c : Cm) (n : Int) (u : Value) (w : World) (h : SL w w.heap.size u c.data) (hle : -9223372036854775808 ≤ c.le ∧ c.le ≤ 9223372036854775807) (hd : c.data.length ≤ 5000) (h0 : chnE c n = 0) (h1 : c.data.length ≤ n) :
    Calls Try.prog 34 #[c.val u, .int .i64 n] w (ChnR c n w) := by
  have HCL := Lib.hid (fun (W : World) (hW : Below w.heap.size w W) => clone_own c.data u W (h.on hW) (by omega))
  obtain ⟨A, k, rfl, _, _, _⟩ := h
  have HC := Lib.hid (fun (W : World) => pchk_any c A c.data.length k W rfl hle)
  have HK := Lib.hid (fun (W : World) => pcls_any c.cla W)
  obtain ⟨g0, g1, g2, g3, g4⟩ := chn_chk h0
  have HL : Hid (chnL c n.toNat = [c]) := by
    show _ = _
    have e : chnL c n.toNat = chnR c n.toNat c.data := rfl
    rw [e, chnR_last c n.toNat c.data (by omega)]
    rfl
  have H0 := Lib.hid h0
  rw [g0] at HC
  rw [g3] at HK
  obtain ⟨cla, ins, p1, p2, d, le, lg⟩ := c
  simp only [Cm.val, Kl.val] at *
  have hal := Lib.hid (alloc_below w (.cells #[.int .i64 cla, .int .i64 ins, .int .i64 p1, .int .i64 p2, .slice A d.length k, .int .i64 le, .bool lg] 24))
  have hrow := Lib.hid (heap_alloc_new w (.cells #[.int .i64 cla, .int .i64 ins, .int .i64 p1, .int .i64 p2, .slice A d.length k, .int .i64 le, .bool lg] 24))
  have i1 : ¬ n < 1 := by omega
  have i2 : ¬ 255 < n := by omega
  have i3 : (d.length : Int) ≤ n := h1
  generalize clsK cla = kk at *
  obtain ⟨k0, k1, k2, k3⟩ := kk
  simp only at g4 HK
  subst g4
  clear h0 h1 g0 g1 g2 g3 hle hd
  go_enter Try.func34, Try.ntmps34
  go_wp2_with fail
  refine (HC.out _).mono ?_
  rintro e w1 ⟨rfl, hb1⟩
  have HB1 := Lib.hid (hal.out.trans (hb1.mono hal.out.size))
  have HR1 := Lib.hid ((hb1.block _ (lt_row hrow.out)).trans hrow.out)
  clear hb1
  obtain ⟨r0, r1, r2, r3, r4, r5, r6⟩ := box7 (w' := w1) HR1.out
  go_wp2_with fail
  refine (HK.out _).mono ?_
  rintro e w2 ⟨rfl, hb2⟩
  have HB2 := Lib.hid (HB1.out.trans (hb2.mono HB1.out.size))
  have HR2 := Lib.hid ((hb2.block _ (lt_row HR1.out)).trans HR1.out)
  clear hb2 r0 r1 r2 r3 r4 r5 r6
  have hb3 := alloc_below w2 (.cells #[.int .i64 k0, .bool k1, .bool false, .bool k3] 47)
  have HB3 := Lib.hid (HB2.out.trans (hb3.mono HB2.out.size))
  have HR3 := Lib.hid ((hb3.block _ (lt_row HR2.out)).trans HR2.out)
  clear hb3
  obtain ⟨r0, r1, r2, r3, r4, r5, r6⟩ := box7 (w' := w2) HR3.out
  go_wp2_with fail
  generalize w2.alloc (.cells #[.int .i64 k0, .bool k1, .bool false, .bool k3] 47) = w3 at *
  refine (HCL.out _ HB3.out).mono ?_
  rintro e w4 ⟨v4, rfl, hv4, hb4⟩
  have HV4 := Lib.hid hv4
  obtain ⟨B4, c4, rfl⟩ := hv4.value
  have HB4 := Lib.hid (HB3.out.trans (hb4.mono HB3.out.size))
  have HR4 := Lib.hid ((hb4.block _ (lt_row HR3.out)).trans HR3.out)
  clear hb4 hv4 r0 r1 r2 r3 r4 r5 r6
  obtain ⟨r0, r1, r2, r3, r4, r5, r6⟩ := box7 (w' := w2) HR4.out
  have y4 := frozen_of_row _ _ 4 _ _ HR4.out
  go_wp2_with fail
  go_ret2
  have hz : (w4.setCell ⟨w.heap.size, 4, none⟩ (.slice B4 d.length c4)).heap.size = w4.heap.size := by simp
  have hr := heap_alloc_new (w4.setCell ⟨w.heap.size, 4, none⟩ (.slice B4 d.length c4)) (.cells #[.int .i64 cla, .int .i64 ins, .int .i64 p1, .int .i64 p2, .slice B4 d.length c4, .int .i64 le, .bool lg] 24)
  rw [hz] at hr
  have hlt := lt_row HR3.out
  have hs := ((HV4.out.setOld (g := w.heap.size) (i := 4) (x := .slice B4 d.length c4) hlt).later (alloc_below _ (.cells #[.int .i64 cla, .int .i64 ins, .int .i64 p1, .int .i64 p2, .slice B4 d.length c4, .int .i64 le, .bool lg] 24))).sl
  exact chn_ok H0.out (by rw [HL.out]; exact ml_one (c := ⟨cla, ins, p1, p2, d, le, lg⟩) (by omega) (by unfold maxLen; omega) hr hs) ((HB4.out.setCell (p := ⟨w.heap.size, 4, none⟩) (Nat.le_refl _) _).alloc (by rw [hz]; exact HB4.out.size) _)
end Go.Proofs.Ytjoibonbmalbdaa
