/-
  link of the reference.
-/
import Derived.Test.YtjoibonbmalbdaaEqs
import Derived.Deep.RegionHeld3
namespace Go.Proofs.Ytjoibonbmalbdaa
set_option linter.unusedVariables false
set_option linter.unusedSimpArgs false
open Go.RowKit

set_option maxRecDepth 100000 in
set_option maxHeartbeats 3200000 in
theorem rlnk_any (c f : Cm) (A A2 : Option Addr) (n k n2 k2 : Nat) (len i b o cp : Nat) (w : World) (hn : n = c.data.length) (hle : -9223372036854775808 ≤ c.le ∧ c.le ≤ 9223372036854775807) (hb : b < w.heap.size) (hi : i < len) (hcp : cp ≤ 9223372036854775807) (hlen : len ≤ cp)
    (HCK : ∀ W, Below w.heap.size w W → W.cell? ⟨b, o + i * 7, none⟩ = some (.int .i64 c.cla) ∧ W.cell? ⟨b, o + i * 7 + 1, none⟩ = some (.int .i64 c.ins) ∧ W.cell? ⟨b, o + i * 7 + 2, none⟩ = some (.int .i64 c.p1) ∧ W.cell? ⟨b, o + i * 7 + 3, none⟩ = some (.int .i64 c.p2) ∧ W.cell? ⟨b, o + i * 7 + 4, none⟩ = some (.slice A n k) ∧ W.cell? ⟨b, o + i * 7 + 5, none⟩ = some (.int .i64 c.le) ∧ W.cell? ⟨b, o + i * 7 + 6, none⟩ = some (.bool c.long))
    (HC0 : ∀ W, Below w.heap.size w W → W.cell? ⟨b, o, none⟩ = some (.int .i64 f.cla) ∧ W.cell? ⟨b, o + 1, none⟩ = some (.int .i64 f.ins) ∧ W.cell? ⟨b, o + 2, none⟩ = some (.int .i64 f.p1) ∧ W.cell? ⟨b, o + 3, none⟩ = some (.int .i64 f.p2) ∧ W.cell? ⟨b, o + 4, none⟩ = some (.slice A2 n2 k2) ∧ W.cell? ⟨b, o + 5, none⟩ = some (.int .i64 f.le) ∧ W.cell? ⟨b, o + 6, none⟩ = some (.bool f.long)) :
    Calls Try.prog 57 #[.slice (some ⟨b, o, none⟩) len cp, .int .i64 (i : Int)] w fun e w' => e = .returned (.int .i64 (prtE c f (decide (i + 1 = len)))) ∧ Below w.heap.size w w' := by
  have hlast : ((i : Int) == (len : Int) - 1) = decide (i + 1 = len) := by
    by_cases h : i + 1 = len
    · rw [decide_eq_true h, beq_iff_eq]; omega
    · rw [decide_eq_false h, beq_eq_false_iff_ne]; omega
  have hwl : IntKind.i64.wrap ((len : Int) - 1) = (len : Int) - 1 := IntWalk.i64_in _ (by omega)
  have HCK := Lib.hid HCK
  have HC0 := Lib.hid HC0
  have HC := Lib.hid (fun (W : World) => rchk_any c A n k W hn hle)
  have HK := Lib.hid (fun (W : World) => rcls_any c.cla W)
  have HK2 := Lib.hid (fun (W : World) => rcls_any f.cla W)
  obtain ⟨cla, ins, p1, p2, d, le, lg⟩ := c
  obtain ⟨cla', ins', p1', p2', d', le', lg'⟩ := f
  simp only [Cm.val, Kl.val] at *
  have hi' : (i : Int) < (len : Int) := by omega
  obtain ⟨c0, c1, c2, c3, c4, c5, c6⟩ := HCK.out _ (Below.refl _ _)
  have HE : Hid (prtE ⟨cla, ins, p1, p2, d, le, lg⟩ ⟨cla', ins', p1', p2', d', le', lg'⟩ (decide (i + 1 = len)) = if chkC ⟨cla, ins, p1, p2, d, le, lg⟩ = 0 then (if clsB cla = false ∨ (clsK cla).chn = (decide (i + 1 = len)) then 4 else if hdB ⟨cla, ins, p1, p2, d, le, lg⟩ ⟨cla', ins', p1', p2', d', le', lg'⟩ = false then 4 else if (decide (i + 1 = len)) = false ∧ (d.length = 0 ∨ le ≠ 0) then 4 else 0) else chkC ⟨cla, ins, p1, p2, d, le, lg⟩) := rfl
  have HHB : Hid (hdB ⟨cla, ins, p1, p2, d, le, lg⟩ ⟨cla', ins', p1', p2', d', le', lg'⟩ = ((clsK cla).ch == (clsK cla').ch && (clsK cla).sec == (clsK cla').sec && (clsK cla).prp == (clsK cla').prp && ins == ins' && p1 == p1' && p2 == p2')) := rfl
  generalize hE0 : prtE _ _ _ = R at *
  clear hE0 hle
  have hlast2 : ((i : Int) == IntKind.i64.wrap ((len : Int) - 1)) = decide (i + 1 = len) := by rw [hwl]; exact hlast
  generalize decide (i + 1 = len) = last at *
  generalize chkC ⟨cla, ins, p1, p2, d, le, lg⟩ = E at *
  generalize hdB ⟨cla, ins, p1, p2, d, le, lg⟩ ⟨cla', ins', p1', p2', d', le', lg'⟩ = HBB at *
  generalize clsB cla = ok at *
  generalize clsB cla' = ok' at *
  generalize clsK cla = kk at *
  generalize clsK cla' = kk' at *
  obtain ⟨k0, k1, kc, k3⟩ := kk
  obtain ⟨j0, j1, jc, j3⟩ := kk'
  simp only at HK HK2 HE HHB
  have hb0 := alloc_below w (.cells #[.int .i64 cla, .int .i64 ins, .int .i64 p1, .int .i64 p2, .slice A n k, .int .i64 le, .bool lg] 24)
  have hr0 := heap_alloc_new w (.cells #[.int .i64 cla, .int .i64 ins, .int .i64 p1, .int .i64 p2, .slice A n k, .int .i64 le, .bool lg] 24)
  have hal := Lib.hid hb0
  have hrow := Lib.hid hr0
  have HN := Lib.hid hn
  have hnz : ((n : Int) == 0) = ((d.length : Int) == 0) := by rw [hn]
  clear hb0 hr0 hn
  by_cases x0 : E = 0
  case neg =>
    have hne : (E != 0) = true := by rw [bne_iff_ne]; exact x0
    have HR : Hid (R = E) := by show _ = _; rw [HE.out, if_neg x0]
    go_enter Try.func57, Try.ntmps57
    go_wp2_with fail
    refine (HC.out _).mono ?_
    rintro e w1 ⟨rfl, hb1⟩
    go_wp2_with fail
    go_ret
    exact ⟨by rw [HR.out]; rfl, hal.out.trans (hb1.mono hal.out.size)⟩
  subst x0
  have HE1 : Hid (R = if ok = false ∨ kc = last then 4 else if HBB = false then 4 else if last = false ∧ (d.length = 0 ∨ le ≠ 0) then 4 else 0) := by show _ = _; rw [HE.out, if_pos rfl]
  clear HE
  by_cases x1 : ok = false ∨ kc = last
  case pos =>
    have HR : Hid (R = 4) := by show _ = _; rw [HE1.out, if_pos x1]
    have hcc : ok = false ∨ (ok = true ∧ (kc == last) = true) := by
      cases ok
      · exact .inl rfl
      · rcases x1 with h | h
        · cases h
        · exact .inr ⟨rfl, by simp [h]⟩
    clear HE1 x1
    rcases hcc with rfl | ⟨rfl, hkl⟩
    all_goals
      go_enter Try.func57, Try.ntmps57
      go_wp2_with fail
      refine (HC.out _).mono ?_
      rintro e w1 ⟨rfl, hb1⟩
      have HB1 := Lib.hid (hal.out.trans (hb1.mono hal.out.size))
      have HR1 := Lib.hid ((hb1.block _ (lt_row hrow.out)).trans hrow.out)
      clear hb1
      obtain ⟨r0, r1, r2, r3, r4, r5, r6⟩ := box7 (w' := w1) HR1.out
      go_wp2_with fail
      refine (HK.out _).mono ?_
      rintro e w2 ⟨rfl, hb2⟩
      have HB2 := Lib.hid (HB1.out.trans (hb2.mono HB1.out.size))
      clear hb2 r0 r1 r2 r3 r4 r5 r6
      go_wp2_with fail
      go_ret
      first
        | exact ⟨by rw [HR.out]; rfl, HB2.out⟩
        | exact ⟨by rw [HR.out]; rfl, HB2.out.trans ((alloc_below _ _).mono HB2.out.size)⟩
  obtain rfl : ok = true := by
    cases ok
    · exact absurd (.inl rfl) x1
    · rfl
  have hkl : (kc == last) = false := by
    rw [beq_eq_false_iff_ne]; exact fun h => x1 (.inr h)
  have HE2 : Hid (R = if HBB = false then 4 else if last = false ∧ (d.length = 0 ∨ le ≠ 0) then 4 else 0) := by show _ = _; rw [HE1.out, if_neg x1]
  clear HE1 x1
  go_enter Try.func57, Try.ntmps57
  go_wp2_with fail
  refine (HC.out _).mono ?_
  rintro e w1 ⟨rfl, hb1⟩
  have HB1 := Lib.hid (hal.out.trans (hb1.mono hal.out.size))
  have HR1 := Lib.hid ((hb1.block _ (lt_row hrow.out)).trans hrow.out)
  clear hb1
  obtain ⟨r0, r1, r2, r3, r4, r5, r6⟩ := box7 (w' := w1) HR1.out
  go_wp2_with fail
  refine (HK.out _).mono ?_
  rintro e w2 ⟨rfl, hb2⟩
  have HB2 := Lib.hid (HB1.out.trans (hb2.mono HB1.out.size))
  have HR2 := Lib.hid ((hb2.block _ (lt_row HR1.out)).trans HR1.out)
  clear hb2 r0 r1 r2 r3 r4 r5 r6
  have hb3 := alloc_below w2 (.cells #[.int .i64 k0, .bool k1, .bool kc, .bool k3] 47)
  have HB3 := Lib.hid (HB2.out.trans (hb3.mono HB2.out.size))
  have HR3 := Lib.hid ((hb3.block _ (lt_row HR2.out)).trans HR2.out)
  have HX3 := Lib.hid (heap_alloc_new w2 (.cells #[.int .i64 k0, .bool k1, .bool kc, .bool k3] 47))
  clear hb3
  obtain ⟨r0, r1, r2, r3, r4, r5, r6⟩ := box7 (w' := w2) HR3.out
  obtain ⟨f0, f1, f2, f3, f4, f5, f6⟩ := HC0.out _ HB3.out
  go_wp2_with fail
  generalize w2.alloc (.cells #[.int .i64 k0, .bool k1, .bool kc, .bool k3] 47) = w3 at *
  refine (HK2.out _).mono ?_
  rintro e w4 ⟨rfl, hb4⟩
  have HB4 := Lib.hid (HB3.out.trans (hb4.mono HB3.out.size))
  have HR4 := Lib.hid ((hb4.block _ (lt_row HR3.out)).trans HR3.out)
  have HX4 := Lib.hid ((hb4.block _ (lt_row HX3.out)).trans HX3.out)
  clear hb4 r0 r1 r2 r3 r4 r5 r6 f0 f1 f2 f3 f4 f5 f6
  have hb5 := alloc_below w4 (.cells #[.int .i64 j0, .bool j1, .bool false, .bool j3] 47)
  have HB5 := Lib.hid (HB4.out.trans (hb5.mono HB4.out.size))
  have HR5 := Lib.hid ((hb5.block _ (lt_row HR4.out)).trans HR4.out)
  have HX5 := Lib.hid ((hb5.block _ (lt_row HX4.out)).trans HX4.out)
  have HY5 := Lib.hid (heap_alloc_new w4 (.cells #[.int .i64 j0, .bool j1, .bool false, .bool j3] 47))
  have hn45 := lt_row HX4.out
  clear hb5
  have x0 := cell_of_row _ _ 0 _ _ _ HX5.out
  have x1 := cell_of_row _ _ 1 _ _ _ HX5.out
  have x2 := cell_of_row _ _ 2 _ _ _ HX5.out
  have x3 := cell_of_row _ _ 3 _ _ _ HX5.out
  have z2 := frozen_of_row _ _ 2 _ _ HX5.out
  have y0 := cell_of_row _ _ 0 _ _ _ HY5.out
  have y1 := cell_of_row _ _ 1 _ _ _ HY5.out
  have y2 := cell_of_row _ _ 2 _ _ _ HY5.out
  have y3 := cell_of_row _ _ 3 _ _ _ HY5.out
  have v2 := frozen_of_row _ _ 2 _ _ HY5.out
  go_wp2_with fail
  clear x0 x1 x2 x3 z2 y0 y1 y2 y3 v2 HR5 HX5 HY5 HB5
  have hz : (w4.setCell ⟨w2.heap.size, 2, none⟩ (.bool false)).heap.size = w4.heap.size := by simp
  have hb0 := HB4.out.setCell (p := ⟨w2.heap.size, 2, none⟩) HB2.out.size (.bool false)
  have hxr := heap_setCell_same _ _ 2 _ _ (.bool false) HX4.out
  have hrr := (heap_setCell_other w4 ⟨w2.heap.size, 2, none⟩ w.heap.size (.bool false) (by have := lt_row HR2.out; show w.heap.size ≠ w2.heap.size; omega)).trans HR4.out
  have hy := heap_alloc_new (w4.setCell ⟨w2.heap.size, 2, none⟩ (.bool false)) (.cells #[.int .i64 j0, .bool j1, .bool false, .bool j3] 47)
  have ha := alloc_below (w4.setCell ⟨w2.heap.size, 2, none⟩ (.bool false)) (.cells #[.int .i64 j0, .bool j1, .bool false, .bool j3] 47)
  rw [hz] at hy ha
  have HB6 := Lib.hid (hb0.trans (ha.mono (by rw [← hz]; exact hb0.size)))
  have HX6 := Lib.hid ((ha.block _ (lt_row HX4.out)).trans hxr)
  have HR6 := Lib.hid ((ha.block _ (lt_row HR4.out)).trans hrr)
  have HY6 := Lib.hid hy
  clear hb0 hxr hrr hy ha
  generalize (w4.setCell ⟨w2.heap.size, 2, none⟩ (.bool false)).alloc (.cells #[.int .i64 j0, .bool j1, .bool false, .bool j3] 47) = w6 at *
  have HX6' : Hid (w6.heap[w2.heap.size]? = some (.cells #[.int .i64 k0, .bool k1, .bool false, .bool k3] 47 (0, 0))) := by
    have h := HX6.out
    show _ = _
    simpa using h
  have x0 := cell_of_row _ _ 0 _ _ _ HX6'.out
  have x1 := cell_of_row _ _ 1 _ _ _ HX6'.out
  have x2 := cell_of_row _ _ 2 _ _ _ HX6'.out
  have x3 := cell_of_row _ _ 3 _ _ _ HX6'.out
  have y0 := cell_of_row _ _ 0 _ _ _ HY6.out
  have y1 := cell_of_row _ _ 1 _ _ _ HY6.out
  have y2 := cell_of_row _ _ 2 _ _ _ HY6.out
  have y3 := cell_of_row _ _ 3 _ _ _ HY6.out
  obtain ⟨r0, r1, r2, r3, r4, r5, r6⟩ := box7 (w' := w6) HR6.out
  obtain ⟨f0, f1, f2, f3, f4, f5, f6⟩ := HC0.out _ HB6.out
  have hEG := eqG47
  have hi0 : (0 : Int) < (len : Int) := by omega
  obtain ⟨Q, hQ⟩ : ∃ Q, Q = (decide (k0 = j0) && decide (k1 = j1) && decide (false = false) && decide (k3 = j3)) := ⟨_, rfl⟩
  have hEQ : ∀ W : World, Sem.run Try.prog (binOp .neq 47 (.agg #[.int .i64 k0, .bool k1, .bool false, .bool k3]) (.agg #[.int .i64 j0, .bool j1, .bool false, .bool j3])) W = .ok (.bool (!Q)) W := fun W => by rw [neq47_run, hQ]
  have HQ2 : Hid (HBB = (Q && (ins == ins' && p1 == p1' && p2 == p2'))) := by
    show _ = _
    rw [HHB.out, hQ]
    rw [Bool.eq_iff_iff]
    simp [and_assoc]
  clear hQ HHB
  cases Q with
  | false =>
    have HR : Hid (R = 4) := by show _ = _; rw [HE2.out, HQ2.out, if_pos (by simp)]
    go_quiet (fail)
    go_wp2_with fail
    go_ret
    exact ⟨by rw [HR.out]; rfl, below_drewN HB6.out _⟩
  | true =>
  cases h1 : (ins != ins') with
  | true =>
    have HR : Hid (R = 4) := by show _ = _; rw [HE2.out, HQ2.out, if_pos (by rw [bne_iff_ne] at h1; simp [h1])]
    go_quiet (fail)
    go_wp2_with fail
    go_ret
    exact ⟨by rw [HR.out]; rfl, below_drewN HB6.out _⟩
  | false =>
  cases h2 : (p1 != p1') with
  | true =>
    have HR : Hid (R = 4) := by show _ = _; rw [HE2.out, HQ2.out, if_pos (by rw [bne_iff_ne] at h2; simp [h2])]
    go_quiet (fail)
    go_wp2_with fail
    go_ret
    exact ⟨by rw [HR.out]; rfl, below_drewN HB6.out _⟩
  | false =>
  cases h3 : (p2 != p2') with
  | true =>
    have HR : Hid (R = 4) := by show _ = _; rw [HE2.out, HQ2.out, if_pos (by rw [bne_iff_ne] at h3; simp [h3])]
    go_quiet (fail)
    go_wp2_with fail
    go_ret
    exact ⟨by rw [HR.out]; rfl, below_drewN HB6.out _⟩
  | false =>
    have HE3 : Hid (R = if last = false ∧ (d.length = 0 ∨ le ≠ 0) then 4 else 0) := by
      show _ = _
      rw [HE2.out, HQ2.out, if_neg]
      rw [bne_eq_false_iff_eq] at h1 h2 h3
      simp [h1, h2, h3]
    cases last with
    | true =>
      have HR : Hid (R = 0) := by show _ = _; rw [HE3.out, if_neg (by simp)]
      go_quiet (fail)
      go_wp2_with fail
      go_ret
      exact ⟨by rw [HR.out]; rfl, below_drewN HB6.out _⟩
    | false =>
      by_cases hd0 : d.length = 0
      · have HR : Hid (R = 4) := by show _ = _; rw [HE3.out, if_pos ⟨rfl, .inl hd0⟩]
        have hd1 : ((n : Int) == 0) = true := by rw [hnz, hd0]; rfl
        clear hnz hd0
        go_quiet (fail)
        go_wp2_with fail
        go_ret
        exact ⟨by rw [HR.out]; rfl, below_drewN HB6.out _⟩
      · have hd1 : ((n : Int) == 0) = false := by rw [hnz, beq_eq_false_iff_ne]; omega
        by_cases hl0 : le = 0
        · have HR : Hid (R = 0) := by show _ = _; rw [HE3.out, if_neg (by rintro ⟨_, h | h⟩; exact hd0 h; exact h hl0)]
          have hl1 : (le != 0) = false := by rw [hl0]; rfl
          clear hl0 hnz hd0
          go_quiet (fail)
          go_wp2_with fail
          go_ret
          exact ⟨by rw [HR.out]; rfl, below_drewN HB6.out _⟩
        · have HR : Hid (R = 4) := by show _ = _; rw [HE3.out, if_pos ⟨rfl, .inr hl0⟩]
          have hl1 : (le != 0) = true := by rw [bne_iff_ne]; exact hl0
          clear hnz hd0
          go_quiet (fail)
          go_wp2_with fail
          go_ret
          exact ⟨by rw [HR.out]; rfl, below_drewN HB6.out _⟩
end Go.Proofs.Ytjoibonbmalbdaa
