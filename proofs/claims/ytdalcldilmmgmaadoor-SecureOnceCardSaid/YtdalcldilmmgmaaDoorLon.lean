/-
  The law of commands that are accepted once.
-/
import Derived.Test.YtdalcldilmmgmaaDoorCvi
namespace Go.Proofs.YtdalcldilmmgmaaDoor
set_option linter.unusedVariables false
set_option linter.unusedSimpArgs false
open Go.RowKit

/-- Three boxed arguments. -/
structure Rt (w W : World) (X Y Z : Obj) : Prop where
  r1 : W.heap[w.heap.size]? = some X
  r2 : W.heap[w.heap.size + 1]? = some Y
  r3 : W.heap[w.heap.size + 2]? = some Z
  b : Below w.heap.size w W
theorem Rt.on {w W W2 : World} {X Y Z : Obj} (h : Rt w W X Y Z) (hb : Below W.heap.size W W2) : Rt w W2 X Y Z :=
  ⟨(hb.block _ (blk_lt h.r1)).trans h.r1, (hb.block _ (blk_lt h.r2)).trans h.r2, (hb.block _ (blk_lt h.r3)).trans h.r3, h.b.trans (hb.mono h.b.size)⟩
theorem Rt.kb {w W W2 : World} {X Y Z : Obj} {g : Nat} (h : Rt w W X Y Z) (hk : Kb g W W2) (hg : w.heap.size + 2 < g) : Rt w W2 X Y Z :=
  ⟨(hk.block _ (blk_lt h.r1) (by omega)).trans h.r1, (hk.block _ (blk_lt h.r2) (by omega)).trans h.r2, (hk.block _ (blk_lt h.r3) (by omega)).trans h.r3, h.b.trans (hk.below (by omega) h.b.size)⟩
theorem Rt.al {w W : World} {X Y Z : Obj} (h : Rt w W X Y Z) (o : Obj) : Rt w (W.alloc o) X Y Z := h.on (alloc_below W o)
theorem Rt.lt {w W : World} {X Y Z : Obj} (h : Rt w W X Y Z) : w.heap.size + 2 < W.heap.size := blk_lt h.r3
theorem Rt.start (w : World) (X Y Z : Obj) : True := trivial

set_option maxRecDepth 100000 in
set_option maxHeartbeats 6400000 in
theorem law_once1 (s : Ss) (m : List UInt8) (a b : Cm) (v0 v1 v2 v3 vm : Value) (Aa Ab : Option Addr) (ka kb : Nat) (w : World) (h0 : SL w w.heap.size v0 s.enc) (h1 : SL w w.heap.size v1 s.mac) (h2 : SL w w.heap.size v2 s.rmac) (h3 : SL w w.heap.size v3 s.dat) (hm : SL w w.heap.size vm m) (ha : SL w w.heap.size (.slice Aa a.data.length ka) a.data) (hb : SL w w.heap.size (.slice Ab b.data.length kb) b.data)
    (ht : ET w) (hla : -9223372036854775808 ≤ a.le ∧ a.le ≤ 9223372036854775807) (hlb : -9223372036854775808 ≤ b.le ∧ b.le ≤ 9223372036854775807) :
    Calls Tryd.prog 4 #[s.val v0 v1 v2 v3, vm, a.val (.slice Aa a.data.length ka), b.val (.slice Ab b.data.length kb)] w fun e w' => e = .returned (.bool true) ∧ Below w.heap.size w w' := by
  obtain ⟨A0, c0, rfl, _, _, _⟩ := id h0
  obtain ⟨A1, c1, rfl, _, _, _⟩ := id h1
  obtain ⟨A2, c2, rfl, _, _, _⟩ := id h2
  obtain ⟨A3, c3, rfl, _, _, _⟩ := id h3
  obtain ⟨Am, cm, rfl, hml, _, _⟩ := id hm
  have HPR := Lib.hid fun W (hW : Below w.heap.size w W) => pair_any s m _ _ _ _ _ W (h0.on hW) (h1.on hW) (h2.on hW) (h3.on hW) (hm.on hW)
  have HNW := Lib.hid fun W W2 (hW : Below w.heap.size w W) (hb : Below W.heap.size W W2) hok => new_ok s m (.slice A0 s.enc.length c0) (.slice A1 s.mac.length c1) (.slice A2 s.rmac.length c2) (.slice A3 s.dat.length c3) (.slice Am m.length cm) W W2 hb (h0.on hW) (h1.on hW) (h2.on hW) (h3.on hW) (hm.on hW) hok
  have HXA := Lib.hid ha
  have HXB := Lib.hid hb
  have HXM := Lib.hid hm
  have HET := Lib.hid ht
  have HLA := Lib.hid hla
  have HLB := Lib.hid hlb
  unfold Ss.val at *
  simp only [Cm.val]
  have HRW : Hid (Rt w (((w.alloc (Obj.cells #[.slice A0 s.enc.length c0, .slice A1 s.mac.length c1, .slice A2 s.rmac.length c2, .slice A3 s.dat.length c3, .int .i64 s.lvl] 24)).alloc (Obj.cells #[.int .i64 a.cla, .int .i64 a.ins, .int .i64 a.p1, .int .i64 a.p2, .slice Aa a.data.length ka, .int .i64 a.le, .bool a.long] 30)).alloc (Obj.cells #[.int .i64 b.cla, .int .i64 b.ins, .int .i64 b.p1, .int .i64 b.p2, .slice Ab b.data.length kb, .int .i64 b.le, .bool b.long] 30)) (Obj.cells #[.slice A0 s.enc.length c0, .slice A1 s.mac.length c1, .slice A2 s.rmac.length c2, .slice A3 s.dat.length c3, .int .i64 s.lvl] 24) (Obj.cells #[.int .i64 a.cla, .int .i64 a.ins, .int .i64 a.p1, .int .i64 a.p2, .slice Aa a.data.length ka, .int .i64 a.le, .bool a.long] 30) (Obj.cells #[.int .i64 b.cla, .int .i64 b.ins, .int .i64 b.p1, .int .i64 b.p2, .slice Ab b.data.length kb, .int .i64 b.le, .bool b.long] 30)) := by
    have e1 := alloc_size w (Obj.cells #[.slice A0 s.enc.length c0, .slice A1 s.mac.length c1, .slice A2 s.rmac.length c2, .slice A3 s.dat.length c3, .int .i64 s.lvl] 24)
    have e2 := alloc_size (w.alloc (Obj.cells #[.slice A0 s.enc.length c0, .slice A1 s.mac.length c1, .slice A2 s.rmac.length c2, .slice A3 s.dat.length c3, .int .i64 s.lvl] 24)) (Obj.cells #[.int .i64 a.cla, .int .i64 a.ins, .int .i64 a.p1, .int .i64 a.p2, .slice Aa a.data.length ka, .int .i64 a.le, .bool a.long] 30)
    have x1 := heap_alloc2_old w (Obj.cells #[.slice A0 s.enc.length c0, .slice A1 s.mac.length c1, .slice A2 s.rmac.length c2, .slice A3 s.dat.length c3, .int .i64 s.lvl] 24) (Obj.cells #[.int .i64 a.cla, .int .i64 a.ins, .int .i64 a.p1, .int .i64 a.p2, .slice Aa a.data.length ka, .int .i64 a.le, .bool a.long] 30)
    have x2 := heap2_new w (Obj.cells #[.slice A0 s.enc.length c0, .slice A1 s.mac.length c1, .slice A2 s.rmac.length c2, .slice A3 s.dat.length c3, .int .i64 s.lvl] 24) (Obj.cells #[.int .i64 a.cla, .int .i64 a.ins, .int .i64 a.p1, .int .i64 a.p2, .slice Aa a.data.length ka, .int .i64 a.le, .bool a.long] 30)
    have y := alloc_below ((w.alloc (Obj.cells #[.slice A0 s.enc.length c0, .slice A1 s.mac.length c1, .slice A2 s.rmac.length c2, .slice A3 s.dat.length c3, .int .i64 s.lvl] 24)).alloc (Obj.cells #[.int .i64 a.cla, .int .i64 a.ins, .int .i64 a.p1, .int .i64 a.p2, .slice Aa a.data.length ka, .int .i64 a.le, .bool a.long] 30)) (Obj.cells #[.int .i64 b.cla, .int .i64 b.ins, .int .i64 b.p1, .int .i64 b.p2, .slice Ab b.data.length kb, .int .i64 b.le, .bool b.long] 30)
    have x3 := heap_alloc_new ((w.alloc (Obj.cells #[.slice A0 s.enc.length c0, .slice A1 s.mac.length c1, .slice A2 s.rmac.length c2, .slice A3 s.dat.length c3, .int .i64 s.lvl] 24)).alloc (Obj.cells #[.int .i64 a.cla, .int .i64 a.ins, .int .i64 a.p1, .int .i64 a.p2, .slice Aa a.data.length ka, .int .i64 a.le, .bool a.long] 30)) (Obj.cells #[.int .i64 b.cla, .int .i64 b.ins, .int .i64 b.p1, .int .i64 b.p2, .slice Ab b.data.length kb, .int .i64 b.le, .bool b.long] 30)
    rw [e2, e1] at x3
    exact ⟨(y.block _ (blk_lt x1)).trans x1, (y.block _ (blk_lt x2)).trans x2, x3, (alloc2_below w (Obj.cells #[.slice A0 s.enc.length c0, .slice A1 s.mac.length c1, .slice A2 s.rmac.length c2, .slice A3 s.dat.length c3, .int .i64 s.lvl] 24) (Obj.cells #[.int .i64 a.cla, .int .i64 a.ins, .int .i64 a.p1, .int .i64 a.p2, .slice Aa a.data.length ka, .int .i64 a.le, .bool a.long] 30)).trans (y.mono (alloc2_below w (Obj.cells #[.slice A0 s.enc.length c0, .slice A1 s.mac.length c1, .slice A2 s.rmac.length c2, .slice A3 s.dat.length c3, .int .i64 s.lvl] 24) (Obj.cells #[.int .i64 a.cla, .int .i64 a.ins, .int .i64 a.p1, .int .i64 a.p2, .slice Aa a.data.length ka, .int .i64 a.le, .bool a.long] 30)).size)⟩
  clear h0 h1 h2 h3 hm ha hb ht hla hlb
  by_cases hl6 : 600 < a.data.length
  · have hi : (600 : Int) < (a.data.length : Int) := by omega
    go_enter Tryd.func4, Tryd.ntmps4
    go_wp2_with fail
    go_ret
    exact ⟨rfl, HRW.out.b⟩
  have hi : ¬ (600 : Int) < (a.data.length : Int) := by omega
  by_cases hl7 : 600 < b.data.length
  · have hi2 : (600 : Int) < (b.data.length : Int) := by omega
    go_enter Tryd.func4, Tryd.ntmps4
    go_wp2_with fail
    go_ret
    exact ⟨rfl, HRW.out.b⟩
  have hi2 : ¬ (600 : Int) < (b.data.length : Int) := by omega
  by_cases hm1 : 100 < m.length
  · have hj : (100 : Int) < (m.length : Int) := by omega
    go_enter Tryd.func4, Tryd.ntmps4
    go_wp2_with fail
    go_ret
    exact ⟨rfl, HRW.out.b⟩
  have hj : ¬ (100 : Int) < (m.length : Int) := by omega
  go_enter Tryd.func4, Tryd.ntmps4
  go_wp2_with fail
  refine (HPR.out _ HRW.out.b).mono ?_
  rintro e w3 ⟨hb3, ⟨_, rfl⟩ | ⟨hpa, g1, g2, hg1, hg2, hne, rfl, hc1, hc2⟩⟩
  · have HRW3 := Lib.hid (HRW.out.on hb3)
    clear hb3
    go_wp2_with fail
    go_ret
    exact ⟨rfl, HRW3.out.b⟩
  have HRW3 := Lib.hid (HRW.out.on hb3)
  have HC1 := Lib.hid hc1
  have HC2 := Lib.hid hc2
  have HG1 : Hid (w.heap.size + 2 < g1) := Nat.lt_of_lt_of_le HRW.out.lt hg1
  have HG2 : Hid (w.heap.size + 2 < g2) := Nat.lt_of_lt_of_le HRW.out.lt hg2
  have HNE := Lib.hid hne
  have HOK := Lib.hid (pa_ok hpa)
  have HSO : Hid ((s.ok && decide (m.length = 8)) = true) := by
    have := hpa
    unfold paB at this
    simp only [Bool.and_eq_true] at this ⊢
    exact this.1
  obtain ⟨⟨q0, q1, q2, q3, q4, q5, q6⟩, ⟨f0, f1, f2, f3, f4, f5, f6⟩⟩ := cells7 HRW3.out.r2
  clear hb3 hc1 hc2 hg1 hg2 hne hpa HPR
  have hw := pWrap_gen g1 (Ch.new s m) a Aa ka 0 w3 HC1.out (ET.on HET.out HRW3.out.b) HOK.out.1 (by omega) HOK.out.2 HLA.out (HXA.out.on HRW3.out.b) (by omega)
  have HW := Lib.hid hw
  clear hw
  go_wp2_with fail
  refine HW.out.mono ?_
  rintro e w4 ⟨v4, he, hv4, hc4, hk4⟩
  obtain ⟨A4, c4, rfl, _, _, _⟩ := id hv4
  simp only [Cm.val] at he
  subst he
  have HRW4 := Lib.hid (HRW3.out.kb hk4 HG1.out)
  have HV4 := Lib.hid hv4
  have HC4 := Lib.hid hc4
  have HC24 := Lib.hid (HC1.out.other HC2.out HNE.out hk4)
  have HET4 := Lib.hid (ET.on HET.out HRW4.out.b)
  clear hv4 hc4 hk4 HW HC1 HC2 HRW3
  clear q0 q1 q2 q3 q4 q5 q6 f0 f1 f2 f3 f4 f5 f6
  obtain ⟨⟨q0, q1, q2, q3, q4, q5, q6⟩, ⟨f0, f1, f2, f3, f4, f5, f6⟩⟩ := cells7 HRW4.out.r3
  have hz4 := HRW4.out.lt
  have hx1 : w.heap.size + 2 ≠ w4.heap.size := by omega
  have hx2 : w4.heap.size ≠ w.heap.size + 2 := by omega
  have hx3 : w.heap.size < w4.heap.size := by omega
  go_wp2_with fail
  obtain ⟨X, hX⟩ : ∃ X, X = wgY (Ch.new s m) a 0 := ⟨_, rfl⟩
  rw [← hX] at HV4 ⊢
  have HX := Lib.hid hX
  clear hX
  have hb5 := alloc_below w4 (Obj.cells #[.int .i64 X.cla, .int .i64 X.ins, .int .i64 X.p1, .int .i64 X.p2, .slice A4 X.data.length c4, .int .i64 X.le, .bool X.long] 30)
  have hn5 := heap_alloc_new w4 (Obj.cells #[.int .i64 X.cla, .int .i64 X.ins, .int .i64 X.p1, .int .i64 X.p2, .slice A4 X.data.length c4, .int .i64 X.le, .bool X.long] 30)
  have hn1 : wgN (Ch.new s m) a 0 ≤ 1000 := by unfold wgN; split <;> omega
  have hw := pWrap_gen g1 (wgS (Ch.new s m) a 0) b Ab kb (wgN (Ch.new s m) a 0) _ (HC4.out.below hb5) (HET4.out.on hb5) (wgS_ok HOK.out.1 a) hn1 (by rw [wgS_lvl]; exact HOK.out.2) HLB.out (HXB.out.on (HRW4.out.al (Obj.cells #[.int .i64 X.cla, .int .i64 X.ins, .int .i64 X.p1, .int .i64 X.p2, .slice A4 X.data.length c4, .int .i64 X.le, .bool X.long] 30)).b) (by omega)
  have HW := Lib.hid hw
  have HRW5 := Lib.hid (HRW4.out.al (Obj.cells #[.int .i64 X.cla, .int .i64 X.ins, .int .i64 X.p1, .int .i64 X.p2, .slice A4 X.data.length c4, .int .i64 X.le, .bool X.long] 30))
  have HN5 := Lib.hid hn5
  have HV5 := Lib.hid (HV4.out.on hb5)
  have HC5 := Lib.hid (HC4.out.below hb5)
  have HC25 := Lib.hid (HC24.out.below hb5)
  have HLX : Hid (g2 < w4.heap.size ∧ g1 < w4.heap.size) := ⟨HC24.out.lt, HC4.out.lt⟩
  generalize w4.alloc (Obj.cells #[.int .i64 X.cla, .int .i64 X.ins, .int .i64 X.p1, .int .i64 X.p2, .slice A4 X.data.length c4, .int .i64 X.le, .bool X.long] 30) = w5 at *
  clear hw hb5 hn5 hn1 HV4 HC4 HC24 HRW4
  clear q0 q1 q2 q3 q4 q5 q6 f0 f1 f2 f3 f4 f5 f6
  refine HW.out.mono ?_
  rintro e w6 ⟨v6, he, hv6, hc6, hk6⟩
  obtain ⟨Y, hY⟩ : ∃ Y, Y = wgY (wgS (Ch.new s m) a 0) b (wgN (Ch.new s m) a 0) := ⟨_, rfl⟩
  rw [← hY] at he hv6
  obtain ⟨A6, c6, rfl, _, _, _⟩ := id hv6
  simp only [Cm.val] at he
  subst he
  have HY := Lib.hid hY
  have hx6 : w4.heap.size ≠ g1 := by have := HLX.out; omega
  have hrx6 := (hk6.block _ (blk_lt HN5.out) hx6).trans HN5.out
  have HRW6 := Lib.hid (HRW5.out.kb hk6 HG1.out)
  have hb7 := alloc_below w6 (Obj.cells #[.int .i64 Y.cla, .int .i64 Y.ins, .int .i64 Y.p1, .int .i64 Y.p2, .slice A6 Y.data.length c6, .int .i64 Y.le, .bool Y.long] 30)
  have HO7 : Hid (OnS w (w6.alloc (Obj.cells #[.int .i64 Y.cla, .int .i64 Y.ins, .int .i64 Y.p1, .int .i64 Y.p2, .slice A6 Y.data.length c6, .int .i64 Y.le, .bool Y.long] 30)) w4.heap.size w6.heap.size g2 (Obj.cells #[.slice A0 s.enc.length c0, .slice A1 s.mac.length c1, .slice A2 s.rmac.length c2, .slice A3 s.dat.length c3, .int .i64 s.lvl] 24) (Obj.cells #[.int .i64 X.cla, .int .i64 X.ins, .int .i64 X.p1, .int .i64 X.p2, .slice A4 X.data.length c4, .int .i64 X.le, .bool X.long] 30) (Obj.cells #[.int .i64 Y.cla, .int .i64 Y.ins, .int .i64 Y.p1, .int .i64 Y.p2, .slice A6 Y.data.length c6, .int .i64 Y.le, .bool Y.long] 30) (.slice A4 X.data.length c4) (.slice A6 Y.data.length c6) X.data Y.data (Ch.new s m)) :=
    ⟨(HRW6.out.on hb7).b, (HRW6.out.on hb7).r1, (hb7.block _ (blk_lt hrx6)).trans hrx6, heap_alloc_new w6 _, (((HC5.out.off HV5.out (Nat.le_refl _)).kb hk6).sl).on hb7, hv6.on hb7, (HC5.out.other HC25.out HNE.out hk6).below hb7⟩
  have HL6 : Hid (w4.heap.size < w6.heap.size) := blk_lt hrx6
  have hxx1 : w4.heap.size ≠ w6.heap.size := by have := HL6.out; omega
  have hxx2 : w6.heap.size ≠ w4.heap.size := by have := HL6.out; omega
  have hxx3 : w4.heap.size < w6.heap.size := HL6.out
  have hy3 : w.heap.size < w6.heap.size := by omega
  obtain ⟨⟨q0, q1, q2, q3, q4, q5, q6⟩, ⟨f0, f1, f2, f3, f4, f5, f6⟩⟩ := cells7 hrx6
  clear hv6 hc6 hk6 hrx6 hb7 HW HRW5 HV5 HC5 HC25 HN5 hY HRW6
  by_cases hE : wrE (Ch.new s m) a = 0
  case neg =>
    have hne1 : (wrE (Ch.new s m) a != 0) = true := by rw [bne_iff_ne]; exact hE
    clear hE
    go_wp2_with fail
    refine (awake_any _).mono ?_
    rintro e w8 ⟨rfl, hb8⟩
    have HO8 := Lib.hid (HO7.out.on hb8)
    clear hb8
    go_wp2_with fail
    go_ret
    exact ⟨rfl, HO8.out.b⟩
  by_cases hF : wrE (wgS (Ch.new s m) a 0) b = 0
  case neg =>
    have hne1 : (wrE (Ch.new s m) a != 0) = false := by rw [hE]; rfl
    have hne2 : (wrE (wgS (Ch.new s m) a 0) b != 0) = true := by rw [bne_iff_ne]; exact hF
    clear hE hF
    go_wp2_with fail
    refine (awake_any _).mono ?_
    rintro e w8 ⟨rfl, hb8⟩
    have HO8 := Lib.hid (HO7.out.on hb8)
    clear hb8
    go_wp2_with fail
    go_ret
    exact ⟨rfl, HO8.out.b⟩
  have HE := Lib.hid hE
  have HF := Lib.hid hF
  rw [hE, hF]
  have hXY : X = wrY (Ch.new s m) a 0 := by rw [HX.out]; unfold wgY; rw [if_pos hE]
  have hS1 : wgS (Ch.new s m) a 0 = onS (Ch.new s m) a := by unfold wgS; rw [if_pos hE]; rfl
  have hN1 : wgN (Ch.new s m) a 0 = 1 := by unfold wgN; rw [if_pos hE]
  have HXo : Hid (onX (Ch.new s m) a = X) := hXY.symm
  have HYo : Hid (onY (Ch.new s m) a b = Y) := by
    show _ = _
    rw [HY.out, hN1, hS1]
    unfold wgY
    rw [if_pos (by rw [← hS1]; exact hF)]
    rfl
  have HF1 : Hid (wrE (onS (Ch.new s m) a) b = 0) := by show _ = _; rw [← hS1]; exact hF
  clear hS1 hN1
  have hXl : X.data.length = (wrB (Ch.new s m) a 0).length + 8 := by rw [hXY]; exact wrD_len _ _ _
  clear hE hF
  obtain ⟨nX, hnX⟩ : ∃ nX, X.data.length = nX + 8 := ⟨_, hXl⟩
  obtain ⟨B4, d4, e4, hle4, hmx4, hrd⟩ := id HO7.out.sx
  obtain ⟨b4, o4, rfl, hb4, hc4⟩ := hrd (by omega)
  injection e4 with e41 e42 e43
  subst e41 e43
  obtain ⟨q, rfl⟩ : ∃ q, c4 = nX + (q + 1) := ⟨c4 - nX - 1, by omega⟩
  have hs2 : SL (w6.alloc (Obj.cells #[.int .i64 Y.cla, .int .i64 Y.ins, .int .i64 Y.p1, .int .i64 Y.p2, .slice A6 Y.data.length c6, .int .i64 Y.le, .bool Y.long] 30)) (w6.alloc (Obj.cells #[.int .i64 Y.cla, .int .i64 Y.ins, .int .i64 Y.p1, .int .i64 Y.p2, .slice A6 Y.data.length c6, .int .i64 Y.le, .bool Y.long] 30)).heap.size (.slice (some ⟨b4, o4 + nX, none⟩) 8 (q + 1)) (X.data.drop nX) :=
    ⟨some ⟨b4, o4 + nX, none⟩, q + 1, by rw [List.length_drop, hnX]; congr 1; omega, by rw [List.length_drop]; omega, by unfold maxLen at *; omega, Rd.drop hrd nX (by omega)⟩
  rw [hnX] at HO7 q4 ⊢
  have HS2 := Lib.hid hs2
  have HNX := Lib.hid hnX
  have HXY := Lib.hid hXY
  have hmx : nX ≤ 2000 := by
    have h1 : X.data.length ≤ a.data.length + 16 := by rw [hXY]; exact wrD_le _ _ _
    omega
  clear hrd hb4 hc4 hle4 hmx4 hs2 hXl hXY hnX
  have i1 : ((nX + 8 : Nat) : Int) - 8 = (nX : Int) := by omega
  have i2 : ¬ (nX : Int) < 0 := by omega
  have i3 : (nX : Int) ≤ ((nX + 8 : Nat) : Int) := by omega
  have i4 : (nX : Int) ≤ ((nX + (q + 1) : Nat) : Int) := by omega
  have i5 : (0 : Int) ≤ (nX : Int) := by omega
  have i6 : (nX : Int) ≤ (nX : Int) + ((q : Int) + 1) := by omega
  have i7 : nX ≤ nX + (q + 1) := by omega
  have i9 : (nX : Int) ≤ (nX : Int) + 8 := by omega
  have i8 : IntKind.wrap .i64 ((nX : Int) + 8 - 8) = (nX : Int) := by rw [IntWalk.i64_in _ (by omega)]; omega
  go_wp2_with fail
  have HSA := Lib.hid (rsame_any (X.data.drop nX) m _ _ (w6.alloc (Obj.cells #[.int .i64 Y.cla, .int .i64 Y.ins, .int .i64 Y.p1, .int .i64 Y.p2, .slice A6 Y.data.length c6, .int .i64 Y.le, .bool Y.long] 30)) _ HS2.out (HXM.out.on HO7.out.b))
  generalize w6.alloc (Obj.cells #[.int .i64 Y.cla, .int .i64 Y.ins, .int .i64 Y.p1, .int .i64 Y.p2, .slice A6 Y.data.length c6, .int .i64 Y.le, .bool Y.long] 30) = w7 at *
  refine HSA.out.mono ?_
  rintro e w8 ⟨rfl, nq, rfl⟩
  have HO8 := Lib.hid (HO7.out.drn nq)
  generalize w7.drewN nq = w8 at *
  by_cases hsm : X.data.drop nX = m
  case pos =>
    rw [decide_eq_true hsm]
    clear hsm
    go_wp2_with fail
    refine (awake_any _).mono ?_
    rintro e w9 ⟨rfl, hb9⟩
    have HO9 := Lib.hid (HO8.out.on hb9)
    clear hb9
    go_wp2_with fail
    go_ret
    exact ⟨rfl, HO9.out.b⟩
  rw [decide_eq_false hsm]
  have HSM : Hid ((onX (Ch.new s m) a).data.drop ((onX (Ch.new s m) a).data.length - 8) ≠ (Ch.new s m).cv) := by
    show _ ≠ _
    rw [HXo.out, HNX.out, Nat.add_sub_cancel]
    exact hsm
  clear hsm q0 q1 q2 q3 q4 q5 q6 f0 f1 f2 f3 f4 f5 f6 i1 i2 i3 i4 i5 i6 i7 i8 i9 HSA HS2 HO7
  have hd1 := fun g A k W (h : CH W g (Ch.new s m)) (ht : ET W) hd => on_second (S := Ch.new s m) (a := a) (b := b) HOK.out.1 HOK.out.2 HF1.out (by omega) HSM.out g A k W h ht hd
  simp only [HYo.out, Cm.val, Cm.zero] at hd1
  have hc1 := fun g A k W (h : CH W g (Ch.new s m)) hd => on_first (S := Ch.new s m) (a := a) HOK.out.1 HOK.out.2 HE.out (by omega) g A k W h hd
  simp only [HXo.out, HNX.out, Cm.val, Cm.zero] at hc1
  have hc2 := fun g A k W (h : CH W g (onS (Ch.new s m) a)) (ht : ET W) hd => on_again (S := Ch.new s m) (a := a) HOK.out.1 HOK.out.2 HE.out (by omega) HSM.out g A k W h ht hd
  simp only [HXo.out, HNX.out, Cm.val, Cm.zero] at hc2
  have hleX : -9223372036854775808 ≤ X.le ∧ X.le ≤ 9223372036854775807 := by rw [← HXo.out]; exact HLA.out
  have hleY : -9223372036854775808 ≤ Y.le ∧ Y.le ≤ 9223372036854775807 := by rw [← HYo.out]; exact HLB.out
  have hsx := fun g S A k W h hg hv ht => shut_any g S X A k W h hg hv ht hleX
  simp only [HNX.out, Cm.val, Cm.zero] at hsx
  have hsy := fun g S A k W h hg hv ht => shut_any g S Y A k W h hg hv ht hleY
  simp only [Cm.val, Cm.zero] at hsy
  have HD1 := Lib.hid hd1
  have HC1 := Lib.hid hc1
  have HC2 := Lib.hid hc2
  have HSX := Lib.hid hsx
  have HSY := Lib.hid hsy
  have HO1 := Lib.hid (onS_ok HOK.out.1 a)
  clear hd1 hc1 hc2 hleX hleY hsx hsy
  obtain ⟨t0, t1, t2, t3, t4⟩ := row5 HO8.out.rs
  go_wp2_with fail
  refine (HNW.out w8 w8 HO8.out.b (Below.refl _ _) HSO.out).mono ?_
  rintro e w9 ⟨g3, hg3, rfl, hc3, hb9⟩
  have HO9 := Lib.hid (HO8.out.on hb9)
  have HC3 := Lib.hid hc3
  have HG3 : Hid (w.heap.size < g3 ∧ w4.heap.size ≠ g3 ∧ w6.heap.size ≠ g3 ∧ g3 ≠ g2) := by
    have z1 := blk_lt HO8.out.rs
    have z2 := blk_lt HO8.out.rx
    have z3 := blk_lt HO8.out.ry
    have z4 := HO8.out.c.lt
    exact ⟨by omega, by omega, by omega, by omega⟩
  clear hb9 hc3 hg3 HNW t0 t1 t2 t3 t4
  obtain ⟨⟨q0, q1, q2, q3, q4, q5, q6⟩, ⟨f0, f1, f2, f3, f4, f5, f6⟩⟩ := cells7 HO9.out.ry
  go_wp2_with fail
  refine (HD1.out g3 _ _ _ HC3.out (ET.on HET.out HO9.out.b) HO9.out.sy).mono ?_
  rintro e w10 ⟨rfl, hc10, hk10⟩
  have HO10 := Lib.hid (HO9.out.kb HC3.out hk10 HG3.out.1 HG3.out.2.1 HG3.out.2.2.1 HG3.out.2.2.2)
  have HO11 := Lib.hid (HO10.out.al (Obj.cells #[.int .i64 0, .int .i64 0, .int .i64 0, .int .i64 0, .slice none 0 0, .int .i64 0, .bool false] 30))
  have HC11 := Lib.hid (hc10.below (alloc_below w10 (Obj.cells #[.int .i64 0, .int .i64 0, .int .i64 0, .int .i64 0, .slice none 0 0, .int .i64 0, .bool false] 30)))
  have z2 : w4.heap.size < w10.heap.size := blk_lt HO10.out.rx
  have z3 : w4.heap.size ≠ w10.heap.size := by omega
  have z4 : w10.heap.size ≠ w4.heap.size := by omega
  clear hc10 hk10 q0 q1 q2 q3 q4 q5 q6 f0 f1 f2 f3 f4 f5 f6 HD1 HC3
  obtain ⟨⟨q0, q1, q2, q3, q4, q5, q6⟩, ⟨f0, f1, f2, f3, f4, f5, f6⟩⟩ := cells7 HO10.out.rx
  go_wp2_with fail
  have HK : Hid (0 < g3 ∧ 0 < g2 ∧ (Ch.new s m).cv.length = 8) := ⟨by have := HG3.out.1; omega, by have := HG2.out; omega, HOK.out.1.cv⟩
  refine (HSX.out g3 (Ch.new s m) _ _ _ HC11.out HK.out.1 HK.out.2.2 (ET.on HET.out HO11.out.b)).mono ?_
  rintro e w12 ⟨rfl, hc12, hk12⟩
  have HO12 := Lib.hid (HO11.out.kb HC11.out hk12 HG3.out.1 HG3.out.2.1 HG3.out.2.2.1 HG3.out.2.2.2)
  clear hc12 hk12 q0 q1 q2 q3 q4 q5 q6 f0 f1 f2 f3 f4 f5 f6 HC11 HSX
  obtain ⟨⟨q0, q1, q2, q3, q4, q5, q6⟩, ⟨f0, f1, f2, f3, f4, f5, f6⟩⟩ := cells7 HO12.out.rx
  go_wp2_with fail
  refine (HC1.out g2 _ _ _ HO12.out.c HO12.out.sx).mono ?_
  rintro e w13 ⟨y, A2, c2, rfl, hc13, hk13⟩
  have hg2x : w4.heap.size ≠ g2 ∧ w6.heap.size ≠ g2 := by have := HLX.out.1; have := HL6.out; omega
  have HGX := Lib.hid hg2x
  have HO13 := Lib.hid (HO12.out.own hk13 hc13 (by have := HG2.out; omega) HGX.out.1 HGX.out.2)
  have HO14 := Lib.hid (HO13.out.al (Obj.cells #[.int .i64 y.cla, .int .i64 y.ins, .int .i64 y.p1, .int .i64 y.p2, .slice A2 y.data.length c2, .int .i64 y.le, .bool y.long] 30))
  have z5 : w4.heap.size < w13.heap.size := blk_lt HO13.out.rx
  have z6 : w4.heap.size ≠ w13.heap.size := by omega
  have z7 : w13.heap.size ≠ w4.heap.size := by omega
  clear hc13 hk13 hg2x q0 q1 q2 q3 q4 q5 q6 f0 f1 f2 f3 f4 f5 f6 HC1
  obtain ⟨⟨q0, q1, q2, q3, q4, q5, q6⟩, ⟨f0, f1, f2, f3, f4, f5, f6⟩⟩ := cells7 HO13.out.rx
  go_wp2_with fail
  refine (HC2.out g2 _ _ _ HO14.out.c (ET.on HET.out HO14.out.b) HO14.out.sx).mono ?_
  rintro e w15 ⟨rfl, hc15, hk15⟩
  have HO15 := Lib.hid (HO14.out.own hk15 hc15 (by have := HG2.out; omega) HGX.out.1 HGX.out.2)
  have HO16 := Lib.hid (HO15.out.al (Obj.cells #[.int .i64 0, .int .i64 0, .int .i64 0, .int .i64 0, .slice none 0 0, .int .i64 0, .bool false] 30))
  have z8 : w6.heap.size < w15.heap.size := blk_lt HO15.out.ry
  have z9 : w6.heap.size ≠ w15.heap.size := by omega
  have z0 : w15.heap.size ≠ w6.heap.size := by omega
  clear hc15 hk15 q0 q1 q2 q3 q4 q5 q6 f0 f1 f2 f3 f4 f5 f6 HC2
  obtain ⟨⟨q0, q1, q2, q3, q4, q5, q6⟩, ⟨f0, f1, f2, f3, f4, f5, f6⟩⟩ := cells7 HO15.out.ry
  have hco := pcount_any g2 _ _ HO16.out.c
  have e8 : (onS (Ch.new s m) a).shut.cv.length = 8 := HO1.out.cv
  rw [e8] at hco
  have HCO : Hid (Calls Tryd.prog 13 #[.pointer (some ⟨g2, 0, none⟩)] (w15.alloc (Obj.cells #[.int .i64 0, .int .i64 0, .int .i64 0, .int .i64 0, .slice none 0 0, .int .i64 0, .bool false] 30)) fun e w' => e = .returned (.int .i64 1) ∧ (w15.alloc (Obj.cells #[.int .i64 0, .int .i64 0, .int .i64 0, .int .i64 0, .slice none 0 0, .int .i64 0, .bool false] 30)) = w') := hco
  clear hco
  go_wp2_with (first
    | (go_at_call 13; refine HCO.out.mono ?_; rintro e w' ⟨rfl, rfl⟩)
    | fail "none")
  refine (HSY.out g2 (onS (Ch.new s m) a) _ _ _ HO16.out.c HK.out.2.1 HO1.out.cv (ET.on HET.out HO16.out.b)).mono ?_
  rintro e w17 ⟨rfl, hc17, hk17⟩
  have HO17 := Lib.hid (HO16.out.own hk17 hc17 (by have := HG2.out; omega) HGX.out.1 HGX.out.2)
  clear hc17 hk17
  go_wp2_with fail
  refine (awake_any _).mono ?_
  rintro e w18 ⟨rfl, hb18⟩
  have HO18 := Lib.hid (HO17.out.on hb18)
  clear hb18
  go_wp2_with fail
  go_ret
  exact ⟨rfl, HO18.out.b⟩
theorem law_once (s : Ss) (v0 v1 v2 v3 : Value) (m : List UInt8) (vm : Value) (a : Cm) (da : Value) (b : Cm) (db : Value) (W : World) (h0 : SL W W.heap.size v0 s.enc) (h1 : SL W W.heap.size v1 s.mac) (h2 : SL W W.heap.size v2 s.rmac) (h3 : SL W W.heap.size v3 s.dat) (hm : SL W W.heap.size vm m) (ha : SL W W.heap.size da a.data) (hb : SL W W.heap.size db b.data)
    (hla : -9223372036854775808 ≤ a.le ∧ a.le ≤ 9223372036854775807) (hlb : -9223372036854775808 ≤ b.le ∧ b.le ≤ 9223372036854775807) (ht : ET W) :
    Calls Tryd.prog 4 #[s.val v0 v1 v2 v3, vm, a.val da, b.val db] W fun e w' => e = .returned (.bool true) ∧ Below W.heap.size W w' := by
  obtain ⟨Aa, ka, rfl, _⟩ := id ha
  obtain ⟨Ab, kb, rfl, _⟩ := id hb
  exact law_once1 s m a b v0 v1 v2 v3 vm Aa Ab ka kb W h0 h1 h2 h3 hm ha hb ht hla hlb
end Go.Proofs.YtdalcldilmmgmaaDoor
