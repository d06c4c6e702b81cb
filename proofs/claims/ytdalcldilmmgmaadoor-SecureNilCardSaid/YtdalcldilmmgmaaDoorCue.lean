/-
  The walk of unwrap with the right MAC.
-/
import Derived.Test.YtdalcldilmmgmaaDoorCud
namespace Go.Proofs.YtdalcldilmmgmaaDoor
set_option linter.unusedVariables false
set_option linter.unusedSimpArgs false
open Go.RowKit

/-- What the walk of unwrap leaves. -/
theorem un_fin {w w10 : World} {K : Nat} {A A6 : Option Addr} {n k c6 : Nat} {cla ins p1 p2 le : Int} {long : Bool} {D : List UInt8} {ks : Array Value}
    (hW : WW w w10 K #[.int .i64 cla, .int .i64 ins, .int .i64 p1, .int .i64 p2, .slice A n k, .int .i64 le, .bool long] ks) (hv : SL w10 w10.heap.size (.slice A6 D.length c6) D) :
    BP w.heap.size w ((((((((w10.setCell ⟨w.heap.size, 4, none⟩ (.slice A6 D.length c6)).setCell ⟨w.heap.size + 1, 0, none⟩ (.int .i64 cla)).setCell ⟨w.heap.size + 1, 1, none⟩ (.int .i64 ins)).setCell ⟨w.heap.size + 1, 2, none⟩ (.int .i64 p1)).setCell ⟨w.heap.size + 1, 3, none⟩ (.int .i64 p2)).setCell ⟨w.heap.size + 1, 4, none⟩ (.slice A6 D.length c6)).setCell ⟨w.heap.size + 1, 5, none⟩ (.int .i64 le)).setCell ⟨w.heap.size + 1, 6, none⟩ (.bool long)) ∧ ((((((((w10.setCell ⟨w.heap.size, 4, none⟩ (.slice A6 D.length c6)).setCell ⟨w.heap.size + 1, 0, none⟩ (.int .i64 cla)).setCell ⟨w.heap.size + 1, 1, none⟩ (.int .i64 ins)).setCell ⟨w.heap.size + 1, 2, none⟩ (.int .i64 p1)).setCell ⟨w.heap.size + 1, 3, none⟩ (.int .i64 p2)).setCell ⟨w.heap.size + 1, 4, none⟩ (.slice A6 D.length c6)).setCell ⟨w.heap.size + 1, 5, none⟩ (.int .i64 le)).setCell ⟨w.heap.size + 1, 6, none⟩ (.bool long)).heap[w.heap.size + 1]? = some (.cells #[.int .i64 cla, .int .i64 ins, .int .i64 p1, .int .i64 p2, .slice A6 D.length c6, .int .i64 le, .bool long] 30 (0, 0)) ∧ SL ((((((((w10.setCell ⟨w.heap.size, 4, none⟩ (.slice A6 D.length c6)).setCell ⟨w.heap.size + 1, 0, none⟩ (.int .i64 cla)).setCell ⟨w.heap.size + 1, 1, none⟩ (.int .i64 ins)).setCell ⟨w.heap.size + 1, 2, none⟩ (.int .i64 p1)).setCell ⟨w.heap.size + 1, 3, none⟩ (.int .i64 p2)).setCell ⟨w.heap.size + 1, 4, none⟩ (.slice A6 D.length c6)).setCell ⟨w.heap.size + 1, 5, none⟩ (.int .i64 le)).setCell ⟨w.heap.size + 1, 6, none⟩ (.bool long)) ((((((((w10.setCell ⟨w.heap.size, 4, none⟩ (.slice A6 D.length c6)).setCell ⟨w.heap.size + 1, 0, none⟩ (.int .i64 cla)).setCell ⟨w.heap.size + 1, 1, none⟩ (.int .i64 ins)).setCell ⟨w.heap.size + 1, 2, none⟩ (.int .i64 p1)).setCell ⟨w.heap.size + 1, 3, none⟩ (.int .i64 p2)).setCell ⟨w.heap.size + 1, 4, none⟩ (.slice A6 D.length c6)).setCell ⟨w.heap.size + 1, 5, none⟩ (.int .i64 le)).setCell ⟨w.heap.size + 1, 6, none⟩ (.bool long)).heap.size (.slice A6 D.length c6) D := by
  have hW1 : WW w (w10.setCell ⟨w.heap.size, 4, none⟩ (.slice A6 D.length c6)) K #[.int .i64 cla, .int .i64 ins, .int .i64 p1, .int .i64 p2, .slice A6 D.length c6, .int .i64 le, .bool long] ks := hW.setx 4 _
  have s1 := sl_set hW.r1 (cm_cells _ _ _ _ _ _ _ _ _) hv 4 (.slice A6 D.length c6)
  generalize (w10.setCell ⟨w.heap.size, 4, none⟩ (.slice A6 D.length c6)) = W at *
  exact ⟨hW1.bp.st7 (Nat.le_succ _) .., row7st hW1.r2 .., ((offC hW1.r2 (cm_cells _ _ _ _ _ _ _ _ _) s1 (Nat.le_refl _)).kb (kb7 ..)).sl⟩
/-- The command that was protected, with its data. -/
def unY (x : Cm) (D : List UInt8) : Cm := ⟨bytN ⟨(clsK x.cla).ch, false, (clsK x.cla).chn, (clsK x.cla).prp⟩, x.ins, x.p1, x.p2, D, x.le, x.long⟩
set_option maxRecDepth 100000 in
set_option maxHeartbeats 3200000 in
theorem punwrap_ok (g : Nat) (s : Ch) (x : Cm) (A : Option Addr) (k n : Nat) (w : World) (h : CH w g s) (N : Nat) (hN : x.le = (N : Int)) (hN6 : N ≤ 65536) (hm16 : s.mac.length = 16) (hv8 : s.cv.length = 8) (he16 : s.enc.length = 16) (hcn : s.cnt = (n : Int)) (hn : n ≤ 10000) (h0 : clE s x = 0) (hL : hasB s.lvl 1 = true)
    (hS : (clsK x.cla).sec = true) (h8 : 8 ≤ x.data.length) (hM : x.data.drop (x.data.length - 8) = cmF s x (x.data.take (x.data.length - 8))) (D : List UInt8) (hD : decF s 2 (ivF s.enc (n + 1) 0) (x.data.take (x.data.length - 8)) = some D) (hd : SL w w.heap.size (.slice A x.data.length k) x.data) (hl : x.data.length ≤ 2000) :
    Calls Tryd.prog 29 #[.pointer (some ⟨g, 0, none⟩), x.val (.slice A x.data.length k)] w (WrP w (unY x D)) := by
  have hc := fun W (hW : Below w.heap.size w W) => pclass_any g s x A x.data.length k W (h.below hW) rfl (by omega)
  have hmc := fun W vb (hW : Below w.heap.size w W) (hb : SL W W.heap.size vb (x.data.take (x.data.length - 8))) => pcmac_any g s x A x.data.length k _ vb N W (h.below hW) hm16 hv8 hN hN6 hb (by rw [List.length_take]; omega)
  have hst := fun W (hW : Below w.heap.size w W) => pcst_any g s n W (h.below hW) he16 hcn hn
  have hde := fun W vi vd (hW : Below w.heap.size w W) (hi : SL W W.heap.size vi (ivF s.enc (n + 1) 0)) (hb : SL W W.heap.size vd (x.data.take (x.data.length - 8))) => pdecr_any g s 2 _ _ vi vd W (h.below hW) hi hb (by rw [List.length_take]; omega)
  rw [hD] at hde
  have hMl : (cmF s x (x.data.take (x.data.length - 8))).length = 8 := macL_len _ _ _
  have hh := fun W (hW : Below w.heap.size w W) => phas_any g 1 s W (h.below hW)
  have hpa := fun W (hW : Below w.heap.size w W) => pparts_any x.data _ W (hd.on hW) hl
  rw [hL] at hh
  have hk : clK s x = clsK x.cla := by rw [clK, if_pos h0]
  have he : erV (clE s x) = .nilIface := by rw [h0]; rfl
  rw [hk, he] at hc
  unfold unY
  generalize ivF s.enc (n + 1) 0 = I at *
  generalize cmF s x (x.data.take (x.data.length - 8)) = M at *
  obtain ⟨cla, ins, p1, p2, data, le, long⟩ := x
  simp only [Cm.val] at *
  generalize clsK cla = K at *
  obtain ⟨kc, ks, kn, kp⟩ := K
  simp only at hS hM hmc h8 hde ⊢
  subst hS
  simp only [Kl.val] at hc
  have hby := fun W => pbyt_any ⟨kc, false, kn, kp⟩ W
  simp only [Kl.val] at hby
  generalize bytN ⟨kc, false, kn, kp⟩ = cl2 at *
  generalize bytE ⟨kc, false, kn, kp⟩ = ce2 at *
  have HP : Hid (∀ e v w', e = .returned (.tuple #[.agg #[.int .i64 cl2, .int .i64 ins, .int .i64 p1, .int .i64 p2, v, .int .i64 le, .bool long], .nilIface]) → SL w' w'.heap.size v D → Below w.heap.size w w' → WrP w ⟨cl2, ins, p1, p2, D, le, long⟩ e w') := fun e v w' he h1 h2 => ⟨v, he, h1, h2⟩
  generalize WrP w ⟨cl2, ins, p1, p2, D, le, long⟩ = Q at *
  have hb := alloc2_below w (Obj.cells #[.int .i64 cla, .int .i64 ins, .int .i64 p1, .int .i64 p2, .slice A data.length k, .int .i64 le, .bool long] 30) (Obj.cells #[.int .i64 0, .int .i64 0, .int .i64 0, .int .i64 0, .slice none 0 0, .int .i64 0, .bool false] 30)
  have HC := Lib.hid (hc _ hb)
  have HB := Lib.hid hb
  have HN1 := Lib.hid (heap_alloc2_old w (Obj.cells #[.int .i64 cla, .int .i64 ins, .int .i64 p1, .int .i64 p2, .slice A data.length k, .int .i64 le, .bool long] 30) (Obj.cells #[.int .i64 0, .int .i64 0, .int .i64 0, .int .i64 0, .slice none 0 0, .int .i64 0, .bool false] 30))
  have HN2 := Lib.hid (heap2_new w (Obj.cells #[.int .i64 cla, .int .i64 ins, .int .i64 p1, .int .i64 p2, .slice A data.length k, .int .i64 le, .bool long] 30) (Obj.cells #[.int .i64 0, .int .i64 0, .int .i64 0, .int .i64 0, .slice none 0 0, .int .i64 0, .bool false] 30))
  have HZ : Hid (((w.alloc (Obj.cells #[.int .i64 cla, .int .i64 ins, .int .i64 p1, .int .i64 p2, .slice A data.length k, .int .i64 le, .bool long] 30)).alloc (Obj.cells #[.int .i64 0, .int .i64 0, .int .i64 0, .int .i64 0, .slice none 0 0, .int .i64 0, .bool false] 30)).heap.size = w.heap.size + 2) := by show _ = _; rw [alloc_size, alloc_size]
  have HH := Lib.hid hh
  have HPA := Lib.hid hpa
  have HMC := Lib.hid hmc
  have HST := Lib.hid hst
  have HDE := Lib.hid hde
  have HBY := Lib.hid hby
  have HMM := Lib.hid hM
  have HML := Lib.hid hMl
  have H8 := Lib.hid h8
  clear h hc hb h0 hk he hh hpa hd hl hL hN hN6 hm16 hv8 hmc hM hMl h8 hst hde hby hD he16 hcn hn
  go_enter Tryd.func29, Tryd.ntmps29
  go_wp2_with fail
  refine HC.out.mono ?_
  rintro e w3 ⟨rfl, hb3⟩
  have hz3 := hb3.size
  rw [HZ.out] at hz3
  have m1 := ((alloc_below w3 (Obj.cells #[.int .i64 kc, .bool true, .bool kn, .bool kp] 77)).block _ (Nat.lt_of_lt_of_le (blk_lt HN1.out) hb3.size)).trans ((hb3.block _ (blk_lt HN1.out)).trans HN1.out)
  have m2 := ((alloc_below w3 (Obj.cells #[.int .i64 kc, .bool true, .bool kn, .bool kp] 77)).block _ (Nat.lt_of_lt_of_le (blk_lt HN2.out) hb3.size)).trans ((hb3.block _ (blk_lt HN2.out)).trans HN2.out)
  have HW5 : Hid (WW w (w3.alloc (Obj.cells #[.int .i64 kc, .bool true, .bool kn, .bool kp] 77)) w3.heap.size #[.int .i64 cla, .int .i64 ins, .int .i64 p1, .int .i64 p2, .slice A data.length k, .int .i64 le, .bool long] #[.int .i64 kc, .bool true, .bool kn, .bool kp]) :=
    ⟨(BP.mk (HB.out.trans (hb3.mono HB.out.size)) (by omega)).al _, m1, m2, heap_alloc_new _ _, by omega⟩
  have hx1 : w.heap.size + 1 ≠ w3.heap.size := by omega
  have hx2 : w3.heap.size ≠ w.heap.size + 1 := by omega
  have hx3 : w.heap.size ≠ w3.heap.size := by omega
  have hx4 : w3.heap.size ≠ w.heap.size := by omega
  clear m1 m2 hz3 hb3
  obtain ⟨⟨q0, q1, q2, q3, q4, q5, q6⟩, ⟨g0, g1, g2, g3, g4, g5, g6⟩⟩ := cells7 HW5.out.r1
  obtain ⟨⟨r0, r1, r2, r3, r4, r5, r6⟩, ⟨f0, f1, f2, f3, f4, f5, f6⟩⟩ := cells7 HW5.out.r2
  obtain ⟨⟨t0, t1, t2, t3⟩, ⟨l0, l1, l2, l3⟩⟩ := cells4 HW5.out.r3
  go_wp2_with fail
  refine (HH.out _ HW5.out.bp.b).mono ?_
  rintro e w5 ⟨rfl, rfl⟩
  go_wp2_with fail
  refine (HH.out _ HW5.out.bp.b).mono ?_
  rintro e w5 ⟨rfl, rfl⟩
  go_wp2_with fail
  refine (HPA.out _ HW5.out.bp.b).mono ?_
  rintro e w6 ⟨hb6, hp⟩
  have HW6 := Lib.hid (HW5.out.on hb6)
  clear q0 q1 q2 q3 q4 q5 q6 g0 g1 g2 g3 g4 g5 g6 r0 r1 r2 r3 r4 r5 r6 f0 f1 f2 f3 f4 f5 f6 t0 t1 t2 t3 l0 l1 l2 l3 hb6
  obtain ⟨⟨q0, q1, q2, q3, q4, q5, q6⟩, ⟨g0, g1, g2, g3, g4, g5, g6⟩⟩ := cells7 HW6.out.r1
  obtain ⟨⟨r0, r1, r2, r3, r4, r5, r6⟩, ⟨f0, f1, f2, f3, f4, f5, f6⟩⟩ := cells7 HW6.out.r2
  obtain ⟨⟨t0, t1, t2, t3⟩, ⟨l0, l1, l2, l3⟩⟩ := cells4 HW6.out.r3
  rw [if_neg (by have := H8.out; omega)] at hp
  obtain ⟨v, u, rfl, hv, hu⟩ := hp
  have HV := Lib.hid hv
  have HU := Lib.hid hu
  clear hv hu
  go_wp2_with fail
  refine (HMC.out _ _ HW6.out.bp.b HV.out).mono ?_
  rintro e w7 ⟨v7, rfl, hv7, hb7⟩
  have HW7 := Lib.hid (HW6.out.on hb7)
  have HEQ := Lib.hid (beq_own _ _ u v7 w7 _ (HU.out.on hb7) hv7)
  rw [show (data.drop (data.length - 8) == M) = true from by rw [beq_iff_eq]; exact HMM.out] at HEQ
  have HV7 := Lib.hid (HV.out.on hb7)
  clear q0 q1 q2 q3 q4 q5 q6 g0 g1 g2 g3 g4 g5 g6 r0 r1 r2 r3 r4 r5 r6 f0 f1 f2 f3 f4 f5 f6 t0 t1 t2 t3 l0 l1 l2 l3
  clear hb7 hv7
  obtain ⟨⟨q0, q1, q2, q3, q4, q5, q6⟩, ⟨g0, g1, g2, g3, g4, g5, g6⟩⟩ := cells7 HW7.out.r1
  obtain ⟨⟨r0, r1, r2, r3, r4, r5, r6⟩, ⟨f0, f1, f2, f3, f4, f5, f6⟩⟩ := cells7 HW7.out.r2
  obtain ⟨⟨t0, t1, t2, t3⟩, ⟨l0, l1, l2, l3⟩⟩ := cells4 HW7.out.r3
  go_wp2_with fail
  refine HEQ.out.mono ?_
  rintro e w8 ⟨rfl, rfl⟩
  go_wp2_with fail
  refine (HBY.out _).mono ?_
  rintro e w8 ⟨rfl, hb8⟩
  have HV8 := Lib.hid ((sl_set HW7.out.r3 (kl_cells _ _ _ _) HV7.out 1 (.bool false)).on hb8)
  have HW8 : Hid (WW w w8 w3.heap.size #[.int .i64 cla, .int .i64 ins, .int .i64 p1, .int .i64 p2, .slice A data.length k, .int .i64 le, .bool long] #[.int .i64 kc, .bool false, .bool kn, .bool kp]) := (HW7.out.setk 1 (.bool false)).on hb8
  clear hb8
  clear q0 q1 q2 q3 q4 q5 q6 g0 g1 g2 g3 g4 g5 g6 r0 r1 r2 r3 r4 r5 r6 f0 f1 f2 f3 f4 f5 f6 t0 t1 t2 t3 l0 l1 l2 l3
  obtain ⟨⟨q0, q1, q2, q3, q4, q5, q6⟩, ⟨g0, g1, g2, g3, g4, g5, g6⟩⟩ := cells7 HW8.out.r1
  obtain ⟨⟨r0, r1, r2, r3, r4, r5, r6⟩, ⟨f0, f1, f2, f3, f4, f5, f6⟩⟩ := cells7 HW8.out.r2
  obtain ⟨⟨t0, t1, t2, t3⟩, ⟨l0, l1, l2, l3⟩⟩ := cells4 HW8.out.r3
  go_wp2_with fail
  have HW8b : Hid (WW w (w8.setCell ⟨w.heap.size, 0, none⟩ (.int .i64 cl2)) w3.heap.size #[.int .i64 cl2, .int .i64 ins, .int .i64 p1, .int .i64 p2, .slice A data.length k, .int .i64 le, .bool long] #[.int .i64 kc, .bool false, .bool kn, .bool kp]) := HW8.out.setx 0 (.int .i64 cl2)
  have HV8b := Lib.hid (sl_set HW8.out.r1 (cm_cells _ _ _ _ _ _ _ _ _) HV8.out 0 (.int .i64 cl2))
  refine (HST.out _ HW8b.out.bp.b).mono ?_
  rintro e w9 ⟨v9, rfl, hv9, hb9⟩
  have HW9 := Lib.hid (HW8b.out.on hb9)
  have HV9 := Lib.hid (HV8b.out.on hb9)
  have HI9 := Lib.hid hv9
  clear hv9 hb9
  go_wp2_with fail
  refine (HDE.out _ _ _ HW9.out.bp.b HI9.out HV9.out).mono ?_
  rintro e w10 ⟨hb10, hr⟩
  rcases hr with ⟨hr, _⟩ | ⟨m, v10, hr, rfl, hv10⟩
  · cases hr
  injection hr with hr
  subst hr
  have HW10 := Lib.hid (HW9.out.on hb10)
  have HV10 := Lib.hid hv10
  obtain ⟨A10, c10, rfl, _, _, _⟩ := id hv10
  have HF := Lib.hid (un_fin HW10.out HV10.out)
  clear hv10 hb10
  clear q0 q1 q2 q3 q4 q5 q6 g0 g1 g2 g3 g4 g5 g6 r0 r1 r2 r3 r4 r5 r6 f0 f1 f2 f3 f4 f5 f6 t0 t1 t2 t3 l0 l1 l2 l3
  obtain ⟨⟨q0, q1, q2, q3, q4, q5, q6⟩, ⟨g0, g1, g2, g3, g4, g5, g6⟩⟩ := cells7 HW10.out.r1
  obtain ⟨⟨r0, r1, r2, r3, r4, r5, r6⟩, ⟨f0, f1, f2, f3, f4, f5, f6⟩⟩ := cells7 HW10.out.r2
  obtain ⟨⟨t0, t1, t2, t3⟩, ⟨l0, l1, l2, l3⟩⟩ := cells4 HW10.out.r3
  go_wp2_with fail
  exact bodyPost_ret (results_cell2 rfl _ _ (w.heap.size + 1) 30 _ (0, 0) _ rfl HF.out.2.1 Tryd.underlying30 rfl (by kernel_rfl)) rfl (HP.out _ _ _ rfl HF.out.2.2 HF.out.1.b)
end Go.Proofs.YtdalcldilmmgmaaDoor
