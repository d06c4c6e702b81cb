/-
  The walk of unwrap where the MAC is wrong.
-/
import Derived.Test.YtdalcldilmmgmaaDoorCuc
namespace Go.Proofs.YtdalcldilmmgmaaDoor
set_option linter.unusedVariables false
set_option linter.unusedSimpArgs false
open Go.RowKit

theorem beq_own (a b : List UInt8) (v u : Value) (w : World) (B : Nat) (ha : SL w B v a) (hb : SL w B u b) :
    Calls Tryd.prog 46 #[v, u] w fun e w' => e = .returned (.bool (a == b)) ∧ w = w' := by
  obtain ⟨A1, c1, rfl, h11, h12, h13⟩ := ha
  obtain ⟨A2, c2, rfl, h21, h22, h23⟩ := hb
  have hc := Tryd.bytes_Equal_all A1 A2 a.length c1 b.length c2 _ _ w (by simp) (by simp) (SL.bytesIn h13) (SL.bytesIn h23)
  rw [bytesOf_map, bytesOf_map] at hc
  exact hc.mono fun e w' ⟨h1, h2⟩ => ⟨h1, h2.symm⟩

set_option maxRecDepth 100000 in
set_option maxHeartbeats 3200000 in
theorem punwrap_wrong (g : Nat) (s : Ch) (x : Cm) (A : Option Addr) (k : Nat) (w : World) (h : CH w g s) (N : Nat) (hN : x.le = (N : Int)) (hN6 : N ≤ 65536) (hm16 : s.mac.length = 16) (hv8 : s.cv.length = 8) (h0 : clE s x = 0) (hL : hasB s.lvl 1 = true)
    (hS : (clsK x.cla).sec = true) (h8 : 8 ≤ x.data.length) (hM : x.data.drop (x.data.length - 8) ≠ cmF s x (x.data.take (x.data.length - 8))) (hd : SL w w.heap.size (.slice A x.data.length k) x.data) (hl : x.data.length ≤ 2000) :
    Calls Tryd.prog 29 #[.pointer (some ⟨g, 0, none⟩), x.val (.slice A x.data.length k)] w fun e w' => e = .returned (.tuple #[Cm.zero.val (.slice none 0 0), errV 17]) ∧ Below w.heap.size w w' := by
  have hc := fun W (hW : Below w.heap.size w W) => pclass_any g s x A x.data.length k W (h.below hW) rfl (by omega)
  have hmc := fun W vb (hW : Below w.heap.size w W) (hb : SL W W.heap.size vb (x.data.take (x.data.length - 8))) => pcmac_any g s x A x.data.length k _ vb N W (h.below hW) hm16 hv8 hN hN6 hb (by rw [List.length_take]; omega)
  have hMl : (cmF s x (x.data.take (x.data.length - 8))).length = 8 := macL_len _ _ _
  have hh := fun W (hW : Below w.heap.size w W) => phas_any g 1 s W (h.below hW)
  have hpa := fun W (hW : Below w.heap.size w W) => pparts_any x.data _ W (hd.on hW) hl
  rw [hL] at hh
  have hk : clK s x = clsK x.cla := by rw [clK, if_pos h0]
  have he : erV (clE s x) = .nilIface := by rw [h0]; rfl
  rw [hk, he] at hc
  unfold errV Cm.zero
  generalize cmF s x (x.data.take (x.data.length - 8)) = M at *
  obtain ⟨cla, ins, p1, p2, data, le, long⟩ := x
  simp only [Cm.val] at *
  generalize clsK cla = K at *
  obtain ⟨kc, ks, kn, kp⟩ := K
  simp only at hS hM hmc h8
  subst hS
  simp only [Kl.val] at hc
  have hb := alloc2_below w (Obj.cells #[.int .i64 cla, .int .i64 ins, .int .i64 p1, .int .i64 p2, .slice A data.length k, .int .i64 le, .bool long] 30) (Obj.cells #[.int .i64 0, .int .i64 0, .int .i64 0, .int .i64 0, .slice none 0 0, .int .i64 0, .bool false] 30)
  have HC := Lib.hid (hc _ hb)
  have HB := Lib.hid hb
  have HN1 := Lib.hid (heap_alloc2_old w (Obj.cells #[.int .i64 cla, .int .i64 ins, .int .i64 p1, .int .i64 p2, .slice A data.length k, .int .i64 le, .bool long] 30) (Obj.cells #[.int .i64 0, .int .i64 0, .int .i64 0, .int .i64 0, .slice none 0 0, .int .i64 0, .bool false] 30))
  have HN2 := Lib.hid (heap2_new w (Obj.cells #[.int .i64 cla, .int .i64 ins, .int .i64 p1, .int .i64 p2, .slice A data.length k, .int .i64 le, .bool long] 30) (Obj.cells #[.int .i64 0, .int .i64 0, .int .i64 0, .int .i64 0, .slice none 0 0, .int .i64 0, .bool false] 30))
  have HZ : Hid (((w.alloc (Obj.cells #[.int .i64 cla, .int .i64 ins, .int .i64 p1, .int .i64 p2, .slice A data.length k, .int .i64 le, .bool long] 30)).alloc (Obj.cells #[.int .i64 0, .int .i64 0, .int .i64 0, .int .i64 0, .slice none 0 0, .int .i64 0, .bool false] 30)).heap.size = w.heap.size + 2) := by show _ = _; rw [alloc_size, alloc_size]
  have HH := Lib.hid hh
  have HPA := Lib.hid hpa
  have HMC := Lib.hid hmc
  have HMM := Lib.hid hM
  have HML := Lib.hid hMl
  have H8 := Lib.hid h8
  clear h hc hb h0 hk he hh hpa hd hl hL hN hN6 hm16 hv8 hmc hM hMl h8
  go_enter Tryd.func29, Tryd.ntmps29
  go_wp2_with fail
  refine HC.out.mono ?_
  rintro e w3 ⟨rfl, hb3⟩
  have hz3 := hb3.size
  rw [HZ.out] at hz3
  have m1 := ((alloc_below w3 (Obj.cells #[.int .i64 kc, .bool true, .bool kn, .bool kp] 77)).block _ (Nat.lt_of_lt_of_le (blk_lt HN1.out) hb3.size)).trans ((hb3.block _ (blk_lt HN1.out)).trans HN1.out)
  have m2 := ((alloc_below w3 (Obj.cells #[.int .i64 kc, .bool true, .bool kn, .bool kp] 77)).block _ (Nat.lt_of_lt_of_le (blk_lt HN2.out) hb3.size)).trans ((hb3.block _ (blk_lt HN2.out)).trans HN2.out)
  have HW5 : Hid (WW w (w3.alloc (Obj.cells #[.int .i64 kc, .bool true, .bool kn, .bool kp] 77)) w3.heap.size #[.int .i64 cla, .int .i64 ins, .int .i64 p1, .int .i64 p2, .slice A data.length k, .int .i64 le, .bool long] #[.int .i64 kc, .bool true, .bool kn, .bool kp]) :=
    ⟨(BP.mk (HB.out.trans (hb3.mono HB.out.size)) (by omega)).al _, m1, m2, heap_alloc_new _ _, by omega⟩
  have hx1 : w.heap.size + 1 ≠ w3.heap.size := by omega
  have hx2 : w3.heap.size ≠ w.heap.size + 1 := by omega
  have hx3 : w.heap.size ≠ w3.heap.size := by omega
  have hx4 : w3.heap.size ≠ w.heap.size := by omega
  clear m1 m2 hz3 hb3
  obtain ⟨⟨q0, q1, q2, q3, q4, q5, q6⟩, ⟨g0, g1, g2, g3, g4, g5, g6⟩⟩ := cells7 HW5.out.r1
  obtain ⟨⟨r0, r1, r2, r3, r4, r5, r6⟩, ⟨f0, f1, f2, f3, f4, f5, f6⟩⟩ := cells7 HW5.out.r2
  obtain ⟨⟨t0, t1, t2, t3⟩, ⟨l0, l1, l2, l3⟩⟩ := cells4 HW5.out.r3
  go_wp2_with fail
  refine (HH.out _ HW5.out.bp.b).mono ?_
  rintro e w5 ⟨rfl, rfl⟩
  go_wp2_with fail
  refine (HH.out _ HW5.out.bp.b).mono ?_
  rintro e w5 ⟨rfl, rfl⟩
  go_wp2_with fail
  refine (HPA.out _ HW5.out.bp.b).mono ?_
  rintro e w6 ⟨hb6, hp⟩
  have HW6 := Lib.hid (HW5.out.on hb6)
  have HF : Hid (∀ y0 y1 y2 y3 y4 y5 y6, BP w.heap.size w (((((((w6.setCell ⟨w.heap.size + 1, 0, none⟩ y0).setCell ⟨w.heap.size + 1, 1, none⟩ y1).setCell ⟨w.heap.size + 1, 2, none⟩ y2).setCell ⟨w.heap.size + 1, 3, none⟩ y3).setCell ⟨w.heap.size + 1, 4, none⟩ y4).setCell ⟨w.heap.size + 1, 5, none⟩ y5).setCell ⟨w.heap.size + 1, 6, none⟩ y6) ∧ (((((((w6.setCell ⟨w.heap.size + 1, 0, none⟩ y0).setCell ⟨w.heap.size + 1, 1, none⟩ y1).setCell ⟨w.heap.size + 1, 2, none⟩ y2).setCell ⟨w.heap.size + 1, 3, none⟩ y3).setCell ⟨w.heap.size + 1, 4, none⟩ y4).setCell ⟨w.heap.size + 1, 5, none⟩ y5).setCell ⟨w.heap.size + 1, 6, none⟩ y6).heap[w.heap.size + 1]? = some (.cells #[y0, y1, y2, y3, y4, y5, y6] 30 (0, 0))) := fun y0 y1 y2 y3 y4 y5 y6 =>
    ⟨HW6.out.bp.st7 (Nat.le_succ _) .., row7st HW6.out.r2 ..⟩
  clear q0 q1 q2 q3 q4 q5 q6 g0 g1 g2 g3 g4 g5 g6 r0 r1 r2 r3 r4 r5 r6 f0 f1 f2 f3 f4 f5 f6 t0 t1 t2 t3 l0 l1 l2 l3 hb6
  obtain ⟨⟨q0, q1, q2, q3, q4, q5, q6⟩, ⟨g0, g1, g2, g3, g4, g5, g6⟩⟩ := cells7 HW6.out.r1
  obtain ⟨⟨r0, r1, r2, r3, r4, r5, r6⟩, ⟨f0, f1, f2, f3, f4, f5, f6⟩⟩ := cells7 HW6.out.r2
  obtain ⟨⟨t0, t1, t2, t3⟩, ⟨l0, l1, l2, l3⟩⟩ := cells4 HW6.out.r3
  rw [if_neg (by have := H8.out; omega)] at hp
  obtain ⟨v, u, rfl, hv, hu⟩ := hp
  have HV := Lib.hid hv
  have HU := Lib.hid hu
  clear hv hu
  go_wp2_with fail
  refine (HMC.out _ _ HW6.out.bp.b HV.out).mono ?_
  rintro e w7 ⟨v7, rfl, hv7, hb7⟩
  have HW7 := Lib.hid (HW6.out.on hb7)
  have HEQ := Lib.hid (beq_own _ _ u v7 w7 _ (HU.out.on hb7) hv7)
  rw [show (data.drop (data.length - 8) == M) = false from by rw [beq_eq_false_iff_ne]; exact HMM.out] at HEQ
  have HF7 : Hid (∀ y0 y1 y2 y3 y4 y5 y6, BP w.heap.size w (((((((w7.setCell ⟨w.heap.size + 1, 0, none⟩ y0).setCell ⟨w.heap.size + 1, 1, none⟩ y1).setCell ⟨w.heap.size + 1, 2, none⟩ y2).setCell ⟨w.heap.size + 1, 3, none⟩ y3).setCell ⟨w.heap.size + 1, 4, none⟩ y4).setCell ⟨w.heap.size + 1, 5, none⟩ y5).setCell ⟨w.heap.size + 1, 6, none⟩ y6) ∧ (((((((w7.setCell ⟨w.heap.size + 1, 0, none⟩ y0).setCell ⟨w.heap.size + 1, 1, none⟩ y1).setCell ⟨w.heap.size + 1, 2, none⟩ y2).setCell ⟨w.heap.size + 1, 3, none⟩ y3).setCell ⟨w.heap.size + 1, 4, none⟩ y4).setCell ⟨w.heap.size + 1, 5, none⟩ y5).setCell ⟨w.heap.size + 1, 6, none⟩ y6).heap[w.heap.size + 1]? = some (.cells #[y0, y1, y2, y3, y4, y5, y6] 30 (0, 0))) := fun y0 y1 y2 y3 y4 y5 y6 =>
    ⟨HW7.out.bp.st7 (Nat.le_succ _) .., row7st HW7.out.r2 ..⟩
  clear q0 q1 q2 q3 q4 q5 q6 g0 g1 g2 g3 g4 g5 g6 r0 r1 r2 r3 r4 r5 r6 f0 f1 f2 f3 f4 f5 f6 t0 t1 t2 t3 l0 l1 l2 l3 hb7 hv7
  obtain ⟨⟨q0, q1, q2, q3, q4, q5, q6⟩, ⟨g0, g1, g2, g3, g4, g5, g6⟩⟩ := cells7 HW7.out.r1
  obtain ⟨⟨r0, r1, r2, r3, r4, r5, r6⟩, ⟨f0, f1, f2, f3, f4, f5, f6⟩⟩ := cells7 HW7.out.r2
  obtain ⟨⟨t0, t1, t2, t3⟩, ⟨l0, l1, l2, l3⟩⟩ := cells4 HW7.out.r3
  go_wp2_with fail
  refine HEQ.out.mono ?_
  rintro e w8 ⟨rfl, rfl⟩
  go_wp2_with fail
  exact bodyPost_ret (results_cell2 rfl _ _ (w.heap.size + 1) 30 #[.int .i64 0, .int .i64 0, .int .i64 0, .int .i64 0, .slice none 0 0, .int .i64 0, .bool false] (0, 0) _ rfl (HF7.out ..).2 Tryd.underlying30 rfl (by kernel_rfl)) rfl ⟨rfl, (HF7.out ..).1.b⟩
end Go.Proofs.YtdalcldilmmgmaaDoor
