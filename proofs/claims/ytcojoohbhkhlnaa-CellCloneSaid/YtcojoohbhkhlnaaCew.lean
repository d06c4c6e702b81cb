/-
  do in general; the law CellModel.
-/
import Derived.Test.YtcojoohbhkhlnaaCev
namespace Go.Proofs.Ytcojoohbhkhlnaa
set_option linter.unusedVariables false
set_option linter.unusedSimpArgs false
open Go.RowKit

theorem do_any {w : World} {X : Nat → Prop} {b g lf N : Nat} {s : St} {v1 v2 : Value} (hm : MA w b g s lf) (h : RV w X s v1 v2) (hb : X b) (hg : X g) (hX : ∀ k, X k → k < w.heap.size) (hF : Fine s N) (hN : N < 1000000) (c : Cl) (hc : c.fit) :
    Calls Try.prog 10 #[.pointer (some ⟨b, 0, none⟩), .agg (rrow v1 v2 s), .agg #[.int .i64 c.op, .int .i64 c.a, .int .i64 c.n, .int .u32 (c.v : Int)]] w (DoR b g X (doS s c) w) := by
  obtain ⟨f0, f1, f2, f3⟩ := hc
  unfold doS
  by_cases e0 : c.op = 0
  · rw [if_pos e0, e0]; exact do_write hm h hb hg hX hF hN c.a c.n c.v f1 f2 f3
  rw [if_neg e0]
  by_cases e1 : c.op = 1
  · rw [if_pos e1, e1]; exact do_cut hm h hb hg hX hF hN c.a c.n c.v f1 f2 f3
  rw [if_neg e1]
  by_cases e2 : c.op = 2
  · rw [if_pos e2, e2]; exact do_restore hm h hb hg hX hF hN c.a c.n c.v f1 f2 f3
  rw [if_neg e2]
  by_cases e3 : c.op = 3
  · rw [if_pos e3, e3]; exact do_flip hm h hb hg hX hF hN c.a c.n c.v f1 f2 f3
  rw [if_neg e3]
  by_cases e4 : c.op = 4
  · rw [e4]; exact do_read hm h hb hg hX hF hN c.a c.n c.v f1 f2 f3
  · exact do_other hm h c.op c.a c.n c.v e0 e1 e2 e3 e4
theorem Fine.next {s : St} {N : Nat} (h : Fine s N) (c : Cl) (hc : c.fit) : Fine (doS s c) (N + 1) := by
  obtain ⟨f0, f1, f2, f3⟩ := hc
  unfold doS
  split
  · exact h.write _ _ f3
  split
  · exact (h.toCut _ f2.2).more (by omega)
  split
  · exact h.restore.more (by omega)
  split
  · exact (h.flip _ _).more (by omega)
  · exact h.more (by omega)
/-- The blocks of a memory, and that of the state beside it. -/
def XT (b g T : Nat) : Nat → Prop := fun k => k = b ∨ k = g ∨ k = T
theorem RV.liftT {w w' : World} {b g : Nat} {s : St} {v1 v2 : Value} (h : RV w (Xm b g) s v1 v2) (hb : Below w.heap.size w w') : RV w' (XT b g w.heap.size) s v1 v2 := by
  obtain ⟨⟨g1, c1, a1, a2, a3, a4, a5, a6⟩, ⟨g2, c2, b1, b2, b3, b4, b5, b6⟩⟩ := h
  refine ⟨⟨g1, c1, a1, a2, a3, ?_, Nat.lt_of_lt_of_le a5 hb.size, fun k hk => (hb.cell (p := ⟨g1, k, none⟩) a5).trans (a6 k hk)⟩, ⟨g2, c2, b1, b2, b3, ?_, Nat.lt_of_lt_of_le b5 hb.size, fun k hk => (hb.cell (p := ⟨g2, k, none⟩) b5).trans (b6 k hk)⟩⟩
  · rintro (hx | hx | hx)
    · exact a4 (.inl hx)
    · exact a4 (.inr hx)
    · omega
  · rintro (hx | hx | hx)
    · exact b4 (.inl hx)
    · exact b4 (.inr hx)
    · omega

set_option maxRecDepth 100000 in
set_option maxHeartbeats 3200000 in
theorem law_model (W E : Int) (l : List Cl) (v : Value) (w : World) (hW : I64 W) (hE : I64 E) (h : CL w w.heap.size v l) (hx : ∀ x ∈ l, x.fit) :
    Calls Try.prog 3 #[.agg #[.int .i64 W, .int .i64 E], v] w fun e w' => e = .returned (.bool true) ∧ Below w.heap.size w w' := by
  obtain ⟨A1, c0, rfl, h11, h12, h13⟩ := h
  unfold maxLen at h12
  have HB1 := Lib.hid (alloc_below w (.cells #[.int .i64 W, .int .i64 E] 23))
  have H13 := Lib.hid h13
  have HXX := Lib.hid hx
  have HE9 : Hid (I64 E) := hE
  clear hW hE h13 hx
  by_cases hbig : 64 < W ∧ W ≤ 65536
  · obtain ⟨q1, q2⟩ := hbig
    go_enter Try.func3, Try.ntmps3
    go_wp2
    go_ret
    exact ⟨rfl, HB1.out⟩
  by_cases hl : 60 < l.length
  · have hq : W ≤ 64 ∨ 65536 < W := by omega
    clear hbig
    rcases hq with hq | hq
    · go_enter Try.func3, Try.ntmps3
      go_wp2
      go_ret
      exact ⟨rfl, HB1.out⟩
    · go_enter Try.func3, Try.ntmps3
      go_wp2
      go_ret
      exact ⟨rfl, HB1.out⟩
  by_cases hok : 1 ≤ W ∧ W ≤ 65536 ∧ 1 ≤ E
  · obtain ⟨n, rfl⟩ : ∃ n : Nat, W = n := ⟨W.toNat, by omega⟩
    obtain ⟨en, rfl⟩ : ∃ m : Nat, E = m := ⟨E.toNat, by omega⟩
    have hn64 : n ≤ 64 := by omega
    have HO := Lib.hid (fun w => open_ok n en w (by omega) (by omega) (by omega) (by have := HE9.out.2; omega))
    have HEN : Hid (en < 9223372036854775808) := by have := HE9.out.2; show _ < _; omega
    clear hbig hok
    go_enter Try.func3, Try.ntmps3
    go_wp2_with fail
    generalize w.alloc (.cells #[.int .i64 (n : Int), .int .i64 (en : Int)] 23) = w1 at *
    refine (HO.out w1).mono ?_
    rintro e w2 ⟨b, g, v1, v2, rfl, hm, hrv, hb, hg, hb2⟩
    obtain ⟨g1, c1, rfl, _⟩ := hrv.ws
    obtain ⟨g2, c2, rfl, _⟩ := hrv.we
    have hltb := hm.ltb
    have hltg := hm.ltg
    have HB2 := Lib.hid (HB1.out.trans (hb2.mono HB1.out.size))
    have hb23 := alloc_below w2 (.cells #[.slice (some ⟨g1, 0, none⟩) (st0 n en).ws.length c1, .slice (some ⟨g2, 0, none⟩) (st0 n en).wear.length c2, .int .i64 ((st0 n en).en : Int), .int .i64 ((st0 n en).wr : Int), .int .i64 ((st0 n en).cu : Int), .bool (st0 n en).on, .int .i64 (cutI (st0 n en))] 29)
    have HM3 := Lib.hid (hm.on hb23)
    have HRV3 := Lib.hid (hrv.liftT hb23)
    have HRT := Lib.hid (heap_alloc_new w2 (.cells #[.slice (some ⟨g1, 0, none⟩) (st0 n en).ws.length c1, .slice (some ⟨g2, 0, none⟩) (st0 n en).wear.length c2, .int .i64 ((st0 n en).en : Int), .int .i64 ((st0 n en).wr : Int), .int .i64 ((st0 n en).cu : Int), .bool (st0 n en).on, .int .i64 (cutI (st0 n en))] 29))
    have HB3 := Lib.hid (HB2.out.trans (hb23.mono HB2.out.size))
    have hs1 := HB1.out.size
    clear hm hrv hb2 hb23
    unfold rrow
    go_wp2_with fail
    generalize w2.alloc (.cells #[.slice (some ⟨g1, 0, none⟩) (st0 n en).ws.length c1, .slice (some ⟨g2, 0, none⟩) (st0 n en).wear.length c2, .int .i64 ((st0 n en).en : Int), .int .i64 ((st0 n en).wr : Int), .int .i64 ((st0 n en).cu : Int), .bool (st0 n en).on, .int .i64 (cutI (st0 n en))] 29) = w3 at *
    obtain ⟨T, hT⟩ : ∃ T, w2.heap.size = T := ⟨_, rfl⟩
    have hsT : w.heap.size ≤ T := by have := HB2.out.size; omega
    rw [hT] at HRT HRV3 hltb hltg
    simp only [hT]
    clear hT
    go_loopw [7, 8] (fun ok i wr => ∃ (k : Nat) (s : St) (v1 v2 : Value), k ≤ l.length ∧ i = .int .i64 k ∧ ok = .bool true ∧ (∃ lf, MA wr b g s lf) ∧ RV wr (XT b g T) s v1 v2 ∧ wr.heap[T]? = some (.cells (rrow v1 v2 s) 29 (0, 0)) ∧ Fine s k ∧ Below w.heap.size w wr) (fun _ i _ => l.length - (intOf i).toNat)
    case atStart => exact ⟨0, st0 n en, _, _, by omega, rfl, rfl, ⟨0, HM3.out⟩, HRV3.out, HRT.out, Fine.new n en HEN.out, HB3.out⟩
    case round =>
      obtain ⟨k, s, v1, v2, hk, rfl, rfl, ⟨lf, hm⟩, hrv, hrt, hfi, hbel⟩ := hrel
      obtain ⟨g3, c3, rfl, _⟩ := hrv.ws
      obtain ⟨g4, c4, rfl, _⟩ := hrv.we
      have hltT : T < wr.heap.size := (Array.getElem?_eq_some_iff.1 hrt).1
      have t0 := cell_of_row _ _ 0 _ _ _ hrt
      have t1 := cell_of_row _ _ 1 _ _ _ hrt
      have t2 := cell_of_row _ _ 2 _ _ _ hrt
      have t3 := cell_of_row _ _ 3 _ _ _ hrt
      have t4 := cell_of_row _ _ 4 _ _ _ hrt
      have t5 := cell_of_row _ _ 5 _ _ _ hrt
      have t6 := cell_of_row _ _ 6 _ _ _ hrt
      unfold rrow at t0 t1 t2 t3 t4 t5 t6
      by_cases h3 : k < l.length
      · obtain ⟨bl, o, rfl, hbl, hc⟩ := H13.out (by omega)
        have y0 := (hbel.cell (p := ⟨bl, o + k * 4, none⟩) hbl).trans (hc k h3).op
        have y1 := (hbel.cell (p := ⟨bl, o + k * 4 + 1, none⟩) hbl).trans (hc k h3).a
        have y2 := (hbel.cell (p := ⟨bl, o + k * 4 + 2, none⟩) hbl).trans (hc k h3).n
        have y3 := (hbel.cell (p := ⟨bl, o + k * 4 + 3, none⟩) hbl).trans (hc k h3).v
        have hfit : (l.getD k cl0).fit := by
          rw [List.getD_eq_getElem?_getD, List.getElem?_eq_getElem h3]
          exact HXX.out _ (List.getElem_mem h3)
        have HC := Lib.hid hc
        have hki : (k : Int) < (l.length : Int) := by omega
        have hk0 : (0 : Int) ≤ (k : Int) := by omega
        generalize l.getD k cl0 = c at *
        have HDD : Hid (∀ m, Calls Try.prog 10 #[.pointer (some ⟨b, 0, none⟩), .agg #[.slice (some ⟨g3, 0, none⟩) s.ws.length c3, .slice (some ⟨g4, 0, none⟩) s.wear.length c4, .int .i64 (s.en : Int), .int .i64 (s.wr : Int), .int .i64 (s.cu : Int), .bool s.on, .int .i64 (cutI s)], .agg #[.int .i64 c.op, .int .i64 c.a, .int .i64 c.n, .int .u32 (c.v : Int)]] (wr.drewN m) (DoR b g (XT b g T) (doS s c) (wr.drewN m))) := fun m =>
          do_any (hm.drewN m) (hrv.below (below_drewN (Below.refl _ _) m)) (.inl rfl) (.inr (.inl rfl)) (fun j hj => by rcases hj with rfl | rfl | rfl; exact hm.ltb; exact hm.ltg; exact hltT) hfi (by omega) c hfit
        have HFN := Lib.hid (hfi.next c hfit)
        have HRD : Hid (wr.heap[T]? = some (.cells #[.slice (some ⟨g3, 0, none⟩) s.ws.length c3, .slice (some ⟨g4, 0, none⟩) s.wear.length c4, .int .i64 (s.en : Int), .int .i64 (s.wr : Int), .int .i64 (s.cu : Int), .bool s.on, .int .i64 (cutI s)] 29 (0, 0))) := hrt
        have HBD := Lib.hid hbel
        have HLT : Hid (T < wr.heap.size) := hltT
        have hTb : T ≠ b := by omega
        have hTg : T ≠ g := by omega
        clear hm hrv hrt hfi hbel hc hfit
        generalize doS s c = t at *
        go_wp2_with fail
        go_region_with (
              go_at_call 10
              refine (HDD.out _).mono ?_
              rintro e w4 ⟨u1, u2, rfl, hm4, hrv4, hk4⟩
              obtain ⟨g5, c5, rfl, _⟩ := hrv4.ws
              obtain ⟨g6, c6, rfl, _⟩ := hrv4.we
              have HM4 := Lib.hid hm4
              have HRV4 := Lib.hid hrv4
              have HB4 := Lib.hid ((below_drewN HBD.out 1).trans (hk4.below (by omega) (by omega) HBD.out.size))
              have rt := (hk4.block T HLT.out hTb hTg).trans HRD.out
              have HRT4 := Lib.hid rt
              have t0 := cell_of_row _ _ 0 _ _ _ rt
              have z0 := frozen_of_row _ _ 0 _ _ rt
              have t1 := cell_of_row _ _ 1 _ _ _ rt
              have z1 := frozen_of_row _ _ 1 _ _ rt
              have t2 := cell_of_row _ _ 2 _ _ _ rt
              have z2 := frozen_of_row _ _ 2 _ _ rt
              have t3 := cell_of_row _ _ 3 _ _ _ rt
              have z3 := frozen_of_row _ _ 3 _ _ rt
              have t4 := cell_of_row _ _ 4 _ _ _ rt
              have z4 := frozen_of_row _ _ 4 _ _ rt
              have t5 := cell_of_row _ _ 5 _ _ _ rt
              have z5 := frozen_of_row _ _ 5 _ _ rt
              have t6 := cell_of_row _ _ 6 _ _ _ rt
              have z6 := frozen_of_row _ _ 6 _ _ rt
              clear hm4 hrv4 hk4 rt
              unfold rrow)
        all_goals (
          have hMM := HM4.out.imp fun _ h => h.far7 hTb hTg (.slice (some ⟨g5, 0, none⟩) t.ws.length c5) (.slice (some ⟨g6, 0, none⟩) t.wear.length c6) (.int .i64 (t.en : Int)) (.int .i64 (t.wr : Int)) (.int .i64 (t.cu : Int)) (.bool t.on) (.int .i64 (cutI t))
          have hXT : XT b g T T := .inr (.inr rfl)
          have hRR : RV _ (XT b g T) t _ _ := ⟨HRV4.out.ws.set7 hXT (.slice (some ⟨g5, 0, none⟩) t.ws.length c5) (.slice (some ⟨g6, 0, none⟩) t.wear.length c6) (.int .i64 (t.en : Int)) (.int .i64 (t.wr : Int)) (.int .i64 (t.cu : Int)) (.bool t.on) (.int .i64 (cutI t)), HRV4.out.we.set7 hXT (.slice (some ⟨g5, 0, none⟩) t.ws.length c5) (.slice (some ⟨g6, 0, none⟩) t.wear.length c6) (.int .i64 (t.en : Int)) (.int .i64 (t.wr : Int)) (.int .i64 (t.cu : Int)) (.bool t.on) (.int .i64 (cutI t))⟩
          have hT4 := row7_set w4 T 29 _ _ _ _ _ _ _ (.slice (some ⟨g5, 0, none⟩) t.ws.length c5) (.slice (some ⟨g6, 0, none⟩) t.wear.length c6) (.int .i64 (t.en : Int)) (.int .i64 (t.wr : Int)) (.int .i64 (t.cu : Int)) (.bool t.on) (.int .i64 (cutI t)) HRT4.out
          have hBB := below_set7 HB4.out hsT (.slice (some ⟨g5, 0, none⟩) t.ws.length c5) (.slice (some ⟨g6, 0, none⟩) t.wear.length c6) (.int .i64 (t.en : Int)) (.int .i64 (t.wr : Int)) (.int .i64 (t.cu : Int)) (.bool t.on) (.int .i64 (cutI t))
          have HMM := Lib.hid hMM
          have HRR := Lib.hid hRR
          have HTT := Lib.hid hT4
          have HBB := Lib.hid hBB
          clear hMM hRR hT4 hBB HM4 HRV4 HRT4 HB4
          clear t0 z0 t1 z1 t2 z2 t3 z3 t4 z4 t5 z5 t6 z6 y0 y1 y2 y3
          generalize ((((((w4.setCell ⟨T, 0, none⟩ (.slice (some ⟨g5, 0, none⟩) t.ws.length c5)).setCell ⟨T, 1, none⟩ (.slice (some ⟨g6, 0, none⟩) t.wear.length c6)).setCell ⟨T, 2, none⟩ (.int .i64 (t.en : Int))).setCell ⟨T, 3, none⟩ (.int .i64 (t.wr : Int))).setCell ⟨T, 4, none⟩ (.int .i64 (t.cu : Int))).setCell ⟨T, 5, none⟩ (.bool t.on)).setCell ⟨T, 6, none⟩ (.int .i64 (cutI t)) = w5 at *
          go_wp2_with fail
          go_roundw
          case rel => exact ⟨k + 1, t, .slice (some ⟨g5, 0, none⟩) t.ws.length c5, .slice (some ⟨g6, 0, none⟩) t.wear.length c6, by omega, by go_num, rfl, HMM.out, HRR.out, HTT.out, HFN.out, HBB.out⟩
          case measure => simp [intOf]; omega)
      · obtain rfl : k = l.length := by omega
        have HS := Lib.hid (seen_any hm hrv)
        have HB := Lib.hid hbel
        clear hm hrv hrt hfi hbel
        unfold rrow at HS
        go_wp2_with fail
        refine HS.out.mono ?_
        rintro e w4 ⟨rfl, hb4⟩
        have HB4 := Lib.hid (HB.out.trans (hb4.mono HB.out.size))
        have HA := Lib.hid (awake_any w4)
        clear hb4
        go_wp2_with fail
        refine HA.out.mono ?_
        rintro e w5 ⟨rfl, hb5⟩
        have HB5 := Lib.hid (HB4.out.trans (hb5.mono HB4.out.size))
        clear hb5
        go_wp2_with fail
        go_ret
        exact ⟨rfl, HB5.out⟩
  · have HO := Lib.hid (fun w => open_bad W E w hok)
    have hq : W ≤ 64 ∨ 65536 < W := by omega
    clear hbig hok
    rcases hq with hq | hq
    all_goals (
      go_enter Try.func3, Try.ntmps3
      go_wp2_with fail
      generalize w.alloc (.cells #[.int .i64 W, .int .i64 E] 23) = w1 at *
      refine (HO.out w1).mono ?_
      rintro e w2 ⟨rfl, hb2⟩
      have HB2 := Lib.hid (HB1.out.trans (hb2.mono HB1.out.size))
      have HA := Lib.hid (fun w => awake_any w)
      clear hb2
      go_wp2_with fail
      refine (HA.out _).mono ?_
      rintro e w3 ⟨rfl, hb3⟩
      have HB3 := Lib.hid ((HB2.out.alloc HB2.out.size _).trans (hb3.mono (by have := HB2.out.size; rw [alloc_size]; omega)))
      clear hb3
      go_wp2_with fail
      go_ret
      exact ⟨rfl, HB3.out⟩)
end Go.Proofs.Ytcojoohbhkhlnaa
