/-
  The law CellClone.
-/
import Derived.Test.YtcojoohbhkhlnaaCex
namespace Go.Proofs.Ytcojoohbhkhlnaa
set_option linter.unusedVariables false
set_option linter.unusedSimpArgs false
open Go.RowKit

/-- A memory and its state beside it, in block T. -/
structure Dd (X : Nat → Prop) (b g T : Nat) (w : World) (s : St) (N lf : Nat) (v1 v2 : Value) : Prop where
  ma : MA w b g s lf
  rv : RV w X s v1 v2
  row : w.heap[T]? = some (.cells (rrow v1 v2 s) 29 (0, 0))
  fine : Fine s N
def De (X : Nat → Prop) (b g T : Nat) (w : World) (N : Nat) : Prop := ∃ s lf v1 v2, Dd X b g T w s N lf v1 v2
theorem De.kp {X : Nat → Prop} {b g T b' g' N : Nat} {w w' : World} (h : De X b g T w N) (hk : Kp b' g' w w') (h1 : b ≠ b') (h2 : b ≠ g') (h3 : g ≠ b') (h4 : g ≠ g') (h5 : T ≠ b') (h6 : T ≠ g') (hb : X b') (hg : X g') : De X b g T w' N := by
  obtain ⟨s, lf, v1, v2, hm, hr, ht, hf⟩ := h
  exact ⟨s, lf, v1, v2, hm.keep (hk.block b hm.ltb h1 h2) (hk.block g hm.ltg h3 h4) hk.size, hr.kp hk hb hg, (hk.block T (Array.getElem?_eq_some_iff.1 ht).1 h5 h6).trans ht, hf⟩
theorem De.set7 {X : Nat → Prop} {b g T k N : Nat} {w : World} (h : De X b g T w N) (h1 : k ≠ b) (h2 : k ≠ g) (h3 : k ≠ T) (hX : X k) (x0 x1 x2 x3 x4 x5 x6 : Value) :
    De X b g T (((((((w.setCell ⟨k, 0, none⟩ x0).setCell ⟨k, 1, none⟩ x1).setCell ⟨k, 2, none⟩ x2).setCell ⟨k, 3, none⟩ x3).setCell ⟨k, 4, none⟩ x4).setCell ⟨k, 5, none⟩ x5).setCell ⟨k, 6, none⟩ x6) N := by
  obtain ⟨s, lf, v1, v2, hm, hr, ht, hf⟩ := h
  exact ⟨s, lf, v1, v2, hm.far7 h1 h2 .., ⟨hr.ws.set7 hX .., hr.we.set7 hX ..⟩, (blk_set7 (Ne.symm h3) ..).trans ht, hf⟩
theorem RV.lift {w w' : World} {X Y : Nat → Prop} {s : St} {v1 v2 : Value} (h : RV w X s v1 v2) (hb : Below w.heap.size w w') (hY : ∀ k, Y k → X k ∨ w.heap.size ≤ k) : RV w' Y s v1 v2 := by
  obtain ⟨⟨g1, c1, a1, a2, a3, a4, a5, a6⟩, ⟨g2, c2, b1, b2, b3, b4, b5, b6⟩⟩ := h
  refine ⟨⟨g1, c1, a1, a2, a3, fun hx => ?_, Nat.lt_of_lt_of_le a5 hb.size, fun k hk => (hb.cell (p := ⟨g1, k, none⟩) a5).trans (a6 k hk)⟩, ⟨g2, c2, b1, b2, b3, fun hx => ?_, Nat.lt_of_lt_of_le b5 hb.size, fun k hk => (hb.cell (p := ⟨g2, k, none⟩) b5).trans (b6 k hk)⟩⟩
  · rcases hY _ hx with h | h
    · exact a4 h
    · omega
  · rcases hY _ hx with h | h
    · exact b4 h
    · omega
theorem De.below {X : Nat → Prop} {b g T N : Nat} {w w' : World} (h : De X b g T w N) (hb : Below w.heap.size w w') : De X b g T w' N := by
  obtain ⟨s, lf, v1, v2, hm, hr, ht, hf⟩ := h
  exact ⟨s, lf, v1, v2, hm.on hb, hr.below hb, (hb.block T (Array.getElem?_eq_some_iff.1 ht).1).trans ht, hf⟩
/-- The blocks of two memories and of their states. -/
def XS (b g T b' g' T' : Nat) : Nat → Prop := fun k => k = b ∨ k = g ∨ k = T ∨ k = b' ∨ k = g' ∨ k = T'

set_option maxRecDepth 100000 in
set_option maxHeartbeats 12800000 in
theorem law_clone (W E : Int) (l l2 : List Cl) (v v' : Value) (w : World) (hW : I64 W) (hE : I64 E) (h : CL w w.heap.size v l) (hx : ∀ x ∈ l, x.fit) (h' : CL w w.heap.size v' l2) (hx' : ∀ x ∈ l2, x.fit) :
    Calls Try.prog 5 #[.agg #[.int .i64 W, .int .i64 E], v, v'] w fun e w' => e = .returned (.bool true) ∧ Below w.heap.size w w' := by
  obtain ⟨A1, c0, rfl, h11, h12, h13⟩ := h
  obtain ⟨A2, c9, rfl, h21, h22, h23⟩ := h'
  unfold maxLen at h12 h22
  have HB1 := Lib.hid (alloc_below w (.cells #[.int .i64 W, .int .i64 E] 23))
  have H13 := Lib.hid h13
  have H23 := Lib.hid h23
  have HXX := Lib.hid hx
  have HXY := Lib.hid hx'
  have HE9 : Hid (I64 E) := hE
  clear hW hE h13 hx h23 hx'
  by_cases hbig : 64 < W
  · go_enter Try.func5, Try.ntmps5
    go_wp2
    go_ret
    exact ⟨rfl, HB1.out⟩
  by_cases hl : 40 < l.length
  · go_enter Try.func5, Try.ntmps5
    go_wp2
    go_ret
    exact ⟨rfl, HB1.out⟩
  by_cases hl2 : 40 < l2.length
  · go_enter Try.func5, Try.ntmps5
    go_wp2
    go_ret
    exact ⟨rfl, HB1.out⟩
  by_cases hok : 1 ≤ W ∧ W ≤ 65536 ∧ 1 ≤ E
  · obtain ⟨n, rfl⟩ : ∃ n : Nat, W = n := ⟨W.toNat, by omega⟩
    obtain ⟨en, rfl⟩ : ∃ m : Nat, E = m := ⟨E.toNat, by omega⟩
    have hn64 : n ≤ 64 := by omega
    have HO := Lib.hid (fun w => open_ok n en w (by omega) (by omega) (by omega) (by have := HE9.out.2; omega))
    have HEN : Hid (en < 9223372036854775808) := by have := HE9.out.2; show _ < _; omega
    clear hbig hok
    go_enter Try.func5, Try.ntmps5
    go_wp2_with fail
    generalize w.alloc (.cells #[.int .i64 (n : Int), .int .i64 (en : Int)] 23) = w1 at *
    refine (HO.out w1).mono ?_
    rintro e w2 ⟨b, g, v1, v2, rfl, hm, hrv, hb, hg, hb2⟩
    obtain ⟨g1, c1, rfl, _⟩ := hrv.ws
    obtain ⟨g2, c2, rfl, _⟩ := hrv.we
    have hltb := hm.ltb
    have hltg := hm.ltg
    have hbg := hm.ne
    have HB2 := Lib.hid (HB1.out.trans (hb2.mono HB1.out.size))
    have hb23 := alloc_below w2 (.cells #[.slice (some ⟨g1, 0, none⟩) (st0 n en).ws.length c1, .slice (some ⟨g2, 0, none⟩) (st0 n en).wear.length c2, .int .i64 ((st0 n en).en : Int), .int .i64 ((st0 n en).wr : Int), .int .i64 ((st0 n en).cu : Int), .bool (st0 n en).on, .int .i64 (cutI (st0 n en))] 29)
    have HM3 := Lib.hid (hm.on hb23)
    have HRV3 := Lib.hid (hrv.liftT hb23)
    have HRT := Lib.hid (heap_alloc_new w2 (.cells #[.slice (some ⟨g1, 0, none⟩) (st0 n en).ws.length c1, .slice (some ⟨g2, 0, none⟩) (st0 n en).wear.length c2, .int .i64 ((st0 n en).en : Int), .int .i64 ((st0 n en).wr : Int), .int .i64 ((st0 n en).cu : Int), .bool (st0 n en).on, .int .i64 (cutI (st0 n en))] 29))
    have HB3 := Lib.hid (HB2.out.trans (hb23.mono HB2.out.size))
    have hs1 := HB1.out.size
    clear hm hrv hb2 hb23
    unfold rrow
    go_wp2_with fail
    generalize w2.alloc (.cells #[.slice (some ⟨g1, 0, none⟩) (st0 n en).ws.length c1, .slice (some ⟨g2, 0, none⟩) (st0 n en).wear.length c2, .int .i64 ((st0 n en).en : Int), .int .i64 ((st0 n en).wr : Int), .int .i64 ((st0 n en).cu : Int), .bool (st0 n en).on, .int .i64 (cutI (st0 n en))] 29) = w3 at *
    obtain ⟨T, hT⟩ : ∃ T, w2.heap.size = T := ⟨_, rfl⟩
    have hsT : w.heap.size ≤ T := by have := HB2.out.size; omega
    rw [hT] at HRT HRV3 hltb hltg
    simp only [hT]
    clear hT
    have hbT : b ≠ T := by omega
    have hgT : g ≠ T := by omega
    have HXbb : Hid (XT b g T b) := .inl rfl
    have HXgg : Hid (XT b g T g) := .inr (.inl rfl)
    have HXTT : Hid (XT b g T T) := .inr (.inr rfl)
    have HXW : Hid (∀ N, b < N ∧ g < N ∧ T < N → ∀ k, XT b g T k → k < N) := fun N hN k hk => by rcases hk with rfl | rfl | rfl; exact hN.1; exact hN.2.1; exact hN.2.2
    go_loopw [9, 10] (fun ok i wr => ∃ (k : Nat), k ≤ l.length ∧ i = .int .i64 k ∧ ok = .bool true ∧ De (XT b g T) b g T wr k ∧ Below w.heap.size w wr) (fun _ i _ => l.length - (intOf i).toNat)
    case atStart => exact ⟨0, by omega, rfl, rfl, ⟨st0 n en, 0, _, _, HM3.out, HRV3.out, HRT.out, Fine.new n en HEN.out⟩, HB3.out⟩
    case round =>
      obtain ⟨k, hk, rfl, rfl, hd, hbel⟩ := hrel
      by_cases h3 : k < l.length
      · have hXsz : b < wr.heap.size ∧ g < wr.heap.size ∧ T < wr.heap.size := by
          obtain ⟨s, lf, v1, v2, q1, q2, q3, q4⟩ := hd
          exact ⟨q1.ltb, q1.ltg, (Array.getElem?_eq_some_iff.1 q3).1⟩
        obtain ⟨s, lf, v1, v2, hm, hrv, hrt, hfi⟩ := hd
        obtain ⟨g3, c3, rfl, _⟩ := hrv.ws
        obtain ⟨g4, c4, rfl, _⟩ := hrv.we
        have hltT : T < wr.heap.size := (Array.getElem?_eq_some_iff.1 hrt).1
        have t0 := cell_of_row _ _ 0 _ _ _ hrt
        have t1 := cell_of_row _ _ 1 _ _ _ hrt
        have t2 := cell_of_row _ _ 2 _ _ _ hrt
        have t3 := cell_of_row _ _ 3 _ _ _ hrt
        have t4 := cell_of_row _ _ 4 _ _ _ hrt
        have t5 := cell_of_row _ _ 5 _ _ _ hrt
        have t6 := cell_of_row _ _ 6 _ _ _ hrt
        unfold rrow at t0 t1 t2 t3 t4 t5 t6
        obtain ⟨bl, o, rfl, hbl, hc⟩ := H13.out (by omega)
        have y0 := (hbel.cell (p := ⟨bl, o + k * 4, none⟩) hbl).trans (hc k h3).op
        have y1 := (hbel.cell (p := ⟨bl, o + k * 4 + 1, none⟩) hbl).trans (hc k h3).a
        have y2 := (hbel.cell (p := ⟨bl, o + k * 4 + 2, none⟩) hbl).trans (hc k h3).n
        have y3 := (hbel.cell (p := ⟨bl, o + k * 4 + 3, none⟩) hbl).trans (hc k h3).v
        have hfit : (l.getD k cl0).fit := by
          rw [List.getD_eq_getElem?_getD, List.getElem?_eq_getElem h3]
          exact HXX.out _ (List.getElem_mem h3)
        have HC := Lib.hid hc
        have hki : (k : Int) < (l.length : Int) := by omega
        have hk0 : (0 : Int) ≤ (k : Int) := by omega
        generalize l.getD k cl0 = c at *
        have HDD : Hid (∀ m, Calls Try.prog 10 #[.pointer (some ⟨b, 0, none⟩), .agg #[.slice (some ⟨g3, 0, none⟩) s.ws.length c3, .slice (some ⟨g4, 0, none⟩) s.wear.length c4, .int .i64 (s.en : Int), .int .i64 (s.wr : Int), .int .i64 (s.cu : Int), .bool s.on, .int .i64 (cutI s)], .agg #[.int .i64 c.op, .int .i64 c.a, .int .i64 c.n, .int .u32 (c.v : Int)]] (wr.drewN m) (DoR b g (XT b g T) (doS s c) (wr.drewN m))) := fun m =>
          do_any (hm.drewN m) (hrv.below (below_drewN (Below.refl _ _) m)) HXbb.out HXgg.out (HXW.out _ hXsz) hfi (by omega) c hfit
        have HFN : Hid (Fine (doS s c) (k + 1)) := (hfi.next c hfit).more (by omega)
        have HRD : Hid (wr.heap[T]? = some (.cells #[.slice (some ⟨g3, 0, none⟩) s.ws.length c3, .slice (some ⟨g4, 0, none⟩) s.wear.length c4, .int .i64 (s.en : Int), .int .i64 (s.wr : Int), .int .i64 (s.cu : Int), .bool s.on, .int .i64 (cutI s)] 29 (0, 0))) := hrt
        have HBD := Lib.hid hbel
        have HLT : Hid (T < wr.heap.size) := hltT
        clear hm hrv hrt hfi hbel hc hfit
        generalize doS s c = t at *
        go_wp2_with fail
        go_region_with (
              go_at_call 10
              refine (HDD.out _).mono ?_
              rintro e w4 ⟨u1, u2, rfl, hm4, hrv4, hk4⟩
              obtain ⟨g5, c5, rfl, _⟩ := hrv4.ws
              obtain ⟨g6, c6, rfl, _⟩ := hrv4.we
              have HM4 := Lib.hid hm4
              have HRV4 := Lib.hid hrv4
              have HB4 := Lib.hid ((below_drewN HBD.out _).trans (hk4.below (by omega) (by omega) HBD.out.size))
              have rt := (hk4.block T HLT.out (by omega) (by omega)).trans HRD.out
              have HRT4 := Lib.hid rt
              have t0 := cell_of_row _ _ 0 _ _ _ rt
              have z0 := frozen_of_row _ _ 0 _ _ rt
              have t1 := cell_of_row _ _ 1 _ _ _ rt
              have z1 := frozen_of_row _ _ 1 _ _ rt
              have t2 := cell_of_row _ _ 2 _ _ _ rt
              have z2 := frozen_of_row _ _ 2 _ _ rt
              have t3 := cell_of_row _ _ 3 _ _ _ rt
              have z3 := frozen_of_row _ _ 3 _ _ rt
              have t4 := cell_of_row _ _ 4 _ _ _ rt
              have z4 := frozen_of_row _ _ 4 _ _ rt
              have t5 := cell_of_row _ _ 5 _ _ _ rt
              have z5 := frozen_of_row _ _ 5 _ _ rt
              have t6 := cell_of_row _ _ 6 _ _ _ rt
              have z6 := frozen_of_row _ _ 6 _ _ rt
              clear hm4 hrv4 hk4 rt
              unfold rrow)
        all_goals (
          have hMM := HM4.out.imp fun _ h => h.far7 (k := T) (by omega) (by omega) (.slice (some ⟨g5, 0, none⟩) t.ws.length c5) (.slice (some ⟨g6, 0, none⟩) t.wear.length c6) (.int .i64 (t.en : Int)) (.int .i64 (t.wr : Int)) (.int .i64 (t.cu : Int)) (.bool t.on) (.int .i64 (cutI t))
          have hRR : RV _ (XT b g T) t _ _ := ⟨HRV4.out.ws.set7 HXTT.out (.slice (some ⟨g5, 0, none⟩) t.ws.length c5) (.slice (some ⟨g6, 0, none⟩) t.wear.length c6) (.int .i64 (t.en : Int)) (.int .i64 (t.wr : Int)) (.int .i64 (t.cu : Int)) (.bool t.on) (.int .i64 (cutI t)), HRV4.out.we.set7 HXTT.out (.slice (some ⟨g5, 0, none⟩) t.ws.length c5) (.slice (some ⟨g6, 0, none⟩) t.wear.length c6) (.int .i64 (t.en : Int)) (.int .i64 (t.wr : Int)) (.int .i64 (t.cu : Int)) (.bool t.on) (.int .i64 (cutI t))⟩
          have hT4 := row7_set w4 T 29 _ _ _ _ _ _ _ (.slice (some ⟨g5, 0, none⟩) t.ws.length c5) (.slice (some ⟨g6, 0, none⟩) t.wear.length c6) (.int .i64 (t.en : Int)) (.int .i64 (t.wr : Int)) (.int .i64 (t.cu : Int)) (.bool t.on) (.int .i64 (cutI t)) HRT4.out
          have hBB := below_set7 HB4.out (show w.heap.size ≤ T by omega) (.slice (some ⟨g5, 0, none⟩) t.ws.length c5) (.slice (some ⟨g6, 0, none⟩) t.wear.length c6) (.int .i64 (t.en : Int)) (.int .i64 (t.wr : Int)) (.int .i64 (t.cu : Int)) (.bool t.on) (.int .i64 (cutI t))
          have HMM := Lib.hid hMM
          have HRR := Lib.hid hRR
          have HTT := Lib.hid hT4
          have HBB := Lib.hid hBB
          clear hMM hRR hT4 hBB HM4 HRV4 HRT4 HB4
          clear t0 z0 t1 z1 t2 z2 t3 z3 t4 z4 t5 z5 t6 z6 y0 y1 y2 y3
          generalize ((((((w4.setCell ⟨T, 0, none⟩ (.slice (some ⟨g5, 0, none⟩) t.ws.length c5)).setCell ⟨T, 1, none⟩ (.slice (some ⟨g6, 0, none⟩) t.wear.length c6)).setCell ⟨T, 2, none⟩ (.int .i64 (t.en : Int))).setCell ⟨T, 3, none⟩ (.int .i64 (t.wr : Int))).setCell ⟨T, 4, none⟩ (.int .i64 (t.cu : Int))).setCell ⟨T, 5, none⟩ (.bool t.on)).setCell ⟨T, 6, none⟩ (.int .i64 (cutI t)) = w5 at *
          go_wp2_with fail
          go_roundw
          case rel =>
            obtain ⟨lf', hmm⟩ := HMM.out
            exact ⟨k + 1, by omega, by go_num, rfl, ⟨t, lf', _, _, hmm, HRR.out, HTT.out, HFN.out⟩, HBB.out⟩
          case measure => simp [intOf]; omega)
      · obtain rfl : k = l.length := by omega
        obtain ⟨s, lf, v1, v2, hm, hrv, hrt, hfi⟩ := hd
        obtain ⟨g3, c3, rfl, _⟩ := hrv.ws
        obtain ⟨g4, c4, rfl, _⟩ := hrv.we
        have hbN := hm.ltb
        have hgN := hm.ltg
        have hTN : T < wr.heap.size := (Array.getElem?_eq_some_iff.1 hrt).1
        have HCL := Lib.hid (clone_any hm)
        have HRV := Lib.hid hrv
        have HM := Lib.hid hm
        have HRT1 := Lib.hid hrt
        have HFI := Lib.hid hfi
        have HB := Lib.hid hbel
        have hsz0 := hbel.size
        clear hm hrv hrt hfi hbel
        go_wp2_with fail
        refine HCL.out.mono ?_
        rintro e w4 ⟨p, q, rfl, hm4, hpN, hqN, hb4⟩
        have hpq := hm4.ne
        have hrt4 := (hb4.block T hTN).trans HRT1.out
        have t0 := cell_of_row _ _ 0 _ _ _ hrt4
        have t1 := cell_of_row _ _ 1 _ _ _ hrt4
        have t2 := cell_of_row _ _ 2 _ _ _ hrt4
        have t3 := cell_of_row _ _ 3 _ _ _ hrt4
        have t4 := cell_of_row _ _ 4 _ _ _ hrt4
        have t5 := cell_of_row _ _ 5 _ _ _ hrt4
        have t6 := cell_of_row _ _ 6 _ _ _ hrt4
        unfold rrow at t0 t1 t2 t3 t4 t5 t6
        have HS := Lib.hid (seen_any hm4 (HRV.out.below hb4))
        have HM4 := Lib.hid hm4
        have HB4 := Lib.hid hb4
        clear hm4 hb4 hrt4
        unfold rrow at HS
        go_wp2_with fail
        refine HS.out.mono ?_
        rintro e w5 ⟨rfl, hb5⟩
        have HB5 := Lib.hid hb5
        have hb45 := HB4.out.trans (hb5.mono HB4.out.size)
        have hrt5 := (hb45.block T hTN).trans HRT1.out
        clear t0 t1 t2 t3 t4 t5 t6
        have t0 := cell_of_row _ _ 0 _ _ _ hrt5
        have t1 := cell_of_row _ _ 1 _ _ _ hrt5
        have t2 := cell_of_row _ _ 2 _ _ _ hrt5
        have t3 := cell_of_row _ _ 3 _ _ _ hrt5
        have t4 := cell_of_row _ _ 4 _ _ _ hrt5
        have t5 := cell_of_row _ _ 5 _ _ _ hrt5
        have t6 := cell_of_row _ _ 6 _ _ _ hrt5
        unfold rrow at t0 t1 t2 t3 t4 t5 t6
        have hb56 := alloc_below w5 (.cells #[.slice (some ⟨g3, 0, none⟩) s.ws.length c3, .slice (some ⟨g4, 0, none⟩) s.wear.length c4, .int .i64 (s.en : Int), .int .i64 (s.wr : Int), .int .i64 (s.cu : Int), .bool s.on, .int .i64 (cutI s)] 29)
        have HB6 := Lib.hid (hb45.trans (hb56.mono hb45.size))
        have HRR6 := Lib.hid (heap_alloc_new w5 (.cells #[.slice (some ⟨g3, 0, none⟩) s.ws.length c3, .slice (some ⟨g4, 0, none⟩) s.wear.length c4, .int .i64 (s.en : Int), .int .i64 (s.wr : Int), .int .i64 (s.cu : Int), .bool s.on, .int .i64 (cutI s)] 29))
        have HM6 := Lib.hid ((HM4.out.on hb5).on hb56)
        have hp5 := (HM4.out.on hb5).ltb
        have hq5 := (HM4.out.on hb5).ltg
        clear hb5 hb45 hrt5 hb56
        go_wp2_with fail
        generalize w5.alloc (.cells #[.slice (some ⟨g3, 0, none⟩) s.ws.length c3, .slice (some ⟨g4, 0, none⟩) s.wear.length c4, .int .i64 (s.en : Int), .int .i64 (s.wr : Int), .int .i64 (s.cu : Int), .bool s.on, .int .i64 (cutI s)] 29) = w6 at *
        obtain ⟨R, hR⟩ : ∃ R, w5.heap.size = R := ⟨_, rfl⟩
        rw [hR] at HRR6 hp5 hq5
        simp only [hR]
        clear hR t0 t1 t2 t3 t4 t5 t6
        have HX6 : Hid (∀ k, XS b g T p q R k → XT b g T k ∨ wr.heap.size ≤ k) := fun k hk => by
          rcases hk with rfl | rfl | rfl | rfl | rfl | rfl
          · exact .inl (.inl rfl)
          · exact .inl (.inr (.inl rfl))
          · exact .inl (.inr (.inr rfl))
          · exact .inr hpN
          · exact .inr hqN
          · exact .inr (by omega)
        have HRV6 := Lib.hid (HRV.out.lift HB6.out HX6.out)
        have HD1 : Hid (De (XS b g T p q R) b g T w6 l.length) := ⟨s, lf, _, _, HM.out.on HB6.out, HRV6.out, (HB6.out.block T hTN).trans HRT1.out, HFI.out⟩
        have HD2 : Hid (De (XS b g T p q R) p q R w6 l.length) := ⟨s, lf, _, _, HM6.out, HRV6.out, HRR6.out, HFI.out⟩
        have HB7 := Lib.hid (HB.out.trans (HB6.out.mono hsz0))
        clear HXbb HXgg HXTT HXW
        have HXbb : Hid (XS b g T p q R b) := .inl rfl
        have HXgg : Hid (XS b g T p q R g) := .inr (.inl rfl)
        have HXTT : Hid (XS b g T p q R T) := .inr (.inr (.inl rfl))
        have HXbp : Hid (XS b g T p q R p) := .inr (.inr (.inr (.inl rfl)))
        have HXgq : Hid (XS b g T p q R q) := .inr (.inr (.inr (.inr (.inl rfl))))
        have HXTR : Hid (XS b g T p q R R) := .inr (.inr (.inr (.inr (.inr rfl))))
        have HXW : Hid (∀ N, R < N → ∀ k, XS b g T p q R k → k < N) := fun N hN k hk => by rcases hk with rfl | rfl | rfl | rfl | rfl | rfl <;> omega
        have HN0 : Hid (∃ N0, N0 = wr.heap.size) := ⟨_, rfl⟩
        clear HCL HRV HM HRT1 HFI HB HM4 HB4 HS HB5 HM6 HRR6 HRV6 HX6 HB6
        go_loopw [9, 13] (fun ok i wx => ∃ (k : Nat), k ≤ l2.length ∧ i = .int .i64 k ∧ ok = .bool true ∧ De (XS b g T p q R) p q R wx (l.length + k) ∧ De (XS b g T p q R) b g T wx l.length ∧ Below w.heap.size w wx) (fun _ i _ => l2.length - (intOf i).toNat)
        case atStart => exact ⟨0, by omega, rfl, rfl, HD2.out, HD1.out, HB7.out⟩
        case round =>
          obtain ⟨k, hk, rfl, rfl, hd, ho, hbel⟩ := hrel
          by_cases h3 : k < l2.length
          · have hXsz : R < wr.heap.size := by
              obtain ⟨s, lf, v1, v2, q1, q2, q3, q4⟩ := hd
              exact (Array.getElem?_eq_some_iff.1 q3).1
            obtain ⟨s, lf, v1, v2, hm, hrv, hrt, hfi⟩ := hd
            obtain ⟨g3, c3, rfl, _⟩ := hrv.ws
            obtain ⟨g4, c4, rfl, _⟩ := hrv.we
            have hltT : R < wr.heap.size := (Array.getElem?_eq_some_iff.1 hrt).1
            have t0 := cell_of_row _ _ 0 _ _ _ hrt
            have t1 := cell_of_row _ _ 1 _ _ _ hrt
            have t2 := cell_of_row _ _ 2 _ _ _ hrt
            have t3 := cell_of_row _ _ 3 _ _ _ hrt
            have t4 := cell_of_row _ _ 4 _ _ _ hrt
            have t5 := cell_of_row _ _ 5 _ _ _ hrt
            have t6 := cell_of_row _ _ 6 _ _ _ hrt
            unfold rrow at t0 t1 t2 t3 t4 t5 t6
            obtain ⟨bl, o, rfl, hbl, hc⟩ := H23.out (by omega)
            have y0 := (hbel.cell (p := ⟨bl, o + k * 4, none⟩) hbl).trans (hc k h3).op
            have y1 := (hbel.cell (p := ⟨bl, o + k * 4 + 1, none⟩) hbl).trans (hc k h3).a
            have y2 := (hbel.cell (p := ⟨bl, o + k * 4 + 2, none⟩) hbl).trans (hc k h3).n
            have y3 := (hbel.cell (p := ⟨bl, o + k * 4 + 3, none⟩) hbl).trans (hc k h3).v
            have hfit : (l2.getD k cl0).fit := by
              rw [List.getD_eq_getElem?_getD, List.getElem?_eq_getElem h3]
              exact HXY.out _ (List.getElem_mem h3)
            have HC := Lib.hid hc
            have hki : (k : Int) < (l2.length : Int) := by omega
            have hk0 : (0 : Int) ≤ (k : Int) := by omega
            generalize l2.getD k cl0 = c at *
            have HDD : Hid (∀ m, Calls Try.prog 10 #[.pointer (some ⟨p, 0, none⟩), .agg #[.slice (some ⟨g3, 0, none⟩) s.ws.length c3, .slice (some ⟨g4, 0, none⟩) s.wear.length c4, .int .i64 (s.en : Int), .int .i64 (s.wr : Int), .int .i64 (s.cu : Int), .bool s.on, .int .i64 (cutI s)], .agg #[.int .i64 c.op, .int .i64 c.a, .int .i64 c.n, .int .u32 (c.v : Int)]] (wr.drewN m) (DoR p q (XS b g T p q R) (doS s c) (wr.drewN m))) := fun m =>
              do_any (hm.drewN m) (hrv.below (below_drewN (Below.refl _ _) m)) HXbp.out HXgq.out (HXW.out _ hXsz) hfi (by omega) c hfit
            have HFN : Hid (Fine (doS s c) (l.length + (k + 1))) := (hfi.next c hfit).more (by omega)
            have HRD : Hid (wr.heap[R]? = some (.cells #[.slice (some ⟨g3, 0, none⟩) s.ws.length c3, .slice (some ⟨g4, 0, none⟩) s.wear.length c4, .int .i64 (s.en : Int), .int .i64 (s.wr : Int), .int .i64 (s.cu : Int), .bool s.on, .int .i64 (cutI s)] 29 (0, 0))) := hrt
            have HBD := Lib.hid hbel
            have HLT : Hid (R < wr.heap.size) := hltT
            have HO := Lib.hid ho
            clear ho
            clear hm hrv hrt hfi hbel hc hfit
            generalize doS s c = t at *
            go_wp2_with fail
            go_region_with (
                  go_at_call 10
                  refine (HDD.out _).mono ?_
                  rintro e w4 ⟨u1, u2, rfl, hm4, hrv4, hk4⟩
                  obtain ⟨g5, c5, rfl, _⟩ := hrv4.ws
                  obtain ⟨g6, c6, rfl, _⟩ := hrv4.we
                  have HM4 := Lib.hid hm4
                  have HRV4 := Lib.hid hrv4
                  have HB4 := Lib.hid ((below_drewN HBD.out _).trans (hk4.below (by omega) (by omega) HBD.out.size))
                  have rt := (hk4.block R HLT.out (by omega) (by omega)).trans HRD.out
                  have HRT4 := Lib.hid rt
                  have HO4 := Lib.hid ((HO.out.below (below_drewN (Below.refl _ _) _)).kp hk4 (by omega) (by omega) (by omega) (by omega) (by omega) (by omega) HXbp.out HXgq.out)
                  have t0 := cell_of_row _ _ 0 _ _ _ rt
                  have z0 := frozen_of_row _ _ 0 _ _ rt
                  have t1 := cell_of_row _ _ 1 _ _ _ rt
                  have z1 := frozen_of_row _ _ 1 _ _ rt
                  have t2 := cell_of_row _ _ 2 _ _ _ rt
                  have z2 := frozen_of_row _ _ 2 _ _ rt
                  have t3 := cell_of_row _ _ 3 _ _ _ rt
                  have z3 := frozen_of_row _ _ 3 _ _ rt
                  have t4 := cell_of_row _ _ 4 _ _ _ rt
                  have z4 := frozen_of_row _ _ 4 _ _ rt
                  have t5 := cell_of_row _ _ 5 _ _ _ rt
                  have z5 := frozen_of_row _ _ 5 _ _ rt
                  have t6 := cell_of_row _ _ 6 _ _ _ rt
                  have z6 := frozen_of_row _ _ 6 _ _ rt
                  clear hm4 hrv4 hk4 rt
                  unfold rrow)
            all_goals (
              have hMM := HM4.out.imp fun _ h => h.far7 (k := R) (by omega) (by omega) (.slice (some ⟨g5, 0, none⟩) t.ws.length c5) (.slice (some ⟨g6, 0, none⟩) t.wear.length c6) (.int .i64 (t.en : Int)) (.int .i64 (t.wr : Int)) (.int .i64 (t.cu : Int)) (.bool t.on) (.int .i64 (cutI t))
              have hRR : RV _ (XS b g T p q R) t _ _ := ⟨HRV4.out.ws.set7 HXTR.out (.slice (some ⟨g5, 0, none⟩) t.ws.length c5) (.slice (some ⟨g6, 0, none⟩) t.wear.length c6) (.int .i64 (t.en : Int)) (.int .i64 (t.wr : Int)) (.int .i64 (t.cu : Int)) (.bool t.on) (.int .i64 (cutI t)), HRV4.out.we.set7 HXTR.out (.slice (some ⟨g5, 0, none⟩) t.ws.length c5) (.slice (some ⟨g6, 0, none⟩) t.wear.length c6) (.int .i64 (t.en : Int)) (.int .i64 (t.wr : Int)) (.int .i64 (t.cu : Int)) (.bool t.on) (.int .i64 (cutI t))⟩
              have hT4 := row7_set w4 R 29 _ _ _ _ _ _ _ (.slice (some ⟨g5, 0, none⟩) t.ws.length c5) (.slice (some ⟨g6, 0, none⟩) t.wear.length c6) (.int .i64 (t.en : Int)) (.int .i64 (t.wr : Int)) (.int .i64 (t.cu : Int)) (.bool t.on) (.int .i64 (cutI t)) HRT4.out
              have hBB := below_set7 HB4.out (show w.heap.size ≤ R by omega) (.slice (some ⟨g5, 0, none⟩) t.ws.length c5) (.slice (some ⟨g6, 0, none⟩) t.wear.length c6) (.int .i64 (t.en : Int)) (.int .i64 (t.wr : Int)) (.int .i64 (t.cu : Int)) (.bool t.on) (.int .i64 (cutI t))
              have hOO := HO4.out.set7 (k := R) (by omega) (by omega) (by omega) HXTR.out (.slice (some ⟨g5, 0, none⟩) t.ws.length c5) (.slice (some ⟨g6, 0, none⟩) t.wear.length c6) (.int .i64 (t.en : Int)) (.int .i64 (t.wr : Int)) (.int .i64 (t.cu : Int)) (.bool t.on) (.int .i64 (cutI t))
              have HOO := Lib.hid hOO
              clear hOO HO4
              have HMM := Lib.hid hMM
              have HRR := Lib.hid hRR
              have HTT := Lib.hid hT4
              have HBB := Lib.hid hBB
              clear hMM hRR hT4 hBB HM4 HRV4 HRT4 HB4
              clear t0 z0 t1 z1 t2 z2 t3 z3 t4 z4 t5 z5 t6 z6 y0 y1 y2 y3
              generalize ((((((w4.setCell ⟨R, 0, none⟩ (.slice (some ⟨g5, 0, none⟩) t.ws.length c5)).setCell ⟨R, 1, none⟩ (.slice (some ⟨g6, 0, none⟩) t.wear.length c6)).setCell ⟨R, 2, none⟩ (.int .i64 (t.en : Int))).setCell ⟨R, 3, none⟩ (.int .i64 (t.wr : Int))).setCell ⟨R, 4, none⟩ (.int .i64 (t.cu : Int))).setCell ⟨R, 5, none⟩ (.bool t.on)).setCell ⟨R, 6, none⟩ (.int .i64 (cutI t)) = w5 at *
              go_wp2_with fail
              go_roundw
              case rel =>
                obtain ⟨lf', hmm⟩ := HMM.out
                exact ⟨k + 1, by omega, by go_num, rfl, ⟨t, lf', _, _, hmm, HRR.out, HTT.out, HFN.out⟩, HOO.out, HBB.out⟩
              case measure => simp [intOf]; omega)
          · obtain rfl : k = l2.length := by omega
            have HO9 := Lib.hid ho
            have HD9 := Lib.hid hd
            have HB9 := Lib.hid hbel
            obtain ⟨s, lf, v1, v2, hm, hrv, hrt, hfi⟩ := ho
            obtain ⟨s2, lf2, u1, u2, hm2, hrv2, hrt2, hfi2⟩ := hd
            obtain ⟨g3, c3, rfl, _⟩ := hrv.ws
            obtain ⟨g4, c4, rfl, _⟩ := hrv.we
            obtain ⟨g5, c5, rfl, _⟩ := hrv2.ws
            obtain ⟨g6, c6, rfl, _⟩ := hrv2.we
            have hR9 : R < wr.heap.size := (Array.getElem?_eq_some_iff.1 hrt2).1
            have t0 := cell_of_row _ _ 0 _ _ _ hrt
            have t1 := cell_of_row _ _ 1 _ _ _ hrt
            have t2 := cell_of_row _ _ 2 _ _ _ hrt
            have t3 := cell_of_row _ _ 3 _ _ _ hrt
            have t4 := cell_of_row _ _ 4 _ _ _ hrt
            have t5 := cell_of_row _ _ 5 _ _ _ hrt
            have t6 := cell_of_row _ _ 6 _ _ _ hrt
            unfold rrow at t0 t1 t2 t3 t4 t5 t6
            have HS1 := Lib.hid (seen_any hm hrv)
            have HS2 : Hid (∀ W, Below wr.heap.size wr W → Calls Try.prog 11 #[.pointer (some ⟨p, 0, none⟩), .agg (rrow (.slice (some ⟨g5, 0, none⟩) s2.ws.length c5) (.slice (some ⟨g6, 0, none⟩) s2.wear.length c6) s2)] W fun e w' => e = .returned (.bool true) ∧ Below W.heap.size W w') := fun W hW => seen_any (hm2.on hW) (hrv2.below hW)
            have HRT2 := Lib.hid hrt2
            clear hm hrv hrt hfi hm2 hrv2 hrt2 hfi2 hbel
            unfold rrow at HS1 HS2
            go_wp2_with fail
            refine HS1.out.mono ?_
            rintro e w4 ⟨rfl, hb4⟩
            have hrt4 := (hb4.block R hR9).trans HRT2.out
            have HB4 := Lib.hid hb4
            clear t0 t1 t2 t3 t4 t5 t6
            have t0 := cell_of_row _ _ 0 _ _ _ hrt4
            have t1 := cell_of_row _ _ 1 _ _ _ hrt4
            have t2 := cell_of_row _ _ 2 _ _ _ hrt4
            have t3 := cell_of_row _ _ 3 _ _ _ hrt4
            have t4 := cell_of_row _ _ 4 _ _ _ hrt4
            have t5 := cell_of_row _ _ 5 _ _ _ hrt4
            have t6 := cell_of_row _ _ 6 _ _ _ hrt4
            unfold rrow at t0 t1 t2 t3 t4 t5 t6
            clear hb4 hrt4
            go_wp2_with fail
            refine (HS2.out _ HB4.out).mono ?_
            rintro e w5 ⟨rfl, hb5⟩
            have HB5 := Lib.hid (HB4.out.trans (hb5.mono HB4.out.size))
            clear hb5 t0 t1 t2 t3 t4 t5 t6
            have HD1 := Lib.hid (HO9.out.below HB5.out)
            have HD2 := Lib.hid (HD9.out.below HB5.out)
            have HB7 := Lib.hid (HB9.out.trans (HB5.out.mono HB9.out.size))
            clear HS1 HS2 HRT2 HB4 HB5 HO9 HD9 HB9
            go_wp2_with fail
            go_loopw [9, 14] (fun ok i wx => ∃ (k : Nat), k ≤ l2.length ∧ i = .int .i64 k ∧ ok = .bool true ∧ De (XS b g T p q R) b g T wx (l.length + k) ∧ De (XS b g T p q R) p q R wx (l.length + l2.length) ∧ Below w.heap.size w wx) (fun _ i _ => l2.length - (intOf i).toNat)
            case atStart => exact ⟨0, by omega, rfl, rfl, HD1.out, HD2.out, HB7.out⟩
            case round =>
              obtain ⟨k, hk, rfl, rfl, hd, ho, hbel⟩ := hrel
              by_cases h3 : k < l2.length
              · have hXsz : R < wr.heap.size := by
                  obtain ⟨s, lf, v1, v2, q1, q2, q3, q4⟩ := ho
                  exact (Array.getElem?_eq_some_iff.1 q3).1
                obtain ⟨s, lf, v1, v2, hm, hrv, hrt, hfi⟩ := hd
                obtain ⟨g3, c3, rfl, _⟩ := hrv.ws
                obtain ⟨g4, c4, rfl, _⟩ := hrv.we
                have hltT : T < wr.heap.size := (Array.getElem?_eq_some_iff.1 hrt).1
                have t0 := cell_of_row _ _ 0 _ _ _ hrt
                have t1 := cell_of_row _ _ 1 _ _ _ hrt
                have t2 := cell_of_row _ _ 2 _ _ _ hrt
                have t3 := cell_of_row _ _ 3 _ _ _ hrt
                have t4 := cell_of_row _ _ 4 _ _ _ hrt
                have t5 := cell_of_row _ _ 5 _ _ _ hrt
                have t6 := cell_of_row _ _ 6 _ _ _ hrt
                unfold rrow at t0 t1 t2 t3 t4 t5 t6
                obtain ⟨bl, o, rfl, hbl, hc⟩ := H23.out (by omega)
                have y0 := (hbel.cell (p := ⟨bl, o + k * 4, none⟩) hbl).trans (hc k h3).op
                have y1 := (hbel.cell (p := ⟨bl, o + k * 4 + 1, none⟩) hbl).trans (hc k h3).a
                have y2 := (hbel.cell (p := ⟨bl, o + k * 4 + 2, none⟩) hbl).trans (hc k h3).n
                have y3 := (hbel.cell (p := ⟨bl, o + k * 4 + 3, none⟩) hbl).trans (hc k h3).v
                have hfit : (l2.getD k cl0).fit := by
                  rw [List.getD_eq_getElem?_getD, List.getElem?_eq_getElem h3]
                  exact HXY.out _ (List.getElem_mem h3)
                have HC := Lib.hid hc
                have hki : (k : Int) < (l2.length : Int) := by omega
                have hk0 : (0 : Int) ≤ (k : Int) := by omega
                generalize l2.getD k cl0 = c at *
                have HDD : Hid (∀ m, Calls Try.prog 10 #[.pointer (some ⟨b, 0, none⟩), .agg #[.slice (some ⟨g3, 0, none⟩) s.ws.length c3, .slice (some ⟨g4, 0, none⟩) s.wear.length c4, .int .i64 (s.en : Int), .int .i64 (s.wr : Int), .int .i64 (s.cu : Int), .bool s.on, .int .i64 (cutI s)], .agg #[.int .i64 c.op, .int .i64 c.a, .int .i64 c.n, .int .u32 (c.v : Int)]] (wr.drewN m) (DoR b g (XS b g T p q R) (doS s c) (wr.drewN m))) := fun m =>
                  do_any (hm.drewN m) (hrv.below (below_drewN (Below.refl _ _) m)) HXbb.out HXgg.out (HXW.out _ hXsz) hfi (by omega) c hfit
                have HFN : Hid (Fine (doS s c) (l.length + (k + 1))) := (hfi.next c hfit).more (by omega)
                have HRD : Hid (wr.heap[T]? = some (.cells #[.slice (some ⟨g3, 0, none⟩) s.ws.length c3, .slice (some ⟨g4, 0, none⟩) s.wear.length c4, .int .i64 (s.en : Int), .int .i64 (s.wr : Int), .int .i64 (s.cu : Int), .bool s.on, .int .i64 (cutI s)] 29 (0, 0))) := hrt
                have HBD := Lib.hid hbel
                have HLT : Hid (T < wr.heap.size) := hltT
                have HO := Lib.hid ho
                clear ho
                clear hm hrv hrt hfi hbel hc hfit
                generalize doS s c = t at *
                go_wp2_with fail
                go_region_with (
                      go_at_call 10
                      refine (HDD.out _).mono ?_
                      rintro e w4 ⟨u1, u2, rfl, hm4, hrv4, hk4⟩
                      obtain ⟨g5, c5, rfl, _⟩ := hrv4.ws
                      obtain ⟨g6, c6, rfl, _⟩ := hrv4.we
                      have HM4 := Lib.hid hm4
                      have HRV4 := Lib.hid hrv4
                      have HB4 := Lib.hid ((below_drewN HBD.out _).trans (hk4.below (by omega) (by omega) HBD.out.size))
                      have rt := (hk4.block T HLT.out (by omega) (by omega)).trans HRD.out
                      have HRT4 := Lib.hid rt
                      have HO4 := Lib.hid ((HO.out.below (below_drewN (Below.refl _ _) _)).kp hk4 (by omega) (by omega) (by omega) (by omega) (by omega) (by omega) HXbb.out HXgg.out)
                      have t0 := cell_of_row _ _ 0 _ _ _ rt
                      have z0 := frozen_of_row _ _ 0 _ _ rt
                      have t1 := cell_of_row _ _ 1 _ _ _ rt
                      have z1 := frozen_of_row _ _ 1 _ _ rt
                      have t2 := cell_of_row _ _ 2 _ _ _ rt
                      have z2 := frozen_of_row _ _ 2 _ _ rt
                      have t3 := cell_of_row _ _ 3 _ _ _ rt
                      have z3 := frozen_of_row _ _ 3 _ _ rt
                      have t4 := cell_of_row _ _ 4 _ _ _ rt
                      have z4 := frozen_of_row _ _ 4 _ _ rt
                      have t5 := cell_of_row _ _ 5 _ _ _ rt
                      have z5 := frozen_of_row _ _ 5 _ _ rt
                      have t6 := cell_of_row _ _ 6 _ _ _ rt
                      have z6 := frozen_of_row _ _ 6 _ _ rt
                      clear hm4 hrv4 hk4 rt
                      unfold rrow)
                all_goals (
                  have hMM := HM4.out.imp fun _ h => h.far7 (k := T) (by omega) (by omega) (.slice (some ⟨g5, 0, none⟩) t.ws.length c5) (.slice (some ⟨g6, 0, none⟩) t.wear.length c6) (.int .i64 (t.en : Int)) (.int .i64 (t.wr : Int)) (.int .i64 (t.cu : Int)) (.bool t.on) (.int .i64 (cutI t))
                  have hRR : RV _ (XS b g T p q R) t _ _ := ⟨HRV4.out.ws.set7 HXTT.out (.slice (some ⟨g5, 0, none⟩) t.ws.length c5) (.slice (some ⟨g6, 0, none⟩) t.wear.length c6) (.int .i64 (t.en : Int)) (.int .i64 (t.wr : Int)) (.int .i64 (t.cu : Int)) (.bool t.on) (.int .i64 (cutI t)), HRV4.out.we.set7 HXTT.out (.slice (some ⟨g5, 0, none⟩) t.ws.length c5) (.slice (some ⟨g6, 0, none⟩) t.wear.length c6) (.int .i64 (t.en : Int)) (.int .i64 (t.wr : Int)) (.int .i64 (t.cu : Int)) (.bool t.on) (.int .i64 (cutI t))⟩
                  have hT4 := row7_set w4 T 29 _ _ _ _ _ _ _ (.slice (some ⟨g5, 0, none⟩) t.ws.length c5) (.slice (some ⟨g6, 0, none⟩) t.wear.length c6) (.int .i64 (t.en : Int)) (.int .i64 (t.wr : Int)) (.int .i64 (t.cu : Int)) (.bool t.on) (.int .i64 (cutI t)) HRT4.out
                  have hBB := below_set7 HB4.out (show w.heap.size ≤ T by omega) (.slice (some ⟨g5, 0, none⟩) t.ws.length c5) (.slice (some ⟨g6, 0, none⟩) t.wear.length c6) (.int .i64 (t.en : Int)) (.int .i64 (t.wr : Int)) (.int .i64 (t.cu : Int)) (.bool t.on) (.int .i64 (cutI t))
                  have hOO := HO4.out.set7 (k := T) (by omega) (by omega) (by omega) HXTT.out (.slice (some ⟨g5, 0, none⟩) t.ws.length c5) (.slice (some ⟨g6, 0, none⟩) t.wear.length c6) (.int .i64 (t.en : Int)) (.int .i64 (t.wr : Int)) (.int .i64 (t.cu : Int)) (.bool t.on) (.int .i64 (cutI t))
                  have HOO := Lib.hid hOO
                  clear hOO HO4
                  have HMM := Lib.hid hMM
                  have HRR := Lib.hid hRR
                  have HTT := Lib.hid hT4
                  have HBB := Lib.hid hBB
                  clear hMM hRR hT4 hBB HM4 HRV4 HRT4 HB4
                  clear t0 z0 t1 z1 t2 z2 t3 z3 t4 z4 t5 z5 t6 z6 y0 y1 y2 y3
                  generalize ((((((w4.setCell ⟨T, 0, none⟩ (.slice (some ⟨g5, 0, none⟩) t.ws.length c5)).setCell ⟨T, 1, none⟩ (.slice (some ⟨g6, 0, none⟩) t.wear.length c6)).setCell ⟨T, 2, none⟩ (.int .i64 (t.en : Int))).setCell ⟨T, 3, none⟩ (.int .i64 (t.wr : Int))).setCell ⟨T, 4, none⟩ (.int .i64 (t.cu : Int))).setCell ⟨T, 5, none⟩ (.bool t.on)).setCell ⟨T, 6, none⟩ (.int .i64 (cutI t)) = w5 at *
                  go_wp2_with fail
                  go_roundw
                  case rel =>
                    obtain ⟨lf', hmm⟩ := HMM.out
                    exact ⟨k + 1, by omega, by go_num, rfl, ⟨t, lf', _, _, hmm, HRR.out, HTT.out, HFN.out⟩, HOO.out, HBB.out⟩
                  case measure => simp [intOf]; omega)
              · obtain rfl : k = l2.length := by omega
                have hd2 := hd
                have hd := ho
                have ho := hd2
                clear hd2
                have HO9 := Lib.hid ho
                have HD9 := Lib.hid hd
                have HB9 := Lib.hid hbel
                obtain ⟨s, lf, v1, v2, hm, hrv, hrt, hfi⟩ := ho
                obtain ⟨s2, lf2, u1, u2, hm2, hrv2, hrt2, hfi2⟩ := hd
                obtain ⟨g3, c3, rfl, _⟩ := hrv.ws
                obtain ⟨g4, c4, rfl, _⟩ := hrv.we
                obtain ⟨g5, c5, rfl, _⟩ := hrv2.ws
                obtain ⟨g6, c6, rfl, _⟩ := hrv2.we
                have hR9 : R < wr.heap.size := (Array.getElem?_eq_some_iff.1 hrt2).1
                have t0 := cell_of_row _ _ 0 _ _ _ hrt
                have t1 := cell_of_row _ _ 1 _ _ _ hrt
                have t2 := cell_of_row _ _ 2 _ _ _ hrt
                have t3 := cell_of_row _ _ 3 _ _ _ hrt
                have t4 := cell_of_row _ _ 4 _ _ _ hrt
                have t5 := cell_of_row _ _ 5 _ _ _ hrt
                have t6 := cell_of_row _ _ 6 _ _ _ hrt
                unfold rrow at t0 t1 t2 t3 t4 t5 t6
                have HS1 := Lib.hid (seen_any hm hrv)
                have HS2 : Hid (∀ W, Below wr.heap.size wr W → Calls Try.prog 11 #[.pointer (some ⟨p, 0, none⟩), .agg (rrow (.slice (some ⟨g5, 0, none⟩) s2.ws.length c5) (.slice (some ⟨g6, 0, none⟩) s2.wear.length c6) s2)] W fun e w' => e = .returned (.bool true) ∧ Below W.heap.size W w') := fun W hW => seen_any (hm2.on hW) (hrv2.below hW)
                have HRT2 := Lib.hid hrt2
                clear hm hrv hrt hfi hm2 hrv2 hrt2 hfi2 hbel
                unfold rrow at HS1 HS2
                go_wp2_with fail
                refine HS1.out.mono ?_
                rintro e w4 ⟨rfl, hb4⟩
                have hrt4 := (hb4.block R hR9).trans HRT2.out
                have HB4 := Lib.hid hb4
                clear t0 t1 t2 t3 t4 t5 t6
                have t0 := cell_of_row _ _ 0 _ _ _ hrt4
                have t1 := cell_of_row _ _ 1 _ _ _ hrt4
                have t2 := cell_of_row _ _ 2 _ _ _ hrt4
                have t3 := cell_of_row _ _ 3 _ _ _ hrt4
                have t4 := cell_of_row _ _ 4 _ _ _ hrt4
                have t5 := cell_of_row _ _ 5 _ _ _ hrt4
                have t6 := cell_of_row _ _ 6 _ _ _ hrt4
                unfold rrow at t0 t1 t2 t3 t4 t5 t6
                clear hb4 hrt4
                go_wp2_with fail
                refine (HS2.out _ HB4.out).mono ?_
                rintro e w5 ⟨rfl, hb5⟩
                have HB5 := Lib.hid (HB4.out.trans (hb5.mono HB4.out.size))
                clear hb5 t0 t1 t2 t3 t4 t5 t6
                have HD1 := Lib.hid (HO9.out.below HB5.out)
                have HD2 := Lib.hid (HD9.out.below HB5.out)
                have HB7 := Lib.hid (HB9.out.trans (HB5.out.mono HB9.out.size))
                clear HS1 HS2 HRT2 HB4 HB5 HO9 HD9 HB9
                have HA := Lib.hid (awake_any w5)
                go_wp2_with fail
                refine HA.out.mono ?_
                rintro e w6 ⟨rfl, hb6⟩
                have HB8 := Lib.hid (HB7.out.trans (hb6.mono HB7.out.size))
                clear hb6
                go_wp2_with fail
                go_ret
                exact ⟨rfl, HB8.out⟩
  · have HO := Lib.hid (fun w => open_bad W E w hok)
    clear hok
    go_enter Try.func5, Try.ntmps5
    go_wp2_with fail
    generalize w.alloc (.cells #[.int .i64 W, .int .i64 E] 23) = w1 at *
    refine (HO.out w1).mono ?_
    rintro e w2 ⟨rfl, hb2⟩
    have HB2 := Lib.hid (HB1.out.trans (hb2.mono HB1.out.size))
    have HA := Lib.hid (fun w => awake_any w)
    clear hb2
    go_wp2_with fail
    refine (HA.out _).mono ?_
    rintro e w3 ⟨rfl, hb3⟩
    have HB3 := Lib.hid ((HB2.out.alloc HB2.out.size _).trans (hb3.mono (by have := HB2.out.size; rw [alloc_size]; omega)))
    clear hb3
    go_wp2_with fail
    go_ret
    exact ⟨rfl, HB3.out⟩
end Go.Proofs.Ytcojoohbhkhlnaa
