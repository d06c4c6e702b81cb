/-
  The law CellCut.
-/
import Derived.Test.YtcojoohbhkhlnaaCel
import Derived.Test.YtcojoohbhkhlnaaFrm
namespace Go.Proofs.Ytcojoohbhkhlnaa
set_option linter.unusedVariables false
set_option linter.unusedSimpArgs false
open Go.RowKit

/-- A state behind i writes, a cut planned before the one that follows n. -/
structure Cst (s : St) (n i : Nat) : Prop where
  on : s.on = decide (i ≤ n)
  cut : s.cut = some (n - i)
  en : s.en = 1000
  len : s.ws.length = 8
  wlen : s.wear.length = 8
  wr : s.wr = min i n
  cu : s.cu = if i ≤ n then 0 else 1
  fine : Fine s i
  lt : n < 9223372036854775808

theorem Cst.next {s : St} {n i : Nat} (h : Cst s n i) (hi : i < 30) (a v : Nat) (ha : a < 8) (hv : v < 4294967296) :
    Cst (wrS s a v) n (i + 1) ∧ ((i < n ∧ wrE s a = 0 ∧ (wrS s a v).ws = s.ws.set a v) ∨ (n ≤ i ∧ wrE s a = 7 ∧ (wrS s a v).ws = s.ws)) := by
  have hF := h.fine.write a v hv
  by_cases hn : n < i
  · have hacc : accE s a = 7 := by unfold accE; rw [if_pos (by rw [h.on]; simp; omega)]
    have e : wrS s a v = s := by unfold wrS; rw [if_neg (by omega)]
    rw [e] at hF ⊢
    refine ⟨⟨?_, ?_, h.en, h.len, h.wlen, ?_, ?_, hF, h.lt⟩, .inr ⟨by omega, ?_, rfl⟩⟩
    · rw [h.on, decide_eq_false (by omega), decide_eq_false (by omega)]
    · rw [h.cut]; congr 1; omega
    · rw [h.wr]; omega
    · rw [h.cu, if_neg (by omega), if_neg (by omega)]
    · unfold wrE; rw [if_neg (by omega), hacc]
  · have hacc : accE s a = 0 := by unfold accE; rw [if_neg (by rw [h.on]; simp; omega), if_pos (by rw [h.len]; omega)]
    by_cases he : i = n
    · subst he
      have hc : s.cut = some 0 := by rw [h.cut, Nat.sub_self]
      have e : wrS s a v = { s with on := false, cu := s.cu + 1 } := by unfold wrS; rw [if_pos hacc, hc]
      rw [e] at hF ⊢
      refine ⟨⟨?_, ?_, h.en, h.len, h.wlen, ?_, ?_, hF, h.lt⟩, .inr ⟨by omega, ?_, rfl⟩⟩
      · rw [decide_eq_false (by omega)]
      · show s.cut = _; rw [hc]; congr 1; omega
      · show s.wr = _; rw [h.wr]; omega
      · show s.cu + 1 = _; rw [h.cu, if_pos (by omega), if_neg (by omega)]
      · unfold wrE; rw [if_pos hacc, if_pos hc]
    · have hc : s.cut = some ((n - i - 1) + 1) := by rw [h.cut]; congr 1; omega
      have e : wrS s a v = putS { s with cut := some (n - i - 1) } a v := by unfold wrS; rw [if_pos hacc, hc, Int.toNat_natCast]
      have hw : s.wear.getD a 0 ≤ i := h.fine.we a
      have hen := h.en
      rw [e] at hF ⊢
      refine ⟨⟨?_, ?_, h.en, by simp [putS, h.len], by simp [putS, h.wlen], ?_, ?_, hF, h.lt⟩, .inl ⟨by omega, ?_, ?_⟩⟩
      · show s.on = _; rw [h.on, decide_eq_true (by omega), decide_eq_true (by omega)]
      · show some (n - i - 1) = _; congr 1
      · show s.wr + 1 = _; rw [h.wr]; omega
      · show s.cu = _; rw [h.cu, if_pos (by omega), if_pos (by omega)]
      · unfold wrE; rw [if_pos hacc, hc, if_neg (by simp)]
      · show s.ws.set a (putV _ a v) = _
        unfold putV
        rw [if_neg (by show ¬ s.en < s.wear.getD a 0 + 1; omega)]

theorem Cst.new (n : Nat) (hn : n < 9223372036854775808) : Cst { st0 8 1000 with cut := some n } n 0 :=
  ⟨by simp [st0], by simp, rfl, rfl, rfl, by simp [st0], rfl, ⟨Nat.le_refl _, Nat.le_refl _, (Fine.new 8 1000 (by omega)).we, by show 1000 < _; omega, fun k e => by cases e; exact hn, (Fine.new 8 1000 (by omega)).ws⟩, hn⟩

theorem below_drewN' {B : Nat} {a w : World} (h : Below B a w) (n : Nat) : Below B a (w.drewN n) := ⟨h.os, h.tape, h.output, h.size, h.block⟩

set_option maxRecDepth 100000 in
set_option maxHeartbeats 12800000 in
theorem law_cut (n : Int) (l : List Cl) (v : Value) (w : World) (hn0 : I64 n) (h : CL w w.heap.size v l) (hx : ∀ x ∈ l, x.fit) :
    Calls Try.prog 4 #[.int .i64 n, v] w fun e w' => e = .returned (.bool true) ∧ Below w.heap.size w w' := by
  obtain ⟨A1, c1, rfl, h11, h12, h13⟩ := h
  obtain ⟨hn1, hn2⟩ := hn0
  unfold maxLen at h12
  by_cases hneg : n < 0
  · go_enter Try.func4, Try.ntmps4
    go_wp2
    go_ret
    exact ⟨rfl, Below.refl ..⟩
  by_cases hl : 30 < l.length
  · go_enter Try.func4, Try.ntmps4
    go_wp2
    go_ret
    exact ⟨rfl, Below.refl ..⟩
  obtain ⟨n, rfl⟩ : ∃ m : Nat, n = m := ⟨n.toNat, by omega⟩
  have HN := Lib.hid (new_ok 8 1000 w (by omega) (by omega) (by omega) (by omega))
  have HCU : Hid (∀ W b g, MA W b g (st0 8 1000) 0 → Calls Try.prog 13 #[.pointer (some ⟨b, 0, none⟩), .int .i64 (n : Int)] W fun e w' => e = .returned (.int .i64 0) ∧ (∃ lf', MA w' b g { st0 8 1000 with cut := some n } lf') ∧ Kp b g W w') := by
    intro W b g hW
    have := cut_any hW (n : Int)
    have e1 : cutE (st0 8 1000) (n : Int) = 0 := by unfold cutE; rw [if_neg (by simp [st0]), if_neg (by omega)]
    have e2 : cutS (st0 8 1000) (n : Int) = { st0 8 1000 with cut := some n } := by unfold cutS; rw [if_pos e1, Int.toNat_natCast]
    rw [e1, e2] at this
    exact this
  have H13 := Lib.hid h13
  have HXX := Lib.hid hx
  have hn3 : n < 9223372036854775808 := by omega
  have HNN := Lib.hid hn3
  clear h13 hx hn1 hn2 hn3
  go_enter Try.func4, Try.ntmps4
  go_wp2_with (first
    | (go_at_call 12; refine HN.out.mono ?_; rintro e w1 ⟨b, g, rfl, hma, hb, hg, hbel⟩; have HMA := Lib.hid hma; have HB1 := Lib.hid hbel; clear hma hbel)
    | (go_at_call 13; refine (HCU.out _ _ _ HMA.out).mono ?_; rintro e w2 ⟨rfl, hm2, hk2⟩))
  have hbel := HB1.out.trans (hk2.below hb hg HB1.out.size)
  go_loopw [7, 8] (fun gd i wr => ∃ (k : Nat) (s : St), k ≤ l.length ∧ i = .int .i64 k ∧ gd = .int .i64 ((min k n : Nat) : Int) ∧ (∃ lf, MA wr b g s lf) ∧ Cst s n k ∧ Below w.heap.size w wr) (fun _ i _ => l.length - (intOf i).toNat)
  case atStart => exact ⟨0, _, by omega, rfl, by simp, hm2, Cst.new n HNN.out, hbel⟩
  case round =>
    obtain ⟨k, s, hk, rfl, rfl, ⟨lf, hma⟩, hst, hbel⟩ := hrel
    by_cases h3 : k < l.length
    · obtain ⟨bl, o, rfl, hbl, hc⟩ := H13.out (by omega)
      have g1 := (hbel.cell (p := ⟨bl, o + k * 4 + 1, none⟩) hbl).trans (hc k h3).a
      have g3 := (hbel.cell (p := ⟨bl, o + k * 4 + 3, none⟩) hbl).trans (hc k h3).v
      have hfit : (l.getD k cl0).fit := by
        rw [List.getD_eq_getElem?_getD, List.getElem?_eq_getElem h3]
        exact HXX.out _ (List.getElem_mem h3)
      obtain ⟨_, ⟨f1, f2⟩, _, f3⟩ := hfit
      generalize (l.getD k cl0).a = A at *
      generalize (l.getD k cl0).v = x at *
      have HH := Lib.hid hma
      have HS := Lib.hid hst
      have HB := Lib.hid hbel
      have HC := Lib.hid hc
      clear hma hst hbel hc hk2 hm2
      have hA8 : ∃ aN : Nat, aN < 8 ∧ (A.tmod 8 = (aN : Int) ∨ (1 ≤ aN ∧ A.tmod 8 = -(aN : Int))) := by
        have h1 := Int.tmod_lt_of_pos A (show (0 : Int) < 8 by omega)
        have h2 : -8 < A.tmod 8 := by
          have h3 := Int.tmod_lt_of_pos (-A) (show (0 : Int) < 8 by omega)
          rw [Int.neg_tmod] at h3
          omega
        by_cases hs : 0 ≤ A.tmod 8
        · exact ⟨(A.tmod 8).toNat, by omega, .inl (by omega)⟩
        · exact ⟨(-(A.tmod 8)).toNat, by omega, .inr ⟨by omega, by omega⟩⟩
      obtain ⟨aN, ha8, hA⟩ := hA8
      obtain ⟨hT, hcase⟩ := HS.out.next (i := k) (by omega) aN x ha8 f3
      have HT := Lib.hid hT
      clear hT f1 f2
      rcases hcase with ⟨hkn, hE, hWS⟩ | ⟨hkn, hE, hWS⟩
      · have HE := Lib.hid hE
        have HWS := Lib.hid hWS
        clear hE hWS
        rw [show min k n = k by omega]
        rcases hA with hA | ⟨hA1, hA⟩
        · skip
          have HI1 : Hid (Calls Try.prog 14 #[.pointer (some ⟨b, 0, none⟩)] wr fun e w' => ∃ g', e = .returned (.slice (some ⟨g', 0, none⟩) 8 8) ∧ OW w' wr.heap.size (.slice (some ⟨g', 0, none⟩) 8 8) s.ws ∧ Below wr.heap.size wr w') := by
            have := image_any HH.out
            rw [HS.out.len] at this
            exact this
          have hltb := HH.out.ltb
          have hltg := HH.out.ltg
          go_wp2_with fail
          refine HI1.out.mono ?_
          rintro e w2 ⟨ga, rfl, how, hbw⟩
          have hga := how.base_le
          have hga2 : ga < w2.heap.size := (Array.getElem?_eq_some_iff.1 how.cells).1
          have hm2 := HH.out.on hbw
          have HW2 := Lib.hid (write_any hm2 HS.out.fine (by omega) (aN : Int) x (by omega) f3)
          have HB2 := Lib.hid (HB.out.trans (hbw.mono HB.out.size))
          have how1 : ∀ j, j < 8 → w2.cell? ⟨ga, j, none⟩ = some (.int .u32 ((s.ws.getD j 0 : Nat) : Int)) := fun j hj => how.cellAt j (by rw [HS.out.len]; exact hj)
          have HOW := Lib.hid how1
          have g13 := (hbw.cell (p := ⟨bl, o + k * 4 + 3, none⟩) (by show bl < _; have := HB.out.size; omega)).trans g3
          have hsz2 := hbw.size
          have HG13 := Lib.hid g13
          clear how how1 hm2 hbw g3 g1
          go_wp2_with fail
          refine HW2.out.mono ?_
          rintro e w3 ⟨rfl, ⟨lf3, hm3⟩, hk3⟩
          rw [HE.out]
          have HI3 : Hid (Calls Try.prog 14 #[.pointer (some ⟨b, 0, none⟩)] w3 fun e w' => ∃ g', e = .returned (.slice (some ⟨g', 0, none⟩) 8 8) ∧ OW w' w3.heap.size (.slice (some ⟨g', 0, none⟩) 8 8) (wrS s aN x).ws ∧ Below w3.heap.size w3 w') := by
            have := image_any hm3
            rw [HT.out.len] at this
            exact this
          have HM3 := Lib.hid hm3
          have HB3 := Lib.hid (HB2.out.trans (hk3.below hb hg HB2.out.size))
          have hsz3 := hk3.size
          have how3 : ∀ j, j < 8 → w3.cell? ⟨ga, j, none⟩ = some (.int .u32 ((s.ws.getD j 0 : Nat) : Int)) := fun j hj => (hk3.cell (p := ⟨ga, j, none⟩) hga2 (by show ga ≠ b; omega) (by show ga ≠ g; omega)).trans (HOW.out j hj)
          have g33 := (hk3.cell (p := ⟨bl, o + k * 4 + 3, none⟩) (by show bl < _; have := HB2.out.size; omega) (by show bl ≠ b; omega) (by show bl ≠ g; omega)).trans HG13.out
          have HOW3 := Lib.hid how3
          have HG33 := Lib.hid g33
          clear hm3 hk3 how3 g13 g33
          go_wp2_with fail
          refine HI3.out.mono ?_
          rintro e w4 ⟨gb, rfl, how, hbw⟩
          have HM4 := Lib.hid (HM3.out.on hbw)
          have HB4 := Lib.hid (HB3.out.trans (hbw.mono HB3.out.size))
          have how4 : ∀ j, j < 8 → w4.cell? ⟨ga, j, none⟩ = some (.int .u32 ((s.ws.getD j 0 : Nat) : Int)) := fun j hj => (hbw.cell (p := ⟨ga, j, none⟩) (by show ga < _; omega)).trans (HOW3.out j hj)
          have hnow4 : ∀ j, j < 8 → w4.cell? ⟨gb, j, none⟩ = some (.int .u32 (((wrS s aN x).ws.getD j 0 : Nat) : Int)) := fun j hj => how.cellAt j (by rw [HT.out.len]; exact hj)
          have g43 := (hbw.cell (p := ⟨bl, o + k * 4 + 3, none⟩) (by show bl < _; have := HB3.out.size; omega)).trans HG33.out
          have HOW4 := Lib.hid how4
          have HNW4 := Lib.hid hnow4
          clear how hbw how4 hnow4 hltb hltg hga hga2 hsz2 hsz3
          go_wp2
          go_loopw [13] (fun j wx => ∃ jn : Nat, jn ≤ 8 ∧ j = .int .i64 jn ∧ ∃ m, wx = w4.drewN m) (fun j _ => 8 - (intOf j).toNat)
          case atStart => exact ⟨0, by omega, rfl, by first | exact ⟨0, rfl⟩ | exact ⟨_, rfl⟩⟩
          case round =>
            obtain ⟨jn, hjn, rfl, m, rfl⟩ := hrel
            by_cases h8 : jn < 8
            · have x10 := HOW4.out jn h8
              have x12 := HNW4.out jn h8
              by_cases he : jn = aN
              · subst he
                have hy : (wrS s jn x).ws.getD jn 0 = x := by
                  rw [HWS.out, List.getD_eq_getElem?_getD, List.getElem?_set_self (by rw [HS.out.len]; omega)]; rfl
                rw [hy] at x12
                generalize s.ws.getD jn 0 = y10 at *
                clear hy
                go_wp2
                go_quiet (fail)
                go_wp2
                go_roundw
                case rel => exact ⟨jn + 1, by omega, by go_num, by first | exact ⟨_, rfl⟩ | (simp only [World.drewN_drewN]; exact ⟨_, rfl⟩)⟩
                case measure => simp [intOf]; omega
              · have hy : (wrS s aN x).ws.getD jn 0 = s.ws.getD jn 0 := by
                  rw [HWS.out, List.getD_eq_getElem?_getD, List.getElem?_set_ne (by omega), List.getD_eq_getElem?_getD]
                rw [hy] at x12
                generalize s.ws.getD jn 0 = y10 at *
                have hne0 : ¬ (jn : Int) = (aN : Int) := by omega
                have hne1 : ((jn : Int) != (aN : Int)) = true := bne_iff_ne.2 hne0
                have hne2 : ((jn : Int) == (aN : Int)) = false := beq_eq_false_iff_ne.2 hne0
                have hne3 : decide ((jn : Int) = (aN : Int)) = false := decide_eq_false hne0
                clear hy
                go_wp2
                go_quiet (fail)
                go_wp2
                go_roundw
                case rel => exact ⟨jn + 1, by omega, by go_num, by first | exact ⟨_, rfl⟩ | (simp only [World.drewN_drewN]; exact ⟨_, rfl⟩)⟩
                case measure => simp [intOf]; omega
            · obtain rfl : jn = 8 := by omega
              go_wp2
              go_roundw
              case rel => exact ⟨k + 1, wrS s aN x, by omega, by go_num, by rw [show min (k + 1) n = k + 1 by omega]; go_num, ⟨lf3, HM4.out.drewN m⟩, HT.out, below_drewN' HB4.out m⟩
              case measure => simp [intOf]; omega
        · skip
          have HI1 : Hid (Calls Try.prog 14 #[.pointer (some ⟨b, 0, none⟩)] wr fun e w' => ∃ g', e = .returned (.slice (some ⟨g', 0, none⟩) 8 8) ∧ OW w' wr.heap.size (.slice (some ⟨g', 0, none⟩) 8 8) s.ws ∧ Below wr.heap.size wr w') := by
            have := image_any HH.out
            rw [HS.out.len] at this
            exact this
          have hltb := HH.out.ltb
          have hltg := HH.out.ltg
          go_wp2_with fail
          refine HI1.out.mono ?_
          rintro e w2 ⟨ga, rfl, how, hbw⟩
          have hga := how.base_le
          have hga2 : ga < w2.heap.size := (Array.getElem?_eq_some_iff.1 how.cells).1
          have hm2 := HH.out.on hbw
          have HW2 := Lib.hid (write_any hm2 HS.out.fine (by omega) (aN : Int) x (by omega) f3)
          have HB2 := Lib.hid (HB.out.trans (hbw.mono HB.out.size))
          have how1 : ∀ j, j < 8 → w2.cell? ⟨ga, j, none⟩ = some (.int .u32 ((s.ws.getD j 0 : Nat) : Int)) := fun j hj => how.cellAt j (by rw [HS.out.len]; exact hj)
          have HOW := Lib.hid how1
          have g13 := (hbw.cell (p := ⟨bl, o + k * 4 + 3, none⟩) (by show bl < _; have := HB.out.size; omega)).trans g3
          have hsz2 := hbw.size
          have HG13 := Lib.hid g13
          clear how how1 hm2 hbw g3 g1
          go_wp2_with fail
          refine HW2.out.mono ?_
          rintro e w3 ⟨rfl, ⟨lf3, hm3⟩, hk3⟩
          rw [HE.out]
          have HI3 : Hid (Calls Try.prog 14 #[.pointer (some ⟨b, 0, none⟩)] w3 fun e w' => ∃ g', e = .returned (.slice (some ⟨g', 0, none⟩) 8 8) ∧ OW w' w3.heap.size (.slice (some ⟨g', 0, none⟩) 8 8) (wrS s aN x).ws ∧ Below w3.heap.size w3 w') := by
            have := image_any hm3
            rw [HT.out.len] at this
            exact this
          have HM3 := Lib.hid hm3
          have HB3 := Lib.hid (HB2.out.trans (hk3.below hb hg HB2.out.size))
          have hsz3 := hk3.size
          have how3 : ∀ j, j < 8 → w3.cell? ⟨ga, j, none⟩ = some (.int .u32 ((s.ws.getD j 0 : Nat) : Int)) := fun j hj => (hk3.cell (p := ⟨ga, j, none⟩) hga2 (by show ga ≠ b; omega) (by show ga ≠ g; omega)).trans (HOW.out j hj)
          have g33 := (hk3.cell (p := ⟨bl, o + k * 4 + 3, none⟩) (by show bl < _; have := HB2.out.size; omega) (by show bl ≠ b; omega) (by show bl ≠ g; omega)).trans HG13.out
          have HOW3 := Lib.hid how3
          have HG33 := Lib.hid g33
          clear hm3 hk3 how3 g13 g33
          go_wp2_with fail
          refine HI3.out.mono ?_
          rintro e w4 ⟨gb, rfl, how, hbw⟩
          have HM4 := Lib.hid (HM3.out.on hbw)
          have HB4 := Lib.hid (HB3.out.trans (hbw.mono HB3.out.size))
          have how4 : ∀ j, j < 8 → w4.cell? ⟨ga, j, none⟩ = some (.int .u32 ((s.ws.getD j 0 : Nat) : Int)) := fun j hj => (hbw.cell (p := ⟨ga, j, none⟩) (by show ga < _; omega)).trans (HOW3.out j hj)
          have hnow4 : ∀ j, j < 8 → w4.cell? ⟨gb, j, none⟩ = some (.int .u32 (((wrS s aN x).ws.getD j 0 : Nat) : Int)) := fun j hj => how.cellAt j (by rw [HT.out.len]; exact hj)
          have g43 := (hbw.cell (p := ⟨bl, o + k * 4 + 3, none⟩) (by show bl < _; have := HB3.out.size; omega)).trans HG33.out
          have HOW4 := Lib.hid how4
          have HNW4 := Lib.hid hnow4
          clear how hbw how4 hnow4 hltb hltg hga hga2 hsz2 hsz3
          go_wp2
          go_loopw [13] (fun j wx => ∃ jn : Nat, jn ≤ 8 ∧ j = .int .i64 jn ∧ ∃ m, wx = w4.drewN m) (fun j _ => 8 - (intOf j).toNat)
          case atStart => exact ⟨0, by omega, rfl, by first | exact ⟨0, rfl⟩ | exact ⟨_, rfl⟩⟩
          case round =>
            obtain ⟨jn, hjn, rfl, m, rfl⟩ := hrel
            by_cases h8 : jn < 8
            · have x10 := HOW4.out jn h8
              have x12 := HNW4.out jn h8
              by_cases he : jn = aN
              · subst he
                have hy : (wrS s jn x).ws.getD jn 0 = x := by
                  rw [HWS.out, List.getD_eq_getElem?_getD, List.getElem?_set_self (by rw [HS.out.len]; omega)]; rfl
                rw [hy] at x12
                generalize s.ws.getD jn 0 = y10 at *
                clear hy
                go_wp2
                go_quiet (fail)
                go_wp2
                go_roundw
                case rel => exact ⟨jn + 1, by omega, by go_num, by first | exact ⟨_, rfl⟩ | (simp only [World.drewN_drewN]; exact ⟨_, rfl⟩)⟩
                case measure => simp [intOf]; omega
              · have hy : (wrS s aN x).ws.getD jn 0 = s.ws.getD jn 0 := by
                  rw [HWS.out, List.getD_eq_getElem?_getD, List.getElem?_set_ne (by omega), List.getD_eq_getElem?_getD]
                rw [hy] at x12
                generalize s.ws.getD jn 0 = y10 at *
                have hne0 : ¬ (jn : Int) = (aN : Int) := by omega
                have hne1 : ((jn : Int) != (aN : Int)) = true := bne_iff_ne.2 hne0
                have hne2 : ((jn : Int) == (aN : Int)) = false := beq_eq_false_iff_ne.2 hne0
                have hne3 : decide ((jn : Int) = (aN : Int)) = false := decide_eq_false hne0
                clear hy
                go_wp2
                go_quiet (fail)
                go_wp2
                go_roundw
                case rel => exact ⟨jn + 1, by omega, by go_num, by first | exact ⟨_, rfl⟩ | (simp only [World.drewN_drewN]; exact ⟨_, rfl⟩)⟩
                case measure => simp [intOf]; omega
            · obtain rfl : jn = 8 := by omega
              go_wp2
              go_roundw
              case rel => exact ⟨k + 1, wrS s aN x, by omega, by go_num, by rw [show min (k + 1) n = k + 1 by omega]; go_num, ⟨lf3, HM4.out.drewN m⟩, HT.out, below_drewN' HB4.out m⟩
              case measure => simp [intOf]; omega
      · have HE := Lib.hid hE
        have HWS := Lib.hid hWS
        clear hE hWS
        rw [show min k n = n by omega]
        rcases hA with hA | ⟨hA1, hA⟩
        · skip
          have HI1 : Hid (Calls Try.prog 14 #[.pointer (some ⟨b, 0, none⟩)] wr fun e w' => ∃ g', e = .returned (.slice (some ⟨g', 0, none⟩) 8 8) ∧ OW w' wr.heap.size (.slice (some ⟨g', 0, none⟩) 8 8) s.ws ∧ Below wr.heap.size wr w') := by
            have := image_any HH.out
            rw [HS.out.len] at this
            exact this
          have hltb := HH.out.ltb
          have hltg := HH.out.ltg
          go_wp2_with fail
          refine HI1.out.mono ?_
          rintro e w2 ⟨ga, rfl, how, hbw⟩
          have hga := how.base_le
          have hga2 : ga < w2.heap.size := (Array.getElem?_eq_some_iff.1 how.cells).1
          have hm2 := HH.out.on hbw
          have HW2 := Lib.hid (write_any hm2 HS.out.fine (by omega) (aN : Int) x (by omega) f3)
          have HB2 := Lib.hid (HB.out.trans (hbw.mono HB.out.size))
          have how1 : ∀ j, j < 8 → w2.cell? ⟨ga, j, none⟩ = some (.int .u32 ((s.ws.getD j 0 : Nat) : Int)) := fun j hj => how.cellAt j (by rw [HS.out.len]; exact hj)
          have HOW := Lib.hid how1
          have g13 := (hbw.cell (p := ⟨bl, o + k * 4 + 3, none⟩) (by show bl < _; have := HB.out.size; omega)).trans g3
          have hsz2 := hbw.size
          have HG13 := Lib.hid g13
          clear how how1 hm2 hbw g3 g1
          go_wp2_with fail
          refine HW2.out.mono ?_
          rintro e w3 ⟨rfl, ⟨lf3, hm3⟩, hk3⟩
          rw [HE.out]
          have HI3 : Hid (Calls Try.prog 14 #[.pointer (some ⟨b, 0, none⟩)] w3 fun e w' => ∃ g', e = .returned (.slice (some ⟨g', 0, none⟩) 8 8) ∧ OW w' w3.heap.size (.slice (some ⟨g', 0, none⟩) 8 8) (wrS s aN x).ws ∧ Below w3.heap.size w3 w') := by
            have := image_any hm3
            rw [HT.out.len] at this
            exact this
          have HM3 := Lib.hid hm3
          have HB3 := Lib.hid (HB2.out.trans (hk3.below hb hg HB2.out.size))
          have hsz3 := hk3.size
          have how3 : ∀ j, j < 8 → w3.cell? ⟨ga, j, none⟩ = some (.int .u32 ((s.ws.getD j 0 : Nat) : Int)) := fun j hj => (hk3.cell (p := ⟨ga, j, none⟩) hga2 (by show ga ≠ b; omega) (by show ga ≠ g; omega)).trans (HOW.out j hj)
          have g33 := (hk3.cell (p := ⟨bl, o + k * 4 + 3, none⟩) (by show bl < _; have := HB2.out.size; omega) (by show bl ≠ b; omega) (by show bl ≠ g; omega)).trans HG13.out
          have HOW3 := Lib.hid how3
          have HG33 := Lib.hid g33
          clear hm3 hk3 how3 g13 g33
          go_wp2_with fail
          refine HI3.out.mono ?_
          rintro e w4 ⟨gb, rfl, how, hbw⟩
          have HM4 := Lib.hid (HM3.out.on hbw)
          have HB4 := Lib.hid (HB3.out.trans (hbw.mono HB3.out.size))
          have how4 : ∀ j, j < 8 → w4.cell? ⟨ga, j, none⟩ = some (.int .u32 ((s.ws.getD j 0 : Nat) : Int)) := fun j hj => (hbw.cell (p := ⟨ga, j, none⟩) (by show ga < _; omega)).trans (HOW3.out j hj)
          have hnow4 : ∀ j, j < 8 → w4.cell? ⟨gb, j, none⟩ = some (.int .u32 (((wrS s aN x).ws.getD j 0 : Nat) : Int)) := fun j hj => how.cellAt j (by rw [HT.out.len]; exact hj)
          have g43 := (hbw.cell (p := ⟨bl, o + k * 4 + 3, none⟩) (by show bl < _; have := HB3.out.size; omega)).trans HG33.out
          have HOW4 := Lib.hid how4
          have HNW4 := Lib.hid hnow4
          clear how hbw how4 hnow4 hltb hltg hga hga2 hsz2 hsz3
          go_wp2
          go_loopw [13] (fun j wx => ∃ jn : Nat, jn ≤ 8 ∧ j = .int .i64 jn ∧ ∃ m, wx = w4.drewN m) (fun j _ => 8 - (intOf j).toNat)
          case atStart => exact ⟨0, by omega, rfl, by first | exact ⟨0, rfl⟩ | exact ⟨_, rfl⟩⟩
          case round =>
            obtain ⟨jn, hjn, rfl, m, rfl⟩ := hrel
            by_cases h8 : jn < 8
            · have x10 := HOW4.out jn h8
              have x12 := HNW4.out jn h8
              by_cases he : jn = aN
              · subst he
                rw [HWS.out] at x12
                generalize s.ws.getD jn 0 = y10 at *
                go_wp2
                go_quiet (fail)
                go_wp2
                go_roundw
                case rel => exact ⟨jn + 1, by omega, by go_num, by first | exact ⟨_, rfl⟩ | (simp only [World.drewN_drewN]; exact ⟨_, rfl⟩)⟩
                case measure => simp [intOf]; omega
              · rw [HWS.out] at x12
                generalize s.ws.getD jn 0 = y10 at *
                have hne0 : ¬ (jn : Int) = (aN : Int) := by omega
                have hne1 : ((jn : Int) != (aN : Int)) = true := bne_iff_ne.2 hne0
                have hne2 : ((jn : Int) == (aN : Int)) = false := beq_eq_false_iff_ne.2 hne0
                have hne3 : decide ((jn : Int) = (aN : Int)) = false := decide_eq_false hne0
                go_wp2
                go_quiet (fail)
                go_wp2
                go_roundw
                case rel => exact ⟨jn + 1, by omega, by go_num, by first | exact ⟨_, rfl⟩ | (simp only [World.drewN_drewN]; exact ⟨_, rfl⟩)⟩
                case measure => simp [intOf]; omega
            · obtain rfl : jn = 8 := by omega
              go_wp2
              go_roundw
              case rel => exact ⟨k + 1, wrS s aN x, by omega, by go_num, by rw [show min (k + 1) n = n by omega], ⟨lf3, HM4.out.drewN m⟩, HT.out, below_drewN' HB4.out m⟩
              case measure => simp [intOf]; omega
        · skip
          have HI1 : Hid (Calls Try.prog 14 #[.pointer (some ⟨b, 0, none⟩)] wr fun e w' => ∃ g', e = .returned (.slice (some ⟨g', 0, none⟩) 8 8) ∧ OW w' wr.heap.size (.slice (some ⟨g', 0, none⟩) 8 8) s.ws ∧ Below wr.heap.size wr w') := by
            have := image_any HH.out
            rw [HS.out.len] at this
            exact this
          have hltb := HH.out.ltb
          have hltg := HH.out.ltg
          go_wp2_with fail
          refine HI1.out.mono ?_
          rintro e w2 ⟨ga, rfl, how, hbw⟩
          have hga := how.base_le
          have hga2 : ga < w2.heap.size := (Array.getElem?_eq_some_iff.1 how.cells).1
          have hm2 := HH.out.on hbw
          have HW2 := Lib.hid (write_any hm2 HS.out.fine (by omega) (aN : Int) x (by omega) f3)
          have HB2 := Lib.hid (HB.out.trans (hbw.mono HB.out.size))
          have how1 : ∀ j, j < 8 → w2.cell? ⟨ga, j, none⟩ = some (.int .u32 ((s.ws.getD j 0 : Nat) : Int)) := fun j hj => how.cellAt j (by rw [HS.out.len]; exact hj)
          have HOW := Lib.hid how1
          have g13 := (hbw.cell (p := ⟨bl, o + k * 4 + 3, none⟩) (by show bl < _; have := HB.out.size; omega)).trans g3
          have hsz2 := hbw.size
          have HG13 := Lib.hid g13
          clear how how1 hm2 hbw g3 g1
          go_wp2_with fail
          refine HW2.out.mono ?_
          rintro e w3 ⟨rfl, ⟨lf3, hm3⟩, hk3⟩
          rw [HE.out]
          have HI3 : Hid (Calls Try.prog 14 #[.pointer (some ⟨b, 0, none⟩)] w3 fun e w' => ∃ g', e = .returned (.slice (some ⟨g', 0, none⟩) 8 8) ∧ OW w' w3.heap.size (.slice (some ⟨g', 0, none⟩) 8 8) (wrS s aN x).ws ∧ Below w3.heap.size w3 w') := by
            have := image_any hm3
            rw [HT.out.len] at this
            exact this
          have HM3 := Lib.hid hm3
          have HB3 := Lib.hid (HB2.out.trans (hk3.below hb hg HB2.out.size))
          have hsz3 := hk3.size
          have how3 : ∀ j, j < 8 → w3.cell? ⟨ga, j, none⟩ = some (.int .u32 ((s.ws.getD j 0 : Nat) : Int)) := fun j hj => (hk3.cell (p := ⟨ga, j, none⟩) hga2 (by show ga ≠ b; omega) (by show ga ≠ g; omega)).trans (HOW.out j hj)
          have g33 := (hk3.cell (p := ⟨bl, o + k * 4 + 3, none⟩) (by show bl < _; have := HB2.out.size; omega) (by show bl ≠ b; omega) (by show bl ≠ g; omega)).trans HG13.out
          have HOW3 := Lib.hid how3
          have HG33 := Lib.hid g33
          clear hm3 hk3 how3 g13 g33
          go_wp2_with fail
          refine HI3.out.mono ?_
          rintro e w4 ⟨gb, rfl, how, hbw⟩
          have HM4 := Lib.hid (HM3.out.on hbw)
          have HB4 := Lib.hid (HB3.out.trans (hbw.mono HB3.out.size))
          have how4 : ∀ j, j < 8 → w4.cell? ⟨ga, j, none⟩ = some (.int .u32 ((s.ws.getD j 0 : Nat) : Int)) := fun j hj => (hbw.cell (p := ⟨ga, j, none⟩) (by show ga < _; omega)).trans (HOW3.out j hj)
          have hnow4 : ∀ j, j < 8 → w4.cell? ⟨gb, j, none⟩ = some (.int .u32 (((wrS s aN x).ws.getD j 0 : Nat) : Int)) := fun j hj => how.cellAt j (by rw [HT.out.len]; exact hj)
          have g43 := (hbw.cell (p := ⟨bl, o + k * 4 + 3, none⟩) (by show bl < _; have := HB3.out.size; omega)).trans HG33.out
          have HOW4 := Lib.hid how4
          have HNW4 := Lib.hid hnow4
          clear how hbw how4 hnow4 hltb hltg hga hga2 hsz2 hsz3
          go_wp2
          go_loopw [13] (fun j wx => ∃ jn : Nat, jn ≤ 8 ∧ j = .int .i64 jn ∧ ∃ m, wx = w4.drewN m) (fun j _ => 8 - (intOf j).toNat)
          case atStart => exact ⟨0, by omega, rfl, by first | exact ⟨0, rfl⟩ | exact ⟨_, rfl⟩⟩
          case round =>
            obtain ⟨jn, hjn, rfl, m, rfl⟩ := hrel
            by_cases h8 : jn < 8
            · have x10 := HOW4.out jn h8
              have x12 := HNW4.out jn h8
              by_cases he : jn = aN
              · subst he
                rw [HWS.out] at x12
                generalize s.ws.getD jn 0 = y10 at *
                go_wp2
                go_quiet (fail)
                go_wp2
                go_roundw
                case rel => exact ⟨jn + 1, by omega, by go_num, by first | exact ⟨_, rfl⟩ | (simp only [World.drewN_drewN]; exact ⟨_, rfl⟩)⟩
                case measure => simp [intOf]; omega
              · rw [HWS.out] at x12
                generalize s.ws.getD jn 0 = y10 at *
                have hne0 : ¬ (jn : Int) = (aN : Int) := by omega
                have hne1 : ((jn : Int) != (aN : Int)) = true := bne_iff_ne.2 hne0
                have hne2 : ((jn : Int) == (aN : Int)) = false := beq_eq_false_iff_ne.2 hne0
                have hne3 : decide ((jn : Int) = (aN : Int)) = false := decide_eq_false hne0
                go_wp2
                go_quiet (fail)
                go_wp2
                go_roundw
                case rel => exact ⟨jn + 1, by omega, by go_num, by first | exact ⟨_, rfl⟩ | (simp only [World.drewN_drewN]; exact ⟨_, rfl⟩)⟩
                case measure => simp [intOf]; omega
            · obtain rfl : jn = 8 := by omega
              go_wp2
              go_roundw
              case rel => exact ⟨k + 1, wrS s aN x, by omega, by go_num, by rw [show min (k + 1) n = n by omega], ⟨lf3, HM4.out.drewN m⟩, HT.out, below_drewN' HB4.out m⟩
              case measure => simp [intOf]; omega
    · obtain rfl : k = l.length := by omega
      have HFI := Lib.hid hst.fine.restore
      have HE5 : Hid (wrE (resS s) 0 = 0) := by
        have hl8 := hst.len
        have ha : accE (resS s) 0 = 0 := by unfold accE; rw [if_neg (by simp [resS]), if_pos (by show 0 ≤ (0 : Int) ∧ (0 : Int) < (s.ws.length : Int); omega)]
        show _ = _
        unfold wrE
        rw [if_pos ha, if_neg (by simp [resS])]
      by_cases hcut : l.length ≤ n
      · skip
        have HP := power_any hma
        rw [hst.on, decide_eq_true hcut] at HP
        have HWR := writes_any hma
        rw [hst.wr, show min l.length n = l.length by omega] at HWR
        have HCT := cuts_any hma
        rw [hst.cu, if_pos hcut] at HCT
        have HCT : Calls Try.prog 18 #[.pointer (some ⟨b, 0, none⟩)] wr fun e w' => e = .returned (.int .i64 0) ∧ w' = wr := HCT
        have HRS := Lib.hid (restore_any hma)
        have HP := Lib.hid HP
        have HWR := Lib.hid HWR
        have HCT := Lib.hid HCT
        have HB := Lib.hid hbel
        rw [show min l.length n = l.length by omega]
        clear hma hst hbel hk2 hm2
        go_wp2_with (first
          | (fail)
          | (go_at_call 16; refine HP.out.mono ?_; rintro e w2 ⟨rfl, e⟩; have e := e.symm; subst e)
          | (go_at_call 17; refine HWR.out.mono ?_; rintro e w2 ⟨rfl, e⟩; have e := e.symm; subst e)
          | (go_at_call 18; refine HCT.out.mono ?_; rintro e w2 ⟨rfl, e⟩; have e := e.symm; subst e))
        refine HRS.out.mono ?_
        rintro e w5 ⟨rfl, hm5, hk5⟩
        have HB5 := Lib.hid (HB.out.trans (hk5.below hb hg HB.out.size))
        have HP5 := power_any hm5
        have HW5 := write_any hm5 HFI.out (by omega) 0 1 (by omega) (by omega)
        rw [HE5.out] at HW5
        have HP5 : Calls Try.prog 16 #[.pointer (some ⟨b, 0, none⟩)] w5 fun e w' => e = .returned (.bool true) ∧ w' = w5 := HP5
        have HP5 := Lib.hid HP5
        have HW5 := Lib.hid HW5
        clear hm5 hk5
        go_wp2_with fail
        refine HP5.out.mono ?_
        rintro e w6 ⟨rfl, e⟩
        have e := e.symm
        subst e
        go_wp2_with fail
        refine HW5.out.mono ?_
        rintro e w6 ⟨rfl, hm6, hk6⟩
        have HB6 := Lib.hid (HB5.out.trans (hk6.below hb hg HB5.out.size))
        have HAW := Lib.hid (awake_any w6)
        clear hm6 hk6
        go_wp2_with (go_at_call 9; refine HAW.out.mono ?_; rintro e w7 ⟨rfl, hb7⟩)
        go_ret
        exact ⟨rfl, HB6.out.trans (hb7.mono HB6.out.size)⟩
      · skip
        have HP := power_any hma
        rw [hst.on, decide_eq_false hcut] at HP
        have HWR := writes_any hma
        rw [hst.wr, show min l.length n = n by omega] at HWR
        have HCT := cuts_any hma
        rw [hst.cu, if_neg hcut] at HCT
        have HCT : Calls Try.prog 18 #[.pointer (some ⟨b, 0, none⟩)] wr fun e w' => e = .returned (.int .i64 1) ∧ w' = wr := HCT
        have HRS := Lib.hid (restore_any hma)
        have HP := Lib.hid HP
        have HWR := Lib.hid HWR
        have HCT := Lib.hid HCT
        have HB := Lib.hid hbel
        rw [show min l.length n = n by omega]
        clear hma hst hbel hk2 hm2
        go_wp2_with (first
          | (fail)
          | (go_at_call 16; refine HP.out.mono ?_; rintro e w2 ⟨rfl, e⟩; have e := e.symm; subst e)
          | (go_at_call 17; refine HWR.out.mono ?_; rintro e w2 ⟨rfl, e⟩; have e := e.symm; subst e)
          | (go_at_call 18; refine HCT.out.mono ?_; rintro e w2 ⟨rfl, e⟩; have e := e.symm; subst e))
        refine HRS.out.mono ?_
        rintro e w5 ⟨rfl, hm5, hk5⟩
        have HB5 := Lib.hid (HB.out.trans (hk5.below hb hg HB.out.size))
        have HP5 := power_any hm5
        have HW5 := write_any hm5 HFI.out (by omega) 0 1 (by omega) (by omega)
        rw [HE5.out] at HW5
        have HP5 : Calls Try.prog 16 #[.pointer (some ⟨b, 0, none⟩)] w5 fun e w' => e = .returned (.bool true) ∧ w' = w5 := HP5
        have HP5 := Lib.hid HP5
        have HW5 := Lib.hid HW5
        clear hm5 hk5
        go_wp2_with fail
        refine HP5.out.mono ?_
        rintro e w6 ⟨rfl, e⟩
        have e := e.symm
        subst e
        go_wp2_with fail
        refine HW5.out.mono ?_
        rintro e w6 ⟨rfl, hm6, hk6⟩
        have HB6 := Lib.hid (HB5.out.trans (hk6.below hb hg HB5.out.size))
        have HAW := Lib.hid (awake_any w6)
        clear hm6 hk6
        go_wp2_with (go_at_call 9; refine HAW.out.mono ?_; rintro e w7 ⟨rfl, hb7⟩)
        go_ret
        exact ⟨rfl, HB6.out.trans (hb7.mono HB6.out.size)⟩
end Go.Proofs.Ytcojoohbhkhlnaa
