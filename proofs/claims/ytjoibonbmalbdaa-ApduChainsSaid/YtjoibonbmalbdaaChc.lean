/-
  Chain of the program, for a command that is divided.
-/
import Derived.Test.YtjoibonbmalbdaaChb
namespace Go.Proofs.Ytjoibonbmalbdaa
set_option linter.unusedVariables false
set_option linter.unusedSimpArgs false
open Go.RowKit

/-- make([]Command, n). -/
theorem wpList_mkM {ops : Array Oper} {rest : List Oper} {o : Oper} {a : Act} {w : World} {Q : Exit → Act → World → Prop} (hgd : o.guard = none) (l c : Operand) (ho : o.op = Op.makeSlice 53 l c)
    (kl kc : IntKind) (L C : Int) (n : Nat) (hl : a.eval l = .int kl L) (hc : a.eval c = .int kc C) (hL : L = (n : Int)) (hC : C = (n : Int)) (hn : n ≤ 1000000)
    (h : ∀ w' cs, w'.heap[w.heap.size]? = some (.cells cs 24 (0, 0)) → cs.size = n * 7 → Below w.heap.size w w' → wpList Try.prog ops Q rest (a.put o.dst (.slice (some ⟨w.heap.size, 0, none⟩) n n)) w') : wpList Try.prog ops Q (o :: rest) a w := by
  obtain ⟨i0, hi0, hz0, hz1, hz2⟩ := info_parts info24
  refine wpList_make_full w hgd l c 53 ho w.heap.size 24 i0 (.agg #[.int .i64 0, .int .i64 0, .int .i64 0, .int .i64 0, .slice none 0 0, .int .i64 0, .bool false]) 7 Try.underlying53 hi0 hz0 hz1 kl kc L C n hl hc hL hC (by rw [hz2]; omega) (by simp only [maxLen]; omega) (Nat.le_refl _) fun w' h1 h2 => ?_
  rcases h1.2 with ⟨h', _⟩ | ⟨g, cap, cur, hv, hb, hg, hn', hm, hs, ht⟩
  · cases h'
  · simp only [Value.slice.injEq, Option.some.injEq, Addr.mk.injEq, and_true, true_and] at hv
    obtain ⟨rfl, rfl⟩ := hv
    exact h w' cur hg hs ((Below.refl _ _).grown h2 (Nat.le_refl _) (fun k hk => by cases hk))

theorem set7_arr (cs : Array Value) (q : Nat) (x0 x1 x2 x3 x4 x5 x6 : Value) (h : q + 7 ≤ cs.size) :
    ((((((((cs.setIfInBounds q x0).setIfInBounds (q + 1) x1).setIfInBounds (q + 2) x2).setIfInBounds (q + 3) x3).setIfInBounds (q + 4) x4).setIfInBounds (q + 5) x5).setIfInBounds (q + 6) x6).size = cs.size) ∧
    (∀ j, j < 7 → (((((((cs.setIfInBounds q x0).setIfInBounds (q + 1) x1).setIfInBounds (q + 2) x2).setIfInBounds (q + 3) x3).setIfInBounds (q + 4) x4).setIfInBounds (q + 5) x5).setIfInBounds (q + 6) x6)[q + j]? = [x0, x1, x2, x3, x4, x5, x6][j]?) ∧
    (∀ p, p < q → (((((((cs.setIfInBounds q x0).setIfInBounds (q + 1) x1).setIfInBounds (q + 2) x2).setIfInBounds (q + 3) x3).setIfInBounds (q + 4) x4).setIfInBounds (q + 5) x5).setIfInBounds (q + 6) x6)[p]? = cs[p]?) := by
  refine ⟨by simp, fun j hj => ?_, fun p hp => ?_⟩
  · have h7 : j = 0 ∨ j = 1 ∨ j = 2 ∨ j = 3 ∨ j = 4 ∨ j = 5 ∨ j = 6 := by omega
    rcases h7 with rfl | rfl | rfl | rfl | rfl | rfl | rfl <;> simp [Array.getElem?_setIfInBounds] <;> omega
  · simp only [Array.getElem?_setIfInBounds]
    repeat rw [if_neg (by omega)]
theorem set7_heap (w : World) (g q : Nat) (cs : Array Value) (x0 x1 x2 x3 x4 x5 x6 : Value) (hg : w.heap[g]? = some (.cells cs 24 (0, 0))) :
    (((((((w.setCell ⟨g, q, none⟩ x0).setCell ⟨g, q + 1, none⟩ x1).setCell ⟨g, q + 2, none⟩ x2).setCell ⟨g, q + 3, none⟩ x3).setCell ⟨g, q + 4, none⟩ x4).setCell ⟨g, q + 5, none⟩ x5).setCell ⟨g, q + 6, none⟩ x6).heap[g]? =
      some (.cells (((((((cs.setIfInBounds q x0).setIfInBounds (q + 1) x1).setIfInBounds (q + 2) x2).setIfInBounds (q + 3) x3).setIfInBounds (q + 4) x4).setIfInBounds (q + 5) x5).setIfInBounds (q + 6) x6) 24 (0, 0)) := by
  have h0 := heap_setCell_same w g q _ 24 x0 hg
  have h1 := heap_setCell_same _ g (q + 1) _ 24 x1 h0
  have h2 := heap_setCell_same _ g (q + 2) _ 24 x2 h1
  have h3 := heap_setCell_same _ g (q + 3) _ 24 x3 h2
  have h4 := heap_setCell_same _ g (q + 4) _ 24 x4 h3
  have h5 := heap_setCell_same _ g (q + 5) _ 24 x5 h4
  exact heap_setCell_same _ g (q + 6) _ 24 x6 h5

theorem set7_belowq {w W : World} {B g q : Nat} {x0 x1 x2 x3 x4 x5 x6 : Value} (hb : Below B w W) (hg : B ≤ g) :
    Below B w (((((((W.setCell ⟨g, q, none⟩ x0).setCell ⟨g, q + 1, none⟩ x1).setCell ⟨g, q + 2, none⟩ x2).setCell ⟨g, q + 3, none⟩ x3).setCell ⟨g, q + 4, none⟩ x4).setCell ⟨g, q + 5, none⟩ x5).setCell ⟨g, q + 6, none⟩ x6) :=
  ((((((hb.setCell (p := ⟨g, q, none⟩) hg _).setCell (p := ⟨g, q + 1, none⟩) hg _).setCell (p := ⟨g, q + 2, none⟩) hg _).setCell (p := ⟨g, q + 3, none⟩) hg _).setCell (p := ⟨g, q + 4, none⟩) hg _).setCell (p := ⟨g, q + 5, none⟩) hg _).setCell (p := ⟨g, q + 6, none⟩) hg _
theorem keep3 (W : World) (p : Addr) (u : Value) {g : Nat} {x0 x5 x6 : Value} (hne : g ≠ p.block) (h : W.cell? ⟨g, 0, none⟩ = some x0 ∧ W.cell? ⟨g, 5, none⟩ = some x5 ∧ W.cell? ⟨g, 6, none⟩ = some x6) :
    (W.setCell p u).cell? ⟨g, 0, none⟩ = some x0 ∧ (W.setCell p u).cell? ⟨g, 5, none⟩ = some x5 ∧ (W.setCell p u).cell? ⟨g, 6, none⟩ = some x6 :=
  ⟨(far_set W u (q := ⟨g, 0, none⟩) hne).trans h.1, (far_set W u (q := ⟨g, 5, none⟩) hne).trans h.2.1, (far_set W u (q := ⟨g, 6, none⟩) hne).trans h.2.2⟩
theorem set3_arr (cs : Array Value) (q : Nat) (x y z : Value) (h : q + 7 ≤ cs.size) :
    (∀ p, p < q → (((cs.setIfInBounds q x).setIfInBounds (q + 5) y).setIfInBounds (q + 6) z)[p]? = cs[p]?) ∧
    (∀ j, j < 7 → (((cs.setIfInBounds q x).setIfInBounds (q + 5) y).setIfInBounds (q + 6) z)[q + j]? = if j = 0 then some x else if j = 5 then some y else if j = 6 then some z else cs[q + j]?) := by
  refine ⟨fun p hp => ?_, fun j hj => ?_⟩
  · simp only [Array.getElem?_setIfInBounds]
    repeat rw [if_neg (by omega)]
  · have h7 : j = 0 ∨ j = 1 ∨ j = 2 ∨ j = 3 ∨ j = 4 ∨ j = 5 ∨ j = 6 := by omega
    rcases h7 with rfl | rfl | rfl | rfl | rfl | rfl | rfl <;> simp [Array.getElem?_setIfInBounds] <;> omega
theorem splitL_count (n : Nat) (hn : 1 ≤ n) : ∀ (f : Nat) (l : List UInt8), l.length ≤ f → (splitL l n).length ≤ l.length
  | 0, l, h => by
    have : l = [] := List.eq_nil_of_length_eq_zero (by omega)
    subst this
    rw [splitL_nil]; exact Nat.le_refl _
  | f + 1, l, h => by
    rcases Nat.eq_zero_or_pos l.length with h0 | h0
    · have : l = [] := List.eq_nil_of_length_eq_zero h0
      subst this
      rw [splitL_nil]; exact Nat.le_refl _
    · rw [splitL_step l n hn h0]
      have := splitL_count n hn f (l.drop n) (by simp; omega)
      simp at this ⊢
      omega

set_option maxRecDepth 100000 in
set_option maxHeartbeats 6400000 in
theorem pchn_many (c : Cm) (n : Int) (u : Value) (w : World) (h : SL w w.heap.size u c.data) (hle : -9223372036854775808 ≤ c.le ∧ c.le ≤ 9223372036854775807) (hd : c.data.length ≤ 5000) (h0 : chnE c n = 0) (h1 : n < c.data.length) :
    Calls Try.prog 34 #[c.val u, .int .i64 n] w (ChnR c n w) := by
  obtain ⟨g0, g1, g2, g3, g4⟩ := chn_chk h0
  obtain ⟨_, _, _, _, _, _, _, g5⟩ := cla_all g3 g4
  have HPC := Lib.hid (chnR_pieces c n.toNat (by omega) c.data.length c.data (Nat.le_refl _) (by omega))
  have HSP := Lib.hid (fun (W : World) (hW : Below w.heap.size w W) => psplit_ok c.data u n.toNat W (h.on hW) (by omega) (by omega) (by omega))
  have HLN : Hid (0 < (splitL c.data n.toNat).length ∧ (splitL c.data n.toNat).length ≤ 5000) := ⟨by rw [splitL_step _ _ (by omega) (by omega)]; simp, Nat.le_trans (splitL_count n.toNat (by omega) _ c.data (Nat.le_refl _)) hd⟩
  have HL : Hid (chnL c n.toNat = chnR c n.toNat c.data) := rfl
  obtain ⟨A, k, rfl, _, _, _⟩ := h
  have HC := Lib.hid (fun (W : World) => pchk_any c A c.data.length k W rfl hle)
  have HK := Lib.hid (fun (W : World) => pcls_any c.cla W)
  have HY := Lib.hid (fun (W : World) => pbyt_any ⟨(clsK c.cla).ch, (clsK c.cla).sec, true, (clsK c.cla).prp⟩ W)
  rw [g5] at HY
  have H0 := Lib.hid h0
  rw [g0] at HC
  rw [g3] at HK
  have htn : ((n.toNat : Nat) : Int) = n := by omega
  rw [htn] at HSP
  obtain ⟨cla, ins, p1, p2, d, le, lg⟩ := c
  simp only [Cm.val, Kl.val] at *
  have hal := Lib.hid (alloc_below w (.cells #[.int .i64 cla, .int .i64 ins, .int .i64 p1, .int .i64 p2, .slice A d.length k, .int .i64 le, .bool lg] 24))
  have hrow := Lib.hid (heap_alloc_new w (.cells #[.int .i64 cla, .int .i64 ins, .int .i64 p1, .int .i64 p2, .slice A d.length k, .int .i64 le, .bool lg] 24))
  have i1 : ¬ n < 1 := by omega
  have i2 : ¬ 255 < n := by omega
  have i3 : ¬ (d.length : Int) ≤ n := by omega
  generalize clsK cla = kk at *
  obtain ⟨k0, k1, k2, k3⟩ := kk
  simp only at g4 HK HY
  subst g4
  clear h0 h1 g0 g1 g2 g3 g5 hle hd htn
  generalize hps : splitL d n.toNat = ps at *
  clear hps
  go_enter Try.func34, Try.ntmps34
  go_wp2_with fail
  refine (HC.out _).mono ?_
  rintro e w1 ⟨rfl, hb1⟩
  have HB1 := Lib.hid (hal.out.trans (hb1.mono hal.out.size))
  have HR1 := Lib.hid ((hb1.block _ (lt_row hrow.out)).trans hrow.out)
  clear hb1
  obtain ⟨r0, r1, r2, r3, r4, r5, r6⟩ := box7 (w' := w1) HR1.out
  go_wp2_with fail
  refine (HK.out _).mono ?_
  rintro e w2 ⟨rfl, hb2⟩
  have HB2 := Lib.hid (HB1.out.trans (hb2.mono HB1.out.size))
  have HR2 := Lib.hid ((hb2.block _ (lt_row HR1.out)).trans HR1.out)
  clear hb2 r0 r1 r2 r3 r4 r5 r6
  have hb3 := alloc_below w2 (.cells #[.int .i64 k0, .bool k1, .bool true, .bool k3] 47)
  have hb30 := alloc_below w2 (.cells #[.int .i64 k0, .bool k1, .bool false, .bool k3] 47)
  have HB3 := Lib.hid (HB2.out.trans (hb3.mono HB2.out.size))
  have HR3 := Lib.hid ((hb3.block _ (lt_row HR2.out)).trans HR2.out)
  have HR30 := Lib.hid ((hb30.block _ (lt_row HR2.out)).trans HR2.out)
  clear hb3 hb30
  obtain ⟨r0, r1, r2, r3, r4, r5, r6⟩ := box7 (w' := w2) HR30.out
  obtain ⟨s0, s1, s2, s3, s4, s5, s6⟩ := box7 (w' := w2) HR3.out
  go_wp2_with fail
  clear r0 r1 r2 r3 r4 r5 r6 s0 s1 s2 s3 s4 s5 s6 HR30
  generalize w2.alloc (.cells #[.int .i64 k0, .bool k1, .bool true, .bool k3] 47) = w3 at *
  refine (HY.out _).mono ?_
  rintro e w4 ⟨rfl, hb4⟩
  have HB4 := Lib.hid (HB3.out.trans (hb4.mono HB3.out.size))
  have HR4 := Lib.hid ((hb4.block _ (lt_row HR3.out)).trans HR3.out)
  clear hb4
  obtain ⟨r0, r1, r2, r3, r4, r5, r6⟩ := box7 (w' := w2) HR4.out
  go_wp2_with fail
  refine (HSP.out _ HB4.out).mono ?_
  rintro e w5 ⟨v5, rfl, hv5, hb5⟩
  have HB5 := Lib.hid (HB4.out.trans (hb5.mono HB4.out.size))
  have HR5 := Lib.hid ((hb5.block _ (lt_row HR4.out)).trans HR4.out)
  obtain ⟨Al, cl, vs, rfl, l1, l2, l3, l4, l5⟩ := hv5
  clear hb5 r0 r1 r2 r3 r4 r5 r6
  have hln := HLN.out
  unfold maxLen at l2
  obtain ⟨r0, r1, r2, r3, r4, r5, r6⟩ := box7 (w' := w2) HR5.out
  go_wp2_with (at_make; refine wpList_mkM (by rfl) _ _ (by rfl) .i64 .i64 _ _ ps.length (by rfl) (by rfl) (by rfl) (by rfl) (by omega) ?_; intro w6 cs6 hc6 hz6 hb6)
  have HB6 := Lib.hid (HB5.out.trans (hb6.mono HB5.out.size))
  have HB56 := Lib.hid hb6
  clear r0 r1 r2 r3 r4 r5 r6
  go_loopw [69] (fun i wr => ∃ j : Nat, j ≤ ps.length ∧ i = .int .i64 j ∧ Hid (Below w5.heap.size w5 wr) ∧ Hid (∃ cs : Array Value, wr.heap[w5.heap.size]? = some (.cells cs 24 (0, 0)) ∧ cs.size = ps.length * 7 ∧ ∀ i, i < j → ∀ q, q < 7 → cs[i * 7 + q]? = (cmV (mkC ⟨cla, ins, p1, p2, d, le, lg⟩ (ps.getD i [])) (vs.getD i (.slice none 0 0)))[q]?)) (fun i _ => ps.length - (intOf i).toNat)
  case atStart => exact ⟨0, Nat.zero_le _, rfl, HB56.out, cs6, hc6, hz6, fun i hi => absurd hi (by omega)⟩
  case round =>
    clear HB6 HB56 hc6 hz6 hb6
    obtain ⟨j, hj, rfl, HB, HX⟩ := hrel
    by_cases hlt : j < ps.length
    case neg =>
      obtain rfl : j = ps.length := by omega
      have HRW := Lib.hid ((HB.out.block _ (lt_row HR5.out)).trans HR5.out)
      obtain ⟨cs, hcs, hz, hall⟩ := HX.out
      have hl0 := hln.1
      obtain ⟨m, hm⟩ : ∃ m, ps.length = m + 1 := ⟨ps.length - 1, by omega⟩
      have HM := Lib.hid hm
      have y0 := frozen_of_row _ _ (m * 7) _ _ hcs
      have y5 := frozen_of_row _ _ (m * 7 + 5) _ _ hcs
      have y6 := frozen_of_row _ _ (m * 7 + 6) _ _ hcs
      obtain ⟨r0, r1, r2, r3, r4, r5, r6⟩ := box7 (w' := w2) HRW.out
      have i7 : (ps.length : Int) - 1 = (m : Int) := by omega
      have i8 : ¬ (ps.length : Int) < (ps.length : Int) := by omega
      have hcell : ∀ q, q < 7 → ∃ x, wr.cell? ⟨w5.heap.size, m * 7 + q, none⟩ = some x := fun q hq => by
        rw [cell_of_row _ _ _ _ _ _ hcs]
        exact ⟨_, Array.getElem?_eq_getElem (by omega)⟩
      obtain ⟨t0, z0⟩ := hcell 0 (by omega)
      obtain ⟨t5, z5⟩ := hcell 5 (by omega)
      obtain ⟨t6, z6⟩ := hcell 6 (by omega)
      rw [Nat.add_zero] at z0
      clear hcell
      have hne : w.heap.size ≠ w5.heap.size := by have := lt_row HR5.out; omega
      have HCS := Lib.hid (And.intro hcs (And.intro hz hall))
      have HK1 : Hid (∀ x, (wr.setCell ⟨w5.heap.size, m * 7, none⟩ x).drew.cell? ⟨w.heap.size, 0, none⟩ = some (.int .i64 cla) ∧ (wr.setCell ⟨w5.heap.size, m * 7, none⟩ x).drew.cell? ⟨w.heap.size, 5, none⟩ = some (.int .i64 le) ∧ (wr.setCell ⟨w5.heap.size, m * 7, none⟩ x).drew.cell? ⟨w.heap.size, 6, none⟩ = some (.bool lg)) := fun x => keep3 wr ⟨w5.heap.size, m * 7, none⟩ x hne ⟨r0, r5, r6⟩
      have HK2 : Hid (∀ x y, ((wr.setCell ⟨w5.heap.size, m * 7, none⟩ x).setCell ⟨w5.heap.size, m * 7 + 5, none⟩ y).drew.cell? ⟨w.heap.size, 0, none⟩ = some (.int .i64 cla) ∧ ((wr.setCell ⟨w5.heap.size, m * 7, none⟩ x).setCell ⟨w5.heap.size, m * 7 + 5, none⟩ y).drew.cell? ⟨w.heap.size, 5, none⟩ = some (.int .i64 le) ∧ ((wr.setCell ⟨w5.heap.size, m * 7, none⟩ x).setCell ⟨w5.heap.size, m * 7 + 5, none⟩ y).drew.cell? ⟨w.heap.size, 6, none⟩ = some (.bool lg)) := fun x y => keep3 _ ⟨w5.heap.size, m * 7 + 5, none⟩ y hne (keep3 wr ⟨w5.heap.size, m * 7, none⟩ x hne ⟨r0, r5, r6⟩)
      have HK3 : Hid (∀ x y z, (((wr.setCell ⟨w5.heap.size, m * 7, none⟩ x).setCell ⟨w5.heap.size, m * 7 + 5, none⟩ y).setCell ⟨w5.heap.size, m * 7 + 6, none⟩ z).drew.cell? ⟨w.heap.size, 0, none⟩ = some (.int .i64 cla) ∧ (((wr.setCell ⟨w5.heap.size, m * 7, none⟩ x).setCell ⟨w5.heap.size, m * 7 + 5, none⟩ y).setCell ⟨w5.heap.size, m * 7 + 6, none⟩ z).drew.cell? ⟨w.heap.size, 5, none⟩ = some (.int .i64 le) ∧ (((wr.setCell ⟨w5.heap.size, m * 7, none⟩ x).setCell ⟨w5.heap.size, m * 7 + 5, none⟩ y).setCell ⟨w5.heap.size, m * 7 + 6, none⟩ z).drew.cell? ⟨w.heap.size, 6, none⟩ = some (.bool lg)) := fun x y z => keep3 _ ⟨w5.heap.size, m * 7 + 6, none⟩ z hne (keep3 _ ⟨w5.heap.size, m * 7 + 5, none⟩ y hne (keep3 wr ⟨w5.heap.size, m * 7, none⟩ x hne ⟨r0, r5, r6⟩))
      clear hcs hz hall
      go_wp2_with fail
      go_region_held3 (fun w' => w'.cell? ⟨w.heap.size, 0, none⟩ = some (.int .i64 cla) ∧ w'.cell? ⟨w.heap.size, 5, none⟩ = some (.int .i64 le) ∧ w'.cell? ⟨w.heap.size, 6, none⟩ = some (.bool lg))
        (first | with_reducible exact HK1.out _ | with_reducible exact HK2.out _ _ | with_reducible exact HK3.out _ _ _ | with_reducible exact ⟨r0, r5, r6⟩ | (go_keep; done)) (fail)
      go_wp2_with fail
      go_ret2
      obtain ⟨hcs, hz, hall⟩ := HCS.out
      obtain ⟨e1, e2⟩ := HPC.out
      have hbl : Below w5.heap.size w5 ((((wr.setCell ⟨w5.heap.size, m * 7, none⟩ (.int .i64 cla)).setCell ⟨w5.heap.size, m * 7 + 5, none⟩ (.int .i64 le)).setCell ⟨w5.heap.size, m * 7 + 6, none⟩ (.bool lg)).drew) :=
        (((HB.out.setCell (p := ⟨w5.heap.size, m * 7, none⟩) (Nat.le_refl _) _).setCell (p := ⟨w5.heap.size, m * 7 + 5, none⟩) (Nat.le_refl _) _).setCell (p := ⟨w5.heap.size, m * 7 + 6, none⟩) (Nat.le_refl _) _).drew
      have hf := heap_setCell_same _ _ (m * 7 + 6) _ _ (.bool lg) (heap_setCell_same _ _ (m * 7 + 5) _ _ (.int .i64 le) (heap_setCell_same _ _ (m * 7) _ _ (.int .i64 cla) hcs))
      have hf7 : ((((wr.setCell ⟨w5.heap.size, m * 7, none⟩ (.int .i64 cla)).setCell ⟨w5.heap.size, m * 7 + 5, none⟩ (.int .i64 le)).setCell ⟨w5.heap.size, m * 7 + 6, none⟩ (.bool lg)).drew).heap[w5.heap.size]? = some (.cells (((cs.setIfInBounds (m * 7) (.int .i64 cla)).setIfInBounds (m * 7 + 5) (.int .i64 le)).setIfInBounds (m * 7 + 6) (.bool lg)) 24 (0, 0)) := hf
      clear hf
      obtain ⟨b1, b2⟩ := set3_arr cs (m * 7) (.int .i64 cla) (.int .i64 le) (.bool lg) (by rw [hz, HM.out]; omega)
      have hSL := fun i hi => (l5.out i hi).on hbl
      generalize hW7 : ((((wr.setCell ⟨w5.heap.size, m * 7, none⟩ (.int .i64 cla)).setCell ⟨w5.heap.size, m * 7 + 5, none⟩ (.int .i64 le)).setCell ⟨w5.heap.size, m * 7 + 6, none⟩ (.bool lg)).drew) = W7 at *
      clear hW7
      refine chn_ok H0.out ⟨_, m + 1, by rw [HL.out, e1, HM.out]; rfl, by rw [HL.out, e1, HM.out]; exact Nat.le_refl _, by unfold maxLen; omega, fun _ => ⟨w5.heap.size, 0, rfl, lt_row hf7, fun i hi => ?_⟩⟩ (HB5.out.trans (hbl.mono HB5.out.size))
      rw [HL.out] at hi ⊢
      rw [e1] at hi
      rw [e2 i hi]
      by_cases him : i + 1 < ps.length
      · rw [if_pos him]
        refine ca_of (u := vs.getD i (.slice none 0 0)) (fun j hj => ?_) (hSL i hi)
        rw [Nat.zero_add, cell_of_row _ _ _ _ _ _ hf7, b1 _ (by have := HM.out; omega)]
        exact hall i hi j hj
      · rw [if_neg him]
        obtain rfl : i = m := by have := HM.out; omega
        refine ca_of (u := vs.getD i (.slice none 0 0)) (fun j hj => ?_) (hSL i hi)
        rw [Nat.zero_add, cell_of_row _ _ _ _ _ _ hf7, b2 _ hj, hall i hi j hj]
        have h7 : j = 0 ∨ j = 1 ∨ j = 2 ∨ j = 3 ∨ j = 4 ∨ j = 5 ∨ j = 6 := by omega
        rcases h7 with rfl | rfl | rfl | rfl | rfl | rfl | rfl <;> rfl
    have hlt' : (j : Int) < (ps.length : Int) := by omega
    obtain ⟨bl, ol, rfl, lb, lc⟩ := l4.out (by omega)
    have hp := (HB.out.cell (p := ⟨bl, ol + j, none⟩) lb).trans (lc j hlt)
    have HV := Lib.hid (l5.out j hlt)
    clear lc
    obtain ⟨Bj, cj, hBj, _⟩ := l5.out j hlt
    have HBJ : Hid (vs.getD j (.slice none 0 0) = .slice Bj ps[j].length cj) := by show _ = _; rw [hBj]; simp [List.getD, hlt]
    rw [hBj] at hp
    obtain ⟨cs, hcs, hz, hall⟩ := HX.out
    have HRW := Lib.hid ((HB.out.block _ (lt_row HR5.out)).trans HR5.out)
    obtain ⟨r0, r1, r2, r3, r4, r5, r6⟩ := box7 (w' := w2) HRW.out
    have y0 := frozen_of_row _ _ (j * 7) _ _ hcs
    have y1 := frozen_of_row _ _ (j * 7 + 1) _ _ hcs
    have y2 := frozen_of_row _ _ (j * 7 + 2) _ _ hcs
    have y3 := frozen_of_row _ _ (j * 7 + 3) _ _ hcs
    have y4 := frozen_of_row _ _ (j * 7 + 4) _ _ hcs
    have y5 := frozen_of_row _ _ (j * 7 + 5) _ _ hcs
    have y6 := frozen_of_row _ _ (j * 7 + 6) _ _ hcs
    have hcell : ∀ q, q < 7 → ∃ x, wr.cell? ⟨w5.heap.size, j * 7 + q, none⟩ = some x := fun q hq => by
      rw [cell_of_row _ _ _ _ _ _ hcs]
      exact ⟨_, Array.getElem?_eq_getElem (by omega)⟩
    obtain ⟨t0, z0⟩ := hcell 0 (by omega)
    obtain ⟨t1, z1⟩ := hcell 1 (by omega)
    obtain ⟨t2, z2⟩ := hcell 2 (by omega)
    obtain ⟨t3, z3⟩ := hcell 3 (by omega)
    obtain ⟨t4, z4⟩ := hcell 4 (by omega)
    obtain ⟨t5, z5⟩ := hcell 5 (by omega)
    obtain ⟨t6, z6⟩ := hcell 6 (by omega)
    rw [Nat.add_zero] at z0
    have HCS := Lib.hid (And.intro hcs (And.intro hz hall))
    clear hcell hcs hz hall
    have HBS := Lib.hid (HB.out)
    clear hBj
    go_wp2_with fail
    obtain ⟨hcs, hz, hall⟩ := HCS.out
    obtain ⟨a1, a2, a3⟩ := set7_arr cs (j * 7) (.int .i64 (cla + 16)) (.int .i64 ins) (.int .i64 p1) (.int .i64 p2) (.slice Bj ps[j].length cj) (.int .i64 0) (.bool false) (by omega)
    refine ⟨⟨j + 1, by omega, by simp, set7_belowq HBS.out (Nat.le_refl _), _, set7_heap _ _ _ _ _ _ _ _ _ _ _ hcs, a1.trans hz, fun i hi q hq => ?_⟩, by simp [intOf]; omega⟩
    by_cases hij : i < j
    · rw [a3 _ (by omega)]; exact hall i hij q hq
    · obtain rfl : i = j := by omega
      rw [a2 q hq, HBJ.out]
      rfl
end Go.Proofs.Ytjoibonbmalbdaa
