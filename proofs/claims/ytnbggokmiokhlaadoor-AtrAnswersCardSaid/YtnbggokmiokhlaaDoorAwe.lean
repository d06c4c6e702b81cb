/-
  bytes of the reference: the walk.
-/
import Derived.Test.YtnbggokmiokhlaaDoorAwd
namespace Go.Proofs.YtnbggokmiokhlaaDoor
set_option linter.unusedVariables false
set_option linter.unusedSimpArgs false
open Go.RowKit

theorem rsum5_any (l : List UInt8) (v : Value) (w : World) (B : Nat) (h : SL w B v l) :
    Calls Tryd.prog 58 #[v] w fun e w' => e = .returned (.int .u8 ((lrcL l).toNat : Int)) ∧ w = w' := by
  obtain ⟨A1, c1, rfl, h11, h12, h13⟩ := h
  unfold maxLen at h12
  go_enter Tryd.func58, Tryd.ntmps58
  go_wp2
  go_loop [3, 4] (fun s i => ∃ k : Nat, k ≤ l.length ∧ i = .int .i64 k ∧ s = .int .u8 ((lrcL (l.take k)).toNat : Int)) (fun _ i => l.length - (intOf i).toNat)
  case atStart => exact ⟨0, Nat.zero_le _, rfl, rfl⟩
  case round =>
    obtain ⟨k, hk, rfl, rfl⟩ := hrel
    by_cases h1 : k < l.length
    · obtain ⟨b1, o1, rfl, hb1, hc1⟩ := h13 (by omega)
      have g1 := hc1 k h1
      have HC := Lib.hid hc1
      clear hc1 h13
      go_wp2
      go_round
      case rel => exact ⟨k + 1, by omega, by go_num, by rw [lrcL_take l k h1, ← bits_xor, gd h1]⟩
      case measure => simp [intOf]; omega
    · obtain rfl : k = l.length := by omega
      go_wp2
      go_ret
      exact ⟨rfl, rfl⟩
theorem SL.cut {w : World} {B b o c n : Nat} {l : List UInt8} (h : SL w B (.slice (some ⟨b, o, none⟩) l.length c) l) (hn : n < l.length) : SL w B (.slice (some ⟨b, o + n, none⟩) (l.length - n) (c - n)) (l.drop n) := by
  obtain ⟨A', c', e, h1, h2, h3⟩ := h
  cases e
  obtain ⟨b', o', e, hb, hc⟩ := h3 (by omega)
  cases e
  refine ⟨some ⟨b, o + n, none⟩, c - n, by rw [List.length_drop], by rw [List.length_drop]; omega, by omega, fun hp => ⟨b, o + n, rfl, hb, fun k hk => ?_⟩⟩
  rw [List.length_drop] at hk
  rw [show o + n + k = o + (n + k) by omega, hc (n + k) (by omega)]
  simp [List.getD, List.getElem?_drop]
theorem SL.grownOff {W w' : World} {v : Value} {l : List UInt8} {row : Option Nat} (h : SL W W.heap.size v l) (hg : W.grownBy w' row) (ho : ∀ k, row = some k → Off v k) : SL w' w'.heap.size v l := by
  obtain ⟨A, c, rfl, h1, h2, h3⟩ := h
  refine ⟨A, c, rfl, h1, h2, fun hp => ?_⟩
  obtain ⟨b, o, rfl, hb, hc⟩ := h3 hp
  refine ⟨b, o, rfl, Nat.lt_of_lt_of_le hb hg.size, fun k hk => ?_⟩
  rw [← hc k hk]
  exact World.cell?_of_block (hg.block b hb (fun e => ho b e.symm b o _ _ rfl rfl))
theorem rbo_m {a : At} (m : Nat) (h1 : 1 ≤ m) (h2 : m ≤ cntN a) : rbo a m = rbo a (m - 1) ++ (grA a (m - 1)).vs ++ if m < cntN a then [hdB (grs a a.ibs.length) (cntN a) m] else [] := by
  obtain ⟨j, rfl⟩ : ∃ j, m = j + 1 := ⟨m - 1, by omega⟩
  rw [Nat.add_sub_cancel]
  exact rbo_succ j (by omega)
theorem rbo_len {a : At} (h : Valid a) (hl : a.ibs.length ≤ 200) (j : Nat) (hj : j ≤ cntN a) : (rbo a j).length ≤ 405 := by
  have := bodM_le h hl j hj
  unfold rbo
  rw [List.length_append]
  split <;> simp <;> omega
theorem vs_le {a : At} (j : Nat) : (grA a j).vs.length ≤ a.ibs.length := grs_len a j _ (Nat.le_refl _)

set_option maxRecDepth 100000 in
set_option maxHeartbeats 3200000 in
theorem rbytes_any (a : At) (v : Value) (w : World) (h : AT w v a) (hv : Valid a) (hl : a.ibs.length ≤ 200) : Calls Tryd.prog 52 #[v] w (EncR a w) := by
  have hcf := cnt_facts hv
  have hn : cntV a = ((cntN a : Nat) : Int) := by unfold cntN; omega
  have hLA := fun (W : World) (hW : Below w.heap.size w W) => rlast_any a v W (h.on hW) hv hl
  rw [hn] at hLA
  have HLA := Lib.hid hLA
  have HGR : Hid (∀ (g : Int) (W : World), Below w.heap.size w W → Calls Tryd.prog 87 #[v, .int .i64 g, .int .i64 ((cntN a : Nat) : Int)] W (GrpR a g ((cntN a : Nat) : Int) W)) := fun g W hW => rgrp_any a g _ v W (h.on hW) hv hl
  have HGA := Lib.hid (fun i => gr_all hv i)
  have HRM := Lib.hid (@rbo_m a)
  have HRL := Lib.hid (rbo_len hv hl)
  have HR0 := Lib.hid (rbo_zero hv)
  have HRA := Lib.hid (rbo_all a)
  have HVS := Lib.hid (@vs_le a)
  have n1 : 1 ≤ cntN a := by unfold cntN; omega
  have n2 : cntN a ≤ 204 := by unfold cntN; omega
  have hhis := hv.his
  have HBL := Lib.hid (bodV_len hv)
  obtain ⟨v1, v2, v3, rfl, h1, h2, h3⟩ := h
  have HPN := Lib.hid (fun (W : World) (hW : Below w.heap.size w W) => rhas_any a.prs 1 v2 W W.heap.size (h2.on hW))
  have HH := Lib.hid h3
  obtain ⟨A1, c1, rfl, a1, b1, d1⟩ := h1
  obtain ⟨A2, c2, rfl, a2, b2, d2⟩ := h2
  obtain ⟨A3, c3, rfl, a3, b3, d3⟩ := h3
  have HE : Hid (encM a = (if a.inv then 63 else 59) :: (if hasN a.prs 1 then bodV a ++ [lrcL (bodV a)] else bodV a)) := rfl
  have HBV : Hid (bodV a = bodM (grs a a.ibs.length) (cntN a) (cntN a) ++ a.his) := rfl
  unfold maxLen at b1 b2 b3
  unfold GrpR at HGR
  have HGA : Hid (∀ i : Nat, (rgF a ((i : Int) + 1) a.ibs.length).vs = (grA a i).vs ∧ 0 ≤ (rgF a ((i : Int) + 1) a.ibs.length).pr ∧ (rgF a ((i : Int) + 1) a.ibs.length).pr ≤ 112 ∧ (1 ≤ i → 0 ≤ (rgF a ((i : Int) + 1) a.ibs.length).p ∧ (rgF a ((i : Int) + 1) a.ibs.length).p ≤ 1) ∧ ((hdB (grs a a.ibs.length) (cntN a) i).toNat : Int) = (rgF a ((i : Int) + 1) a.ibs.length).pr + (if i + 1 < cntN a then 128 else 0) + (if i = 0 then (a.his.length : Int) else (rgF a ((i : Int) + 1) a.ibs.length).p)) := fun i => by
    obtain ⟨q1, q2, q3, q4, q5, q6⟩ := HGA.out i
    exact ⟨q1, q3, q4, fun hi => (q5 hi).2, q6⟩
  clear d1 d2 d3 hcf hn hv hLA
  generalize hasN a.prs 1 = hs1 at *
  generalize a.inv = I at *
  have HGN : Hid (∃ N, N = cntN a) := ⟨_, rfl⟩
  generalize cntN a = n at *
  generalize grs a a.ibs.length = SS at *
  cases I with
  | false =>
    have hal := Lib.hid (two_alloc w (.cells #[.bool false, .slice A1 a.ibs.length c1, .slice A2 a.prs.length c2, .slice A3 a.his.length c3] 26) (.cells #[.int .u8 59] 5))
    have hr1 := Lib.hid (heap_alloc2_old w (.cells #[.bool false, .slice A1 a.ibs.length c1, .slice A2 a.prs.length c2, .slice A3 a.his.length c3] 26) (.cells #[.int .u8 59] 5))
    have hr2 := Lib.hid (heap_alloc2_new w (.cells #[.bool false, .slice A1 a.ibs.length c1, .slice A2 a.prs.length c2, .slice A3 a.his.length c3] 26) (.cells #[.int .u8 59] 5))
    have hsz : Hid (((w.alloc (.cells #[.bool false, .slice A1 a.ibs.length c1, .slice A2 a.prs.length c2, .slice A3 a.his.length c3] 26)).alloc (.cells #[.int .u8 59] 5)).heap.size = w.heap.size + 2) := by show _ = _; rw [alloc_size, alloc_size]
    go_enter Tryd.func52, Tryd.ntmps52
    go_wp2_with fail
    generalize (w.alloc (.cells #[.bool false, .slice A1 a.ibs.length c1, .slice A2 a.prs.length c2, .slice A3 a.his.length c3] 26)).alloc (.cells #[.int .u8 59] 5) = W0 at *
    have HUP : Hid (∀ W, Below (w.heap.size + 1) W0 W → Below w.heap.size w W) := fun W hW => hal.out.trans (hW.mono (Nat.le_succ _))
    have HBR : Hid (∀ W, Below (w.heap.size + 1) W0 W → W.heap[w.heap.size]? = some (.cells #[.bool false, .slice A1 a.ibs.length c1, .slice A2 a.prs.length c2, .slice A3 a.his.length c3] 26 (0, 0))) := fun W hW => (hW.block _ (Nat.lt_succ_self _)).trans hr1.out
    have HO0 : Hid (OB W0 (w.heap.size + 1) (.slice (some ⟨w.heap.size + 1, 0, none⟩) 1 1) [59]) := OB.of_cells (Nat.le_refl _) rfl (by unfold maxLen; omega) hr2.out
    have hsz0 : w.heap.size + 1 ≤ W0.heap.size := by rw [hsz.out]; omega
    refine (HLA.out _ hal.out).mono ?_
    rintro e wa ⟨rfl, hba⟩
    have HBA : Hid (Below (w.heap.size + 1) W0 wa) := hba.mono hsz0
    have HOA := Lib.hid (HO0.out.later hba)
    clear hba
    obtain ⟨r0, r1, r2, r3⟩ := cellsA (HBR.out _ HBA.out)
    go_wp2_with fail
    refine (HGR.out 1 _ (HUP.out _ HBA.out)).mono ?_
    rintro e wb ⟨vb, rfl, hob, hbb⟩
    have HBB : Hid (Below (w.heap.size + 1) W0 wb) := HBA.out.trans (hbb.mono (Nat.le_trans hsz0 HBA.out.size))
    have HOB := Lib.hid (HOA.out.later hbb)
    have HVO : Hid (∀ k, (Value.slice (some ⟨w.heap.size + 1, 0, none⟩) 1 1).ownBlock = some k → Off vb k) := fun k hk => hob.off (World.ownsRow.lt HOA.out k hk).2
    have HVB := Lib.hid hob
    obtain ⟨Ab, cb, eb⟩ := hob.value
    subst eb
    clear hbb hob r0 r1 r2 r3
    obtain ⟨r0, r1, r2, r3⟩ := cellsA (HBR.out _ HBB.out)
    obtain ⟨z1, z2, z3, _, z5⟩ := HGA.out 0
    have z1 : (rgF a 1 a.ibs.length).vs = (grA a 0).vs := z1
    have z2 : 0 ≤ (rgF a 1 a.ibs.length).pr := z2
    have z3 : (rgF a 1 a.ibs.length).pr ≤ 112 := z3
    have z5 : ((hdB SS n 0).toNat : Int) = (rgF a 1 a.ibs.length).pr + (if 1 < n then 128 else 0) + (a.his.length : Int) := z5
    have z6 : (if (1 : Int) < (n : Int) then (128 : Int) else 0) = if 1 < n then 128 else 0 := by split <;> split <;> omega
    rw [z6]
    have z7 : 0 ≤ (if 1 < n then (128 : Int) else 0) ∧ (if 1 < n then (128 : Int) else 0) ≤ 128 := by split <;> omega
    obtain ⟨z8, z9⟩ := z7
    clear z6
    generalize (if 1 < n then (128 : Int) else 0) = M at *
    generalize rgF a 1 a.ibs.length = S1 at *
    obtain ⟨vs1, pr1, p1⟩ := S1
    simp only at z1 z2 z3 z5 HVB
    have HZ5 := Lib.hid z5
    have HZ1 := Lib.hid z1
    clear z1 z5
    go_wp2_with (first
      | (at_builtin; refine wpList_app1G rfl (.tmp 26) (.tmp 33) rfl (w.heap.size + 1) (.slice (some ⟨w.heap.size + 1, 0, none⟩) 1 1) [59] (hdB SS n 0) (pr1 + M + ↑a.his.length) _ rfl rfl (HOB.out.later (alloc_below ..)) (heap_alloc_new _ _) HZ5.out.symm (by simp) (by rw [alloc_size]; exact Nat.le_succ_of_le (Nat.le_trans hsz0 HBB.out.size)) ?_; intro gg cap w6 hO6 hg6; have hap := app_keep0 (Nat.le_trans hsz0 HBB.out.size) _ HOB.out hg6; have HV6 := Lib.hid ((HVB.out.sl.on (alloc_below ..)).grownOff hg6 HVO.out); have HB6 := Lib.hid (HBB.out.trans hap.1); have HO6 := Lib.hid hO6; clear hO6 hg6 hap))
    clear r0 r1 r2 r3 z2 z3 z8 z9
    go_loopw [3, 5, 8] (fun s3 s5 s8 wr => ∃ m : Nat, 1 ≤ m ∧ m ≤ n + 1 ∧ s8 = .int .i64 m ∧ Hid (OB wr (w.heap.size + 1) s3 (59 :: rbo a (m - 1))) ∧ Hid (m ≤ n → SL wr wr.heap.size s5 (grA a (m - 1)).vs) ∧ Hid (Below (w.heap.size + 1) W0 wr)) (fun _ _ i _ => n + 1 - (intOf i).toNat)
    case atStart =>
      refine ⟨1, Nat.le_refl _, by omega, rfl, ?_, fun _ => ?_, HB6⟩
      · show OB _ _ _ (59 :: rbo a 0)
        rw [HR0.out]
        exact HO6.out
      · show SL _ _ _ (grA a 0).vs
        rw [← HZ1.out]
        exact HV6.out
    case round =>
      clear HB6 HO6 HV6 HZ1 HZ5 HVB HVO HOB HBB HOA HBA HO0
      obtain ⟨m, hm1, hm2, rfl, HO, HV, HB⟩ := hrel
      by_cases hm : m ≤ n
      · have hvv := HV.out hm
        have hvl : (grA a (m - 1)).vs.length ≤ 200 := Nat.le_trans (HVS.out (m - 1)) hl
        have hrl := HRL.out (m - 1) (by omega)
        have HST := Lib.hid (HRM.out m hm1 hm)
        obtain ⟨Av, cv, ev, k1, k2, k3⟩ := hvv
        subst ev
        have HVV := Lib.hid k3
        clear k3 HV
        generalize (grA a (m - 1)).vs = vs at *
        generalize rbo a (m - 1) = L at *
        obtain ⟨Au, cu, hu⟩ := HO.out.value
        subst hu
        have i1 : (m : Int) ≤ (n : Int) := by omega
        obtain ⟨LL, hLL⟩ : ∃ LL : List UInt8, LL = 59 :: L ++ vs := ⟨_, rfl⟩
        have HLN : Hid (LL.length ≤ 1000) := by show _ ≤ _; rw [hLL]; simp; omega
        have HLL := Lib.hid hLL
        clear hLL
        by_cases hmn : m < n
        · have i2 : (m : Int) < (n : Int) := by omega
          have HST2 : Hid (rbo a m = L ++ vs ++ [hdB SS n m]) := by show _ = _; rw [HST.out, if_pos hmn]
          go_wp2_with (first
            | (at_builtin; refine wpList_appS rfl (.tmp 40) (.tmp 41) rfl wr (w.heap.size + 1) (.slice Au (59 :: L).length cu) (59 :: L) vs Av cv rfl rfl (Below.refl _ _) HO.out (fun hp => by obtain ⟨bb, oo, hA, _, hcc⟩ := HVV.out hp; exact ⟨bb, oo, hA, hcc⟩) (by simp; omega) (Nat.le_trans hsz0 HB.out.size) ?_; intro v1 w1 hO1 hb1; have HB1 := Lib.hid (HB.out.trans hb1); obtain ⟨t0, t1, t2, t3⟩ := cellsA (HBR.out _ HB1.out); rw [← HLL.out] at hO1; obtain ⟨A1', c1', e1'⟩ := hO1.value; subst e1'; have HO1 := Lib.hid hO1; clear hO1 hb1))
          refine (HGR.out _ _ (HUP.out _ HB1.out)).mono ?_
          rintro e w2 ⟨v2, rfl, ho2, hb2⟩
          have hs1 : w.heap.size + 1 ≤ w1.heap.size := Nat.le_trans hsz0 HB1.out.size
          have HB2 := Lib.hid (HB1.out.trans (hb2.mono hs1))
          have HO2 := Lib.hid (HO1.out.later hb2)
          have HVO2 : Hid (∀ k, (Value.slice A1' LL.length c1').ownBlock = some k → Off v2 k) := fun k hk => ho2.off (World.ownsRow.lt HO1.out k hk).2
          have HV2 := Lib.hid ho2
          obtain ⟨A2', c2', e2'⟩ := ho2.value
          subst e2'
          clear hb2 ho2 t0 t1 t2 t3
          obtain ⟨z1, z2, z3, z4, z5⟩ := HGA.out m
          have z4 := z4 hm1
          rw [if_neg (show ¬ m = 0 by omega)] at z5
          have z6 : (if (m : Int) + 1 < (n : Int) then (128 : Int) else 0) = if m + 1 < n then 128 else 0 := by split <;> split <;> omega
          rw [z6]
          have z7 : 0 ≤ (if m + 1 < n then (128 : Int) else 0) ∧ (if m + 1 < n then (128 : Int) else 0) ≤ 128 := by split <;> omega
          obtain ⟨z8, z9⟩ := z7
          obtain ⟨z10, z11⟩ := z4
          clear z6
          generalize (if m + 1 < n then (128 : Int) else 0) = M2 at *
          generalize rgF a ((m : Int) + 1) a.ibs.length = S2 at *
          obtain ⟨vs2, pr2, p2⟩ := S2
          simp only at z1 z2 z3 z5 z10 z11 HV2
          have HZ5 := Lib.hid z5
          have HZ1 := Lib.hid z1
          clear z1 z5
          go_wp2_with (first
            | (at_builtin; refine wpList_app1G rfl (.tmp 55) (.tmp 60) rfl (w.heap.size + 1) (.slice A1' LL.length c1') LL (hdB SS n m) (pr2 + M2 + p2) _ rfl rfl (HO2.out.later (alloc_below ..)) (heap_alloc_new _ _) HZ5.out.symm (Nat.le_trans HLN.out (by omega)) (by rw [alloc_size]; exact Nat.le_succ_of_le (Nat.le_trans hsz0 HB2.out.size)) ?_; intro gg cap w6 hO6 hg6; have hap := app_keep0 (Nat.le_trans hsz0 HB2.out.size) _ HO2.out hg6; have HV6 := Lib.hid ((HV2.out.sl.on (alloc_below ..)).grownOff hg6 HVO2.out); have HB6 := Lib.hid (HB2.out.trans hap.1); have HO6 := Lib.hid hO6; clear hO6 hg6 hap))
          go_roundw
          case rel =>
            refine ⟨m + 1, by omega, by omega, by go_num, ?_, fun _ => ?_, HB6⟩
            · show OB _ _ _ (59 :: rbo a (m + 1 - 1))
              have e : 59 :: rbo a m = LL ++ [hdB SS n m] := by rw [HST2.out, HLL.out]; simp
              rw [Nat.add_sub_cancel, e]
              exact HO6.out
            · show SL _ _ _ (grA a (m + 1 - 1)).vs
              rw [Nat.add_sub_cancel, ← HZ1.out]
              exact HV6.out
          case measure => simp [intOf]; omega
        · have i2 : ¬ (m : Int) < (n : Int) := by omega
          have HST2 : Hid (rbo a m = L ++ vs) := by show _ = _; rw [HST.out, if_neg hmn, List.append_nil]
          go_wp2_with (first
            | (at_builtin; refine wpList_appS rfl (.tmp 40) (.tmp 41) rfl wr (w.heap.size + 1) (.slice Au (59 :: L).length cu) (59 :: L) vs Av cv rfl rfl (Below.refl _ _) HO.out (fun hp => by obtain ⟨bb, oo, hA, _, hcc⟩ := HVV.out hp; exact ⟨bb, oo, hA, hcc⟩) (by simp; omega) (Nat.le_trans hsz0 HB.out.size) ?_; intro v1 w1 hO1 hb1; have HB1 := Lib.hid (HB.out.trans hb1); rw [← HLL.out] at hO1; obtain ⟨A1', c1', e1'⟩ := hO1.value; subst e1'; have HO1 := Lib.hid hO1; clear hO1 hb1))
          go_roundw
          case rel =>
            refine ⟨m + 1, by omega, by omega, by go_num, ?_, fun h => absurd h (by omega), HB1⟩
            show OB _ _ _ (59 :: rbo a (m + 1 - 1))
            have e : 59 :: rbo a m = LL := by rw [HST2.out, HLL.out]; simp
            rw [Nat.add_sub_cancel, e]
            exact HO1.out
          case measure => simp [intOf]; omega
      · obtain rfl : m = n + 1 := by omega
        have hO := HO.out
        rw [Nat.add_sub_cancel, HRA.out] at hO
        have hrl := HRL.out n (Nat.le_refl _)
        rw [HRA.out] at hrl
        have i1 : ¬ ((n : Int) + 1 ≤ (n : Int)) := by omega
        obtain ⟨Au, cu, hu⟩ := hO.value
        subst hu
        obtain ⟨r0, r1, r2, r3⟩ := cellsA (HBR.out _ HB.out)
        have HHW := Lib.hid (HH.out.below (HUP.out _ HB.out))
        have HOO := Lib.hid hO
        clear hO HO HV
        generalize bodM SS n n = BM at *
        obtain ⟨LF, hLF⟩ : ∃ LF : List UInt8, LF = bodV a := ⟨_, rfl⟩
        have hLF2 : 59 :: LF = 59 :: BM ++ a.his := by rw [hLF, HBV.out]; rfl
        have HLF := Lib.hid hLF
        have HLF2 := Lib.hid hLF2
        have hlfn : 1 ≤ LF.length ∧ LF.length ≤ 419 := by rw [hLF, HBL.out]; omega
        clear hLF hLF2
        go_wp2_with (first
          | (at_builtin; refine wpList_appS rfl (.tmp 63) (.tmp 65) rfl wr (w.heap.size + 1) (.slice Au (59 :: BM).length cu) (59 :: BM) a.his A3 c3 rfl rfl (Below.refl _ _) HOO.out (fun hp => by obtain ⟨bb, oo, hA, _, hcc⟩ := HHW.out.rd hp; exact ⟨bb, oo, hA, hcc⟩) (by simp; omega) (Nat.le_trans hsz0 HB.out.size) ?_; intro v1 w1 hO1 hb1; have HB1 := Lib.hid (HB.out.trans hb1); clear r0 r1 r2 r3; obtain ⟨t0, t1, t2, t3⟩ := cellsA (HBR.out _ HB1.out); rw [← HLF2.out] at hO1; obtain ⟨gz, cz, ez, _, _⟩ := World.ownsRow.form hO1 (by simp); subst ez; have HO1 := Lib.hid hO1; clear hO1 hb1))
        refine (HPN.out w1 (HUP.out _ HB1.out)).mono ?_
        rintro e w9 ⟨rfl, q, rfl⟩
        have HB9 : Hid (Below (w.heap.size + 1) W0 (w1.drewN q)) := below_drewN HB1.out q
        have HO9 : Hid (OB (w1.drewN q) (w.heap.size + 1) (.slice (some ⟨gz, 0, none⟩) (59 :: LF).length cz) (59 :: LF)) := HO1.out
        clear HO1 HB1 t0 t1 t2 t3
        generalize w1.drewN q = w9 at *
        obtain ⟨l1, l2⟩ := hlfn
        cases hs1 with
        | false =>
          have HEE : Hid (encM a = 59 :: LF) := by show _ = _; rw [HE.out, HLF.out]; rfl
          go_wp2_with fail
          go_ret
          exact ⟨_, rfl, by rw [HEE.out]; exact HO9.out.sl, HUP.out _ HB9.out⟩
        | true =>
          have HEE : Hid (encM a = 59 :: LF ++ [lrcL LF]) := by show _ = _; rw [HE.out, HLF.out]; rfl
          have hcap : LF.length + 1 ≤ cz ∧ cz ≤ 9223372036854775807 := by
            obtain ⟨A', c', e, k1, k2, _⟩ := HO9.out.sl
            cases e
            unfold maxLen at k2
            exact ⟨by simpa using k1, by omega⟩
          obtain ⟨l3, l4⟩ := hcap
          have l5 : ¬ (cz = 1) := by omega
          have hS : SL w9 w9.heap.size (.slice (some ⟨gz, 1, none⟩) LF.length (cz - 1)) LF := by
            have := SL.cut (n := 1) HO9.out.sl (by simp; omega)
            simpa using this
          have HS := Lib.hid hS
          clear hS
          go_wp2_with fail
          refine (rsum5_any LF _ w9 _ HS.out).mono ?_
          rintro e w10 ⟨rfl, rfl⟩
          go_wp2_with (first
            | (at_builtin; refine wpList_app1G rfl (.tmp 70) (.tmp 74) rfl (w.heap.size + 1) (.slice (some ⟨gz, 0, none⟩) (59 :: LF).length cz) (59 :: LF) (lrcL LF) ((lrcL LF).toNat : Int) _ rfl rfl (HO9.out.later (alloc_below ..)) (heap_alloc_new _ _) rfl (by simp; omega) (by rw [alloc_size]; exact Nat.le_succ_of_le (Nat.le_trans hsz0 HB9.out.size)) ?_; intro g2 cap w11 hO11 hg11; have hap := app_keep0 (Nat.le_trans hsz0 HB9.out.size) _ HO9.out hg11; have HB11 := Lib.hid (HB9.out.trans hap.1); have HO11 := Lib.hid hO11; clear hO11 hg11 hap))
          go_ret
          exact ⟨_, rfl, by rw [HEE.out]; exact HO11.out.sl, HUP.out _ HB11.out⟩
  | true =>
    have hal := Lib.hid (two_alloc w (.cells #[.bool true, .slice A1 a.ibs.length c1, .slice A2 a.prs.length c2, .slice A3 a.his.length c3] 26) (.cells #[.int .u8 63] 5))
    have hr1 := Lib.hid (heap_alloc2_old w (.cells #[.bool true, .slice A1 a.ibs.length c1, .slice A2 a.prs.length c2, .slice A3 a.his.length c3] 26) (.cells #[.int .u8 63] 5))
    have hr2 := Lib.hid (heap_alloc2_new w (.cells #[.bool true, .slice A1 a.ibs.length c1, .slice A2 a.prs.length c2, .slice A3 a.his.length c3] 26) (.cells #[.int .u8 63] 5))
    have hsz : Hid (((w.alloc (.cells #[.bool true, .slice A1 a.ibs.length c1, .slice A2 a.prs.length c2, .slice A3 a.his.length c3] 26)).alloc (.cells #[.int .u8 63] 5)).heap.size = w.heap.size + 2) := by show _ = _; rw [alloc_size, alloc_size]
    go_enter Tryd.func52, Tryd.ntmps52
    go_wp2_with fail
    generalize (w.alloc (.cells #[.bool true, .slice A1 a.ibs.length c1, .slice A2 a.prs.length c2, .slice A3 a.his.length c3] 26)).alloc (.cells #[.int .u8 63] 5) = W0 at *
    have HUP : Hid (∀ W, Below (w.heap.size + 1) W0 W → Below w.heap.size w W) := fun W hW => hal.out.trans (hW.mono (Nat.le_succ _))
    have HBR : Hid (∀ W, Below (w.heap.size + 1) W0 W → W.heap[w.heap.size]? = some (.cells #[.bool true, .slice A1 a.ibs.length c1, .slice A2 a.prs.length c2, .slice A3 a.his.length c3] 26 (0, 0))) := fun W hW => (hW.block _ (Nat.lt_succ_self _)).trans hr1.out
    have HO0 : Hid (OB W0 (w.heap.size + 1) (.slice (some ⟨w.heap.size + 1, 0, none⟩) 1 1) [63]) := OB.of_cells (Nat.le_refl _) rfl (by unfold maxLen; omega) hr2.out
    have hsz0 : w.heap.size + 1 ≤ W0.heap.size := by rw [hsz.out]; omega
    refine (HLA.out _ hal.out).mono ?_
    rintro e wa ⟨rfl, hba⟩
    have HBA : Hid (Below (w.heap.size + 1) W0 wa) := hba.mono hsz0
    have HOA := Lib.hid (HO0.out.later hba)
    clear hba
    obtain ⟨r0, r1, r2, r3⟩ := cellsA (HBR.out _ HBA.out)
    go_wp2_with fail
    refine (HGR.out 1 _ (HUP.out _ HBA.out)).mono ?_
    rintro e wb ⟨vb, rfl, hob, hbb⟩
    have HBB : Hid (Below (w.heap.size + 1) W0 wb) := HBA.out.trans (hbb.mono (Nat.le_trans hsz0 HBA.out.size))
    have HOB := Lib.hid (HOA.out.later hbb)
    have HVO : Hid (∀ k, (Value.slice (some ⟨w.heap.size + 1, 0, none⟩) 1 1).ownBlock = some k → Off vb k) := fun k hk => hob.off (World.ownsRow.lt HOA.out k hk).2
    have HVB := Lib.hid hob
    obtain ⟨Ab, cb, eb⟩ := hob.value
    subst eb
    clear hbb hob r0 r1 r2 r3
    obtain ⟨r0, r1, r2, r3⟩ := cellsA (HBR.out _ HBB.out)
    obtain ⟨z1, z2, z3, _, z5⟩ := HGA.out 0
    have z1 : (rgF a 1 a.ibs.length).vs = (grA a 0).vs := z1
    have z2 : 0 ≤ (rgF a 1 a.ibs.length).pr := z2
    have z3 : (rgF a 1 a.ibs.length).pr ≤ 112 := z3
    have z5 : ((hdB SS n 0).toNat : Int) = (rgF a 1 a.ibs.length).pr + (if 1 < n then 128 else 0) + (a.his.length : Int) := z5
    have z6 : (if (1 : Int) < (n : Int) then (128 : Int) else 0) = if 1 < n then 128 else 0 := by split <;> split <;> omega
    rw [z6]
    have z7 : 0 ≤ (if 1 < n then (128 : Int) else 0) ∧ (if 1 < n then (128 : Int) else 0) ≤ 128 := by split <;> omega
    obtain ⟨z8, z9⟩ := z7
    clear z6
    generalize (if 1 < n then (128 : Int) else 0) = M at *
    generalize rgF a 1 a.ibs.length = S1 at *
    obtain ⟨vs1, pr1, p1⟩ := S1
    simp only at z1 z2 z3 z5 HVB
    have HZ5 := Lib.hid z5
    have HZ1 := Lib.hid z1
    clear z1 z5
    go_wp2_with (first
      | (at_builtin; refine wpList_app1G rfl (.tmp 26) (.tmp 33) rfl (w.heap.size + 1) (.slice (some ⟨w.heap.size + 1, 0, none⟩) 1 1) [63] (hdB SS n 0) (pr1 + M + ↑a.his.length) _ rfl rfl (HOB.out.later (alloc_below ..)) (heap_alloc_new _ _) HZ5.out.symm (by simp) (by rw [alloc_size]; exact Nat.le_succ_of_le (Nat.le_trans hsz0 HBB.out.size)) ?_; intro gg cap w6 hO6 hg6; have hap := app_keep0 (Nat.le_trans hsz0 HBB.out.size) _ HOB.out hg6; have HV6 := Lib.hid ((HVB.out.sl.on (alloc_below ..)).grownOff hg6 HVO.out); have HB6 := Lib.hid (HBB.out.trans hap.1); have HO6 := Lib.hid hO6; clear hO6 hg6 hap))
    clear r0 r1 r2 r3 z2 z3 z8 z9
    go_loopw [3, 5, 8] (fun s3 s5 s8 wr => ∃ m : Nat, 1 ≤ m ∧ m ≤ n + 1 ∧ s8 = .int .i64 m ∧ Hid (OB wr (w.heap.size + 1) s3 (63 :: rbo a (m - 1))) ∧ Hid (m ≤ n → SL wr wr.heap.size s5 (grA a (m - 1)).vs) ∧ Hid (Below (w.heap.size + 1) W0 wr)) (fun _ _ i _ => n + 1 - (intOf i).toNat)
    case atStart =>
      refine ⟨1, Nat.le_refl _, by omega, rfl, ?_, fun _ => ?_, HB6⟩
      · show OB _ _ _ (63 :: rbo a 0)
        rw [HR0.out]
        exact HO6.out
      · show SL _ _ _ (grA a 0).vs
        rw [← HZ1.out]
        exact HV6.out
    case round =>
      clear HB6 HO6 HV6 HZ1 HZ5 HVB HVO HOB HBB HOA HBA HO0
      obtain ⟨m, hm1, hm2, rfl, HO, HV, HB⟩ := hrel
      by_cases hm : m ≤ n
      · have hvv := HV.out hm
        have hvl : (grA a (m - 1)).vs.length ≤ 200 := Nat.le_trans (HVS.out (m - 1)) hl
        have hrl := HRL.out (m - 1) (by omega)
        have HST := Lib.hid (HRM.out m hm1 hm)
        obtain ⟨Av, cv, ev, k1, k2, k3⟩ := hvv
        subst ev
        have HVV := Lib.hid k3
        clear k3 HV
        generalize (grA a (m - 1)).vs = vs at *
        generalize rbo a (m - 1) = L at *
        obtain ⟨Au, cu, hu⟩ := HO.out.value
        subst hu
        have i1 : (m : Int) ≤ (n : Int) := by omega
        obtain ⟨LL, hLL⟩ : ∃ LL : List UInt8, LL = 63 :: L ++ vs := ⟨_, rfl⟩
        have HLN : Hid (LL.length ≤ 1000) := by show _ ≤ _; rw [hLL]; simp; omega
        have HLL := Lib.hid hLL
        clear hLL
        by_cases hmn : m < n
        · have i2 : (m : Int) < (n : Int) := by omega
          have HST2 : Hid (rbo a m = L ++ vs ++ [hdB SS n m]) := by show _ = _; rw [HST.out, if_pos hmn]
          go_wp2_with (first
            | (at_builtin; refine wpList_appS rfl (.tmp 40) (.tmp 41) rfl wr (w.heap.size + 1) (.slice Au (63 :: L).length cu) (63 :: L) vs Av cv rfl rfl (Below.refl _ _) HO.out (fun hp => by obtain ⟨bb, oo, hA, _, hcc⟩ := HVV.out hp; exact ⟨bb, oo, hA, hcc⟩) (by simp; omega) (Nat.le_trans hsz0 HB.out.size) ?_; intro v1 w1 hO1 hb1; have HB1 := Lib.hid (HB.out.trans hb1); obtain ⟨t0, t1, t2, t3⟩ := cellsA (HBR.out _ HB1.out); rw [← HLL.out] at hO1; obtain ⟨A1', c1', e1'⟩ := hO1.value; subst e1'; have HO1 := Lib.hid hO1; clear hO1 hb1))
          refine (HGR.out _ _ (HUP.out _ HB1.out)).mono ?_
          rintro e w2 ⟨v2, rfl, ho2, hb2⟩
          have hs1 : w.heap.size + 1 ≤ w1.heap.size := Nat.le_trans hsz0 HB1.out.size
          have HB2 := Lib.hid (HB1.out.trans (hb2.mono hs1))
          have HO2 := Lib.hid (HO1.out.later hb2)
          have HVO2 : Hid (∀ k, (Value.slice A1' LL.length c1').ownBlock = some k → Off v2 k) := fun k hk => ho2.off (World.ownsRow.lt HO1.out k hk).2
          have HV2 := Lib.hid ho2
          obtain ⟨A2', c2', e2'⟩ := ho2.value
          subst e2'
          clear hb2 ho2 t0 t1 t2 t3
          obtain ⟨z1, z2, z3, z4, z5⟩ := HGA.out m
          have z4 := z4 hm1
          rw [if_neg (show ¬ m = 0 by omega)] at z5
          have z6 : (if (m : Int) + 1 < (n : Int) then (128 : Int) else 0) = if m + 1 < n then 128 else 0 := by split <;> split <;> omega
          rw [z6]
          have z7 : 0 ≤ (if m + 1 < n then (128 : Int) else 0) ∧ (if m + 1 < n then (128 : Int) else 0) ≤ 128 := by split <;> omega
          obtain ⟨z8, z9⟩ := z7
          obtain ⟨z10, z11⟩ := z4
          clear z6
          generalize (if m + 1 < n then (128 : Int) else 0) = M2 at *
          generalize rgF a ((m : Int) + 1) a.ibs.length = S2 at *
          obtain ⟨vs2, pr2, p2⟩ := S2
          simp only at z1 z2 z3 z5 z10 z11 HV2
          have HZ5 := Lib.hid z5
          have HZ1 := Lib.hid z1
          clear z1 z5
          go_wp2_with (first
            | (at_builtin; refine wpList_app1G rfl (.tmp 55) (.tmp 60) rfl (w.heap.size + 1) (.slice A1' LL.length c1') LL (hdB SS n m) (pr2 + M2 + p2) _ rfl rfl (HO2.out.later (alloc_below ..)) (heap_alloc_new _ _) HZ5.out.symm (Nat.le_trans HLN.out (by omega)) (by rw [alloc_size]; exact Nat.le_succ_of_le (Nat.le_trans hsz0 HB2.out.size)) ?_; intro gg cap w6 hO6 hg6; have hap := app_keep0 (Nat.le_trans hsz0 HB2.out.size) _ HO2.out hg6; have HV6 := Lib.hid ((HV2.out.sl.on (alloc_below ..)).grownOff hg6 HVO2.out); have HB6 := Lib.hid (HB2.out.trans hap.1); have HO6 := Lib.hid hO6; clear hO6 hg6 hap))
          go_roundw
          case rel =>
            refine ⟨m + 1, by omega, by omega, by go_num, ?_, fun _ => ?_, HB6⟩
            · show OB _ _ _ (63 :: rbo a (m + 1 - 1))
              have e : 63 :: rbo a m = LL ++ [hdB SS n m] := by rw [HST2.out, HLL.out]; simp
              rw [Nat.add_sub_cancel, e]
              exact HO6.out
            · show SL _ _ _ (grA a (m + 1 - 1)).vs
              rw [Nat.add_sub_cancel, ← HZ1.out]
              exact HV6.out
          case measure => simp [intOf]; omega
        · have i2 : ¬ (m : Int) < (n : Int) := by omega
          have HST2 : Hid (rbo a m = L ++ vs) := by show _ = _; rw [HST.out, if_neg hmn, List.append_nil]
          go_wp2_with (first
            | (at_builtin; refine wpList_appS rfl (.tmp 40) (.tmp 41) rfl wr (w.heap.size + 1) (.slice Au (63 :: L).length cu) (63 :: L) vs Av cv rfl rfl (Below.refl _ _) HO.out (fun hp => by obtain ⟨bb, oo, hA, _, hcc⟩ := HVV.out hp; exact ⟨bb, oo, hA, hcc⟩) (by simp; omega) (Nat.le_trans hsz0 HB.out.size) ?_; intro v1 w1 hO1 hb1; have HB1 := Lib.hid (HB.out.trans hb1); rw [← HLL.out] at hO1; obtain ⟨A1', c1', e1'⟩ := hO1.value; subst e1'; have HO1 := Lib.hid hO1; clear hO1 hb1))
          go_roundw
          case rel =>
            refine ⟨m + 1, by omega, by omega, by go_num, ?_, fun h => absurd h (by omega), HB1⟩
            show OB _ _ _ (63 :: rbo a (m + 1 - 1))
            have e : 63 :: rbo a m = LL := by rw [HST2.out, HLL.out]; simp
            rw [Nat.add_sub_cancel, e]
            exact HO1.out
          case measure => simp [intOf]; omega
      · obtain rfl : m = n + 1 := by omega
        have hO := HO.out
        rw [Nat.add_sub_cancel, HRA.out] at hO
        have hrl := HRL.out n (Nat.le_refl _)
        rw [HRA.out] at hrl
        have i1 : ¬ ((n : Int) + 1 ≤ (n : Int)) := by omega
        obtain ⟨Au, cu, hu⟩ := hO.value
        subst hu
        obtain ⟨r0, r1, r2, r3⟩ := cellsA (HBR.out _ HB.out)
        have HHW := Lib.hid (HH.out.below (HUP.out _ HB.out))
        have HOO := Lib.hid hO
        clear hO HO HV
        generalize bodM SS n n = BM at *
        obtain ⟨LF, hLF⟩ : ∃ LF : List UInt8, LF = bodV a := ⟨_, rfl⟩
        have hLF2 : 63 :: LF = 63 :: BM ++ a.his := by rw [hLF, HBV.out]; rfl
        have HLF := Lib.hid hLF
        have HLF2 := Lib.hid hLF2
        have hlfn : 1 ≤ LF.length ∧ LF.length ≤ 419 := by rw [hLF, HBL.out]; omega
        clear hLF hLF2
        go_wp2_with (first
          | (at_builtin; refine wpList_appS rfl (.tmp 63) (.tmp 65) rfl wr (w.heap.size + 1) (.slice Au (63 :: BM).length cu) (63 :: BM) a.his A3 c3 rfl rfl (Below.refl _ _) HOO.out (fun hp => by obtain ⟨bb, oo, hA, _, hcc⟩ := HHW.out.rd hp; exact ⟨bb, oo, hA, hcc⟩) (by simp; omega) (Nat.le_trans hsz0 HB.out.size) ?_; intro v1 w1 hO1 hb1; have HB1 := Lib.hid (HB.out.trans hb1); clear r0 r1 r2 r3; obtain ⟨t0, t1, t2, t3⟩ := cellsA (HBR.out _ HB1.out); rw [← HLF2.out] at hO1; obtain ⟨gz, cz, ez, _, _⟩ := World.ownsRow.form hO1 (by simp); subst ez; have HO1 := Lib.hid hO1; clear hO1 hb1))
        refine (HPN.out w1 (HUP.out _ HB1.out)).mono ?_
        rintro e w9 ⟨rfl, q, rfl⟩
        have HB9 : Hid (Below (w.heap.size + 1) W0 (w1.drewN q)) := below_drewN HB1.out q
        have HO9 : Hid (OB (w1.drewN q) (w.heap.size + 1) (.slice (some ⟨gz, 0, none⟩) (63 :: LF).length cz) (63 :: LF)) := HO1.out
        clear HO1 HB1 t0 t1 t2 t3
        generalize w1.drewN q = w9 at *
        obtain ⟨l1, l2⟩ := hlfn
        cases hs1 with
        | false =>
          have HEE : Hid (encM a = 63 :: LF) := by show _ = _; rw [HE.out, HLF.out]; rfl
          go_wp2_with fail
          go_ret
          exact ⟨_, rfl, by rw [HEE.out]; exact HO9.out.sl, HUP.out _ HB9.out⟩
        | true =>
          have HEE : Hid (encM a = 63 :: LF ++ [lrcL LF]) := by show _ = _; rw [HE.out, HLF.out]; rfl
          have hcap : LF.length + 1 ≤ cz ∧ cz ≤ 9223372036854775807 := by
            obtain ⟨A', c', e, k1, k2, _⟩ := HO9.out.sl
            cases e
            unfold maxLen at k2
            exact ⟨by simpa using k1, by omega⟩
          obtain ⟨l3, l4⟩ := hcap
          have l5 : ¬ (cz = 1) := by omega
          have hS : SL w9 w9.heap.size (.slice (some ⟨gz, 1, none⟩) LF.length (cz - 1)) LF := by
            have := SL.cut (n := 1) HO9.out.sl (by simp; omega)
            simpa using this
          have HS := Lib.hid hS
          clear hS
          go_wp2_with fail
          refine (rsum5_any LF _ w9 _ HS.out).mono ?_
          rintro e w10 ⟨rfl, rfl⟩
          go_wp2_with (first
            | (at_builtin; refine wpList_app1G rfl (.tmp 70) (.tmp 74) rfl (w.heap.size + 1) (.slice (some ⟨gz, 0, none⟩) (63 :: LF).length cz) (63 :: LF) (lrcL LF) ((lrcL LF).toNat : Int) _ rfl rfl (HO9.out.later (alloc_below ..)) (heap_alloc_new _ _) rfl (by simp; omega) (by rw [alloc_size]; exact Nat.le_succ_of_le (Nat.le_trans hsz0 HB9.out.size)) ?_; intro g2 cap w11 hO11 hg11; have hap := app_keep0 (Nat.le_trans hsz0 HB9.out.size) _ HO9.out hg11; have HB11 := Lib.hid (HB9.out.trans hap.1); have HO11 := Lib.hid hO11; clear hO11 hg11 hap))
          go_ret
          exact ⟨_, rfl, by rw [HEE.out]; exact HO11.out.sl, HUP.out _ HB11.out⟩
end Go.Proofs.YtnbggokmiokhlaaDoor
