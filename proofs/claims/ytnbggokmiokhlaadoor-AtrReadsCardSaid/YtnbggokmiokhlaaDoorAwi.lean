/-
  IFS and Sum of the reference, the law AtrReads: the walks (gen5_ifsr.py).
-/
import Derived.Test.YtnbggokmiokhlaaDoorAwh
namespace Go.Proofs.YtnbggokmiokhlaaDoor
set_option linter.unusedVariables false
set_option linter.unusedSimpArgs false
open Go.RowKit

set_option maxRecDepth 100000 in
set_option maxHeartbeats 3200000 in
theorem rifsV_any (a : At) (v : Value) (w : World) (h : AT w v a) (hg : ∀ x ∈ a.ibs, x.g ≤ 9223372036854775807) (hl : a.ibs.length ≤ 200) :
    Calls Tryd.prog 28 #[v] w fun e w' => e = .returned (.int .i64 (ifsV a)) ∧ Below w.heap.size w w' := by
  have HC := Lib.hid (fun (W : World) (hW : Below w.heap.size w W) => rchka_any a v W (h.on hW) hg hl)
  have HVB := Lib.hid (fun (hv : chkE a = 0) (k : Nat) (hk : k < a.ibs.length) => ib_facts (chnB_at a.prs a.ibs Ib.zero (valid_of (chkE_valid hv)).chn k hk).ib)
  have HD : Hid (ifsV a = if chkE a = 0 then (if ownO a.ibs 0 = true ∧ 1 ≤ ownV a.ibs 0 ∧ ownV a.ibs 0 ≤ 254 then ownV a.ibs 0 else 32) else 0) := rfl
  have HATA := Lib.hid (fun (k : Nat) => @own_at a.ibs 0 k)
  have HNOA := Lib.hid (@own_no a.ibs 0)
  obtain ⟨v1, v2, v3, rfl, h1, h2, h3⟩ := h
  obtain ⟨A1, c1, rfl, a1, b1, d1⟩ := h1
  obtain ⟨A2, c2, rfl, a2, b2, d2⟩ := h2
  obtain ⟨A3, c3, rfl, a3, b3, d3⟩ := h3
  unfold maxLen at b1 b2 b3
  have D1 := Lib.hid d1
  clear hg d1 d2 d3
  generalize chkE a = E at *
  have hal := Lib.hid (alloc_below w (.cells #[.bool a.inv, .slice A1 a.ibs.length c1, .slice A2 a.prs.length c2, .slice A3 a.his.length c3] 26))
  have hrow := Lib.hid (heap_alloc_new w (.cells #[.bool a.inv, .slice A1 a.ibs.length c1, .slice A2 a.prs.length c2, .slice A3 a.his.length c3] 26))
  by_cases h0 : E = 0
  case neg =>
    have hn : (E != 0) = true := by rw [bne_iff_ne]; exact h0
    have HD2 : Hid (ifsV a = 0) := by show _ = _; rw [HD.out, if_neg h0]
    go_enter Tryd.func28, Tryd.ntmps28
    go_wp2_with fail
    refine (HC.out _ hal.out).mono ?_
    rintro e w1 ⟨rfl, hb1⟩
    go_wp2_with fail
    go_ret
    exact ⟨ret_int HD2.out.symm, hal.out.trans (hb1.mono hal.out.size)⟩
  subst h0
  have HVK := Lib.hid (HVB.out (by first | exact trivial | rfl))
  clear HVB
  go_enter Tryd.func28, Tryd.ntmps28
  go_wp2_with fail
  generalize w.alloc (.cells #[.bool a.inv, .slice A1 a.ibs.length c1, .slice A2 a.prs.length c2, .slice A3 a.his.length c3] 26) = W0 at *
  refine (HC.out _ hal.out).mono ?_
  rintro e w1 ⟨rfl, hb1⟩
  have HB1 := Lib.hid hb1
  have HUP : Hid (∀ W, Below W0.heap.size W0 W → Below w.heap.size w W) := fun W hW => hal.out.trans (hW.mono hal.out.size)
  have HRW : Hid (∀ W, Below W0.heap.size W0 W → W.heap[w.heap.size]? = some (.cells #[.bool a.inv, .slice A1 a.ibs.length c1, .slice A2 a.prs.length c2, .slice A3 a.his.length c3] 26 (0, 0))) := fun W hW => (hW.block _ (row_lt hrow.out)).trans hrow.out
  clear hb1
  go_wp2_with fail
  go_loopw [3] (fun i wr => ∃ k : Nat, k ≤ a.ibs.length ∧ i = .int .i64 k ∧ Hid (∀ j, j < k → ownK 0 (a.ibs.getD j Ib.zero) = false) ∧ Hid (Below W0.heap.size W0 wr)) (fun i _ => a.ibs.length - (intOf i).toNat)
  case atStart => exact ⟨0, Nat.zero_le _, rfl, fun j hj => absurd hj (by omega), HB1⟩
  case round =>
    obtain ⟨k, hk, rfl, HE, HB⟩ := hrel
    obtain ⟨r0, r1, r2, r3⟩ := cellsA (HRW.out _ HB.out)
    by_cases hlt : k < a.ibs.length
    · obtain ⟨b', o', rfl, hb', hc'⟩ := D1.out (by omega)
      have hi := (hc' k hlt).keep hb' (fun p hp => (HUP.out _ HB.out).cell hp)
      have HAT := Lib.hid (HATA.out k hlt)
      have HSN := Lib.hid (@no_snoc (ownK 0) a.ibs k HE.out)
      have hib := HVK.out k hlt
      have hbx := alloc_below wr (.cells #[.int .i64 (a.ibs.getD k Ib.zero).g, .int .i64 (a.ibs.getD k Ib.zero).k, .int .i64 (a.ibs.getD k Ib.zero).v, .int .i64 (a.ibs.getD k Ib.zero).p] 60)
      clear hc'
      generalize a.ibs.getD k Ib.zero = x at *
      obtain ⟨xg, xk, xv, xp⟩ := x
      obtain ⟨g1, g2, g3, g4⟩ := hi
      simp only at g1 g2 g3 g4 hib hbx HAT
      obtain ⟨q1, q2, q3, q4, q5⟩ := hib
      have HBX := Lib.hid (HB.out.trans (hbx.mono HB.out.size))
      clear hbx
      by_cases x1 : 3 ≤ xg
      case neg =>
        have HSF := Lib.hid (HSN.out (by simp [ownK, ownB]; intros; omega))
        go_wp2_with fail
        go_roundw
        case rel => exact ⟨k + 1, by omega, by go_num, HSF, HBX⟩
        case measure => simp [intOf]; omega
      by_cases x2 : xk = 0
      case neg =>
        have x2b : (xk == 0) = false := by rw [beq_eq_false_iff_ne]; exact x2
        have HSF := Lib.hid (HSN.out (by simp [ownK, x2]))
        go_wp2_with fail
        go_roundw
        case rel => exact ⟨k + 1, by omega, by go_num, HSF, HBX⟩
        case measure => simp [intOf]; omega
      by_cases x3 : xp = 1
      case neg =>
        have x2b : (xk == 0) = true := by rw [beq_iff_eq]; exact x2
        have x3b : (xp == 1) = false := by rw [beq_eq_false_iff_ne]; exact x3
        have HSF := Lib.hid (HSN.out (by simp [ownK, ownB, x3]))
        have HX2 := Lib.hid x2
        clear x2
        go_wp2_with fail
        go_roundw
        case rel => exact ⟨k + 1, by omega, by go_num, HSF, HBX⟩
        case measure => simp [intOf]; omega
      have HON : Hid (ownK 0 ⟨xg, xk, xv, xp⟩ = true) := by show _ = _; simp [ownK, ownB, x1, x2, x3]
      subst x2 x3
      by_cases x4 : 1 ≤ xv
      case neg =>
        have HD2 : Hid (ifsV a = 32) := by show _ = _; rw [HD.out, if_pos (by first | exact trivial | rfl), (HAT.out HON.out HE.out).1, (HAT.out HON.out HE.out).2]; rw [if_neg (by omega)]
        go_wp2_with fail
        go_ret
        exact ⟨ret_int HD2.out.symm, HUP.out _ HBX.out⟩
      by_cases x5 : xv ≤ 254
      case neg =>
        have HD2 : Hid (ifsV a = 32) := by show _ = _; rw [HD.out, if_pos (by first | exact trivial | rfl), (HAT.out HON.out HE.out).1, (HAT.out HON.out HE.out).2]; rw [if_neg (by omega)]
        go_wp2_with fail
        go_ret
        exact ⟨ret_int HD2.out.symm, HUP.out _ HBX.out⟩
      have HD2 : Hid (ifsV a = xv) := by show _ = _; rw [HD.out, if_pos (by first | exact trivial | rfl), (HAT.out HON.out HE.out).1, (HAT.out HON.out HE.out).2]; rw [if_pos ⟨by first | exact trivial | rfl, x4, x5⟩]
      go_wp2_with fail
      go_ret
      exact ⟨ret_int HD2.out.symm, HUP.out _ HBX.out⟩
    · obtain rfl : a.ibs.length = k := by omega
      have HD2 : Hid (ifsV a = 32) := by show _ = _; rw [HD.out, if_pos (by first | exact trivial | rfl), (HNOA.out HE.out).1, (HNOA.out HE.out).2]; simp
      go_wp2_with fail
      go_ret
      exact ⟨ret_int HD2.out.symm, HUP.out _ HB.out⟩

set_option maxRecDepth 100000 in
set_option maxHeartbeats 3200000 in
theorem rsumV_any (a : At) (v : Value) (w : World) (h : AT w v a) (hg : ∀ x ∈ a.ibs, x.g ≤ 9223372036854775807) (hl : a.ibs.length ≤ 200) :
    Calls Tryd.prog 30 #[v] w fun e w' => e = .returned (.int .i64 (sumV a)) ∧ Below w.heap.size w w' := by
  have HC := Lib.hid (fun (W : World) (hW : Below w.heap.size w W) => rchka_any a v W (h.on hW) hg hl)
  have HVB := Lib.hid (fun (hv : chkE a = 0) (k : Nat) (hk : k < a.ibs.length) => ib_facts (chnB_at a.prs a.ibs Ib.zero (valid_of (chkE_valid hv)).chn k hk).ib)
  have HD : Hid (sumV a = if chkE a = 0 then (if ownO a.ibs 2 = true ∧ ownV a.ibs 2 % 2 = 1 then 1 else 0) else 0) := rfl
  have HATA := Lib.hid (fun (k : Nat) => @own_at a.ibs 2 k)
  have HNOA := Lib.hid (@own_no a.ibs 2)
  obtain ⟨v1, v2, v3, rfl, h1, h2, h3⟩ := h
  obtain ⟨A1, c1, rfl, a1, b1, d1⟩ := h1
  obtain ⟨A2, c2, rfl, a2, b2, d2⟩ := h2
  obtain ⟨A3, c3, rfl, a3, b3, d3⟩ := h3
  unfold maxLen at b1 b2 b3
  have D1 := Lib.hid d1
  clear hg d1 d2 d3
  generalize chkE a = E at *
  have hal := Lib.hid (alloc_below w (.cells #[.bool a.inv, .slice A1 a.ibs.length c1, .slice A2 a.prs.length c2, .slice A3 a.his.length c3] 26))
  have hrow := Lib.hid (heap_alloc_new w (.cells #[.bool a.inv, .slice A1 a.ibs.length c1, .slice A2 a.prs.length c2, .slice A3 a.his.length c3] 26))
  by_cases h0 : E = 0
  case neg =>
    have hn : (E != 0) = true := by rw [bne_iff_ne]; exact h0
    have HD2 : Hid (sumV a = 0) := by show _ = _; rw [HD.out, if_neg h0]
    go_enter Tryd.func30, Tryd.ntmps30
    go_wp2_with fail
    refine (HC.out _ hal.out).mono ?_
    rintro e w1 ⟨rfl, hb1⟩
    go_wp2_with fail
    go_ret
    exact ⟨ret_int HD2.out.symm, hal.out.trans (hb1.mono hal.out.size)⟩
  subst h0
  have HVK := Lib.hid (HVB.out (by first | exact trivial | rfl))
  clear HVB
  go_enter Tryd.func30, Tryd.ntmps30
  go_wp2_with fail
  generalize w.alloc (.cells #[.bool a.inv, .slice A1 a.ibs.length c1, .slice A2 a.prs.length c2, .slice A3 a.his.length c3] 26) = W0 at *
  refine (HC.out _ hal.out).mono ?_
  rintro e w1 ⟨rfl, hb1⟩
  have HB1 := Lib.hid hb1
  have HUP : Hid (∀ W, Below W0.heap.size W0 W → Below w.heap.size w W) := fun W hW => hal.out.trans (hW.mono hal.out.size)
  have HRW : Hid (∀ W, Below W0.heap.size W0 W → W.heap[w.heap.size]? = some (.cells #[.bool a.inv, .slice A1 a.ibs.length c1, .slice A2 a.prs.length c2, .slice A3 a.his.length c3] 26 (0, 0))) := fun W hW => (hW.block _ (row_lt hrow.out)).trans hrow.out
  clear hb1
  go_wp2_with fail
  go_loopw [3] (fun i wr => ∃ k : Nat, k ≤ a.ibs.length ∧ i = .int .i64 k ∧ Hid (∀ j, j < k → ownK 2 (a.ibs.getD j Ib.zero) = false) ∧ Hid (Below W0.heap.size W0 wr)) (fun i _ => a.ibs.length - (intOf i).toNat)
  case atStart => exact ⟨0, Nat.zero_le _, rfl, fun j hj => absurd hj (by omega), HB1⟩
  case round =>
    obtain ⟨k, hk, rfl, HE, HB⟩ := hrel
    obtain ⟨r0, r1, r2, r3⟩ := cellsA (HRW.out _ HB.out)
    by_cases hlt : k < a.ibs.length
    · obtain ⟨b', o', rfl, hb', hc'⟩ := D1.out (by omega)
      have hi := (hc' k hlt).keep hb' (fun p hp => (HUP.out _ HB.out).cell hp)
      have HAT := Lib.hid (HATA.out k hlt)
      have HSN := Lib.hid (@no_snoc (ownK 2) a.ibs k HE.out)
      have hib := HVK.out k hlt
      have hbx := alloc_below wr (.cells #[.int .i64 (a.ibs.getD k Ib.zero).g, .int .i64 (a.ibs.getD k Ib.zero).k, .int .i64 (a.ibs.getD k Ib.zero).v, .int .i64 (a.ibs.getD k Ib.zero).p] 60)
      clear hc'
      generalize a.ibs.getD k Ib.zero = x at *
      obtain ⟨xg, xk, xv, xp⟩ := x
      obtain ⟨g1, g2, g3, g4⟩ := hi
      simp only at g1 g2 g3 g4 hib hbx HAT
      obtain ⟨q1, q2, q3, q4, q5⟩ := hib
      have HBX := Lib.hid (HB.out.trans (hbx.mono HB.out.size))
      clear hbx
      by_cases x1 : 3 ≤ xg
      case neg =>
        have HSF := Lib.hid (HSN.out (by simp [ownK, ownB]; intros; omega))
        go_wp2_with fail
        go_roundw
        case rel => exact ⟨k + 1, by omega, by go_num, HSF, HBX⟩
        case measure => simp [intOf]; omega
      by_cases x2 : xk = 2
      case neg =>
        have x2b : (xk == 2) = false := by rw [beq_eq_false_iff_ne]; exact x2
        have HSF := Lib.hid (HSN.out (by simp [ownK, x2]))
        go_wp2_with fail
        go_roundw
        case rel => exact ⟨k + 1, by omega, by go_num, HSF, HBX⟩
        case measure => simp [intOf]; omega
      by_cases x3 : xp = 1
      case neg =>
        have x2b : (xk == 2) = true := by rw [beq_iff_eq]; exact x2
        have x3b : (xp == 1) = false := by rw [beq_eq_false_iff_ne]; exact x3
        have HSF := Lib.hid (HSN.out (by simp [ownK, ownB, x3]))
        have HX2 := Lib.hid x2
        clear x2
        go_wp2_with fail
        go_roundw
        case rel => exact ⟨k + 1, by omega, by go_num, HSF, HBX⟩
        case measure => simp [intOf]; omega
      have HON : Hid (ownK 2 ⟨xg, xk, xv, xp⟩ = true) := by show _ = _; simp [ownK, ownB, x1, x2, x3]
      subst x2 x3
      by_cases x4 : xv % 2 = 1
      case neg =>
        have x4b : (xv % 2 == 1) = false := by rw [beq_eq_false_iff_ne]; exact x4
        have HD2 : Hid (sumV a = 0) := by show _ = _; rw [HD.out, if_pos (by first | exact trivial | rfl), (HAT.out HON.out HE.out).1, (HAT.out HON.out HE.out).2]; rw [if_neg (by omega)]
        go_wp2_with fail
        go_ret
        exact ⟨ret_int HD2.out.symm, HUP.out _ HBX.out⟩
      have x4b : (xv % 2 == 1) = true := by rw [beq_iff_eq]; exact x4
      have HX4 := Lib.hid x4
      have HD2 : Hid (sumV a = 1) := by show _ = _; rw [HD.out, if_pos (by first | exact trivial | rfl), (HAT.out HON.out HE.out).1, (HAT.out HON.out HE.out).2]; rw [if_pos ⟨by first | exact trivial | rfl, HX4.out⟩]
      clear x4
      go_wp2_with fail
      go_ret
      exact ⟨ret_int HD2.out.symm, HUP.out _ HBX.out⟩
    · obtain rfl : a.ibs.length = k := by omega
      have HD2 : Hid (sumV a = 0) := by show _ = _; rw [HD.out, if_pos (by first | exact trivial | rfl), (HNOA.out HE.out).1, (HNOA.out HE.out).2]; simp
      go_wp2_with fail
      go_ret
      exact ⟨ret_int HD2.out.symm, HUP.out _ HB.out⟩

set_option maxRecDepth 100000 in
set_option maxHeartbeats 1600000 in
theorem law_reads (a : At) (v : Value) (w : World) (h : AT w v a) (hg : ∀ x ∈ a.ibs, x.g ≤ 9223372036854775807) (hT : Tb w) :
    Calls Tryd.prog 5 #[v] w fun e w' => e = .returned (.bool true) ∧ Below w.heap.size w w' := by
  have HF := Lib.hid (fun (W : World) (hW : Below w.heap.size w W) => fewa_any a v W (h.on hW))
  have HA := Lib.hid (fun (W : World) (hW : Below w.heap.size w W) => works_any W (hT.on hW))
  have K1 := fun (hf : fewB a = true) (W : World) (hW : Below w.heap.size w W) => pifsV_any a v W (h.on hW) hg (few_len hf) (hT.on hW)
  have K2 := fun (hf : fewB a = true) (W : World) (hW : Below w.heap.size w W) => rifsV_any a v W (h.on hW) hg (few_len hf)
  have K3 := fun (hf : fewB a = true) (W : World) (hW : Below w.heap.size w W) => psumV_any a v W (h.on hW) hg (few_len hf) (hT.on hW)
  have K4 := fun (hf : fewB a = true) (W : World) (hW : Below w.heap.size w W) => rsumV_any a v W (h.on hW) hg (few_len hf)
  generalize ifsV a = X at *
  generalize sumV a = Y at *
  generalize fewB a = FA at *
  have K1 := Lib.hid K1
  have K2 := Lib.hid K2
  have K3 := Lib.hid K3
  have K4 := Lib.hid K4
  obtain ⟨v1, v2, v3, rfl, h1, h2, h3⟩ := h
  obtain ⟨A1, c1, rfl, _, _, _⟩ := h1
  obtain ⟨A2, c2, rfl, _, _, _⟩ := h2
  obtain ⟨A3, c3, rfl, _, _, _⟩ := h3
  clear hg hT
  have hal := Lib.hid (alloc_below w (.cells #[.bool a.inv, .slice A1 a.ibs.length c1, .slice A2 a.prs.length c2, .slice A3 a.his.length c3] 26))
  have hrow := Lib.hid (heap_alloc_new w (.cells #[.bool a.inv, .slice A1 a.ibs.length c1, .slice A2 a.prs.length c2, .slice A3 a.his.length c3] 26))
  go_enter Tryd.func5, Tryd.ntmps5
  go_wp2_with fail
  generalize w.alloc (.cells #[.bool a.inv, .slice A1 a.ibs.length c1, .slice A2 a.prs.length c2, .slice A3 a.his.length c3] 26) = W0 at *
  have HUP : Hid (∀ W, Below W0.heap.size W0 W → Below w.heap.size w W) := fun W hW => hal.out.trans (hW.mono hal.out.size)
  have HS : Hid (∀ W, Below W0.heap.size W0 W → (W.cell? ⟨w.heap.size, 0, none⟩ = some (.bool a.inv) ∧ W.cell? ⟨w.heap.size, 1, none⟩ = some (.slice A1 a.ibs.length c1) ∧ W.cell? ⟨w.heap.size, 2, none⟩ = some (.slice A2 a.prs.length c2) ∧ W.cell? ⟨w.heap.size, 3, none⟩ = some (.slice A3 a.his.length c3))) := fun W hW =>
    cellsA ((hW.block _ (row_lt hrow.out)).trans hrow.out)
  have HK : Hid (∀ W w', Below W0.heap.size W0 W → Below W.heap.size W w' → Below W0.heap.size W0 w') := fun W w' h h' => h.trans (h'.mono h.size)
  refine (HF.out _ hal.out).mono ?_
  rintro e w1 ⟨rfl, hb1⟩
  cases FA with
  | false =>
    go_wp2_with fail
    refine (HA.out _ (HUP.out _ hb1)).mono ?_
    rintro e w2 ⟨rfl, hb2⟩
    go_wp2_with fail
    go_ret
    exact ⟨rfl, HUP.out _ (HK.out _ _ hb1 hb2)⟩
  | true =>
    have J1 := Lib.hid (K1.out (by first | exact trivial | rfl))
    have J2 := Lib.hid (K2.out (by first | exact trivial | rfl))
    have J3 := Lib.hid (K3.out (by first | exact trivial | rfl))
    have J4 := Lib.hid (K4.out (by first | exact trivial | rfl))
    clear K1 K2 K3 K4
    have hb1d := hb1.drew
    go_wp2_with fail
    go_region_held3 (fun w' => w'.cell? ⟨w.heap.size, 0, none⟩ = some (.bool a.inv) ∧ w'.cell? ⟨w.heap.size, 1, none⟩ = some (.slice A1 a.ibs.length c1) ∧ w'.cell? ⟨w.heap.size, 2, none⟩ = some (.slice A2 a.prs.length c2) ∧ w'.cell? ⟨w.heap.size, 3, none⟩ = some (.slice A3 a.his.length c3))
      (first
        | (go_keep; done)
        | exact HS.out _ hb1d
        | exact HS.out _ hb2
        | exact HS.out _ hb3
        | exact HS.out _ hb4
        | exact HS.out _ hb5
        | exact HS.out _ hb6)
      (first
        | (go_at_call 27; (with_reducible refine (J1.out _ (HUP.out _ hb1d)).mono ?_); rintro e w2 ⟨rfl, hb2'⟩; have hb2 := HK.out _ _ hb1d hb2'; clear hb2')
        | (go_at_call 28; (with_reducible refine (J2.out _ (HUP.out _ hb2)).mono ?_); rintro e w3 ⟨rfl, hb3'⟩; have hb3 := HK.out _ _ hb2 hb3'; clear hb3')
        | (go_at_call 29; (with_reducible refine (J3.out _ (HUP.out _ hb3)).mono ?_); rintro e w4 ⟨rfl, hb4'⟩; have hb4 := HK.out _ _ hb3 hb4'; clear hb4')
        | (go_at_call 30; (with_reducible refine (J4.out _ (HUP.out _ hb4)).mono ?_); rintro e w5 ⟨rfl, hb5'⟩; have hb5 := HK.out _ _ hb4 hb5'; clear hb5')
        | (go_at_call 20; (with_reducible refine (HA.out _ (HUP.out _ hb5)).mono ?_); rintro e w6 ⟨rfl, hb6'⟩; have hb6 := HK.out _ _ hb5 hb6'; clear hb6'))
    go_wp2_with fail
    go_ret
    exact ⟨rfl, HUP.out _ hb6⟩
end Go.Proofs.YtnbggokmiokhlaaDoor
