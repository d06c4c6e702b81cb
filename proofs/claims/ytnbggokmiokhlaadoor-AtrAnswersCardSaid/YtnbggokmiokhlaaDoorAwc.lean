/-
  Right of the reference: the walk (gen5_right.py).
-/
import Derived.Test.YtnbggokmiokhlaaDoorAwb
import Derived.Test.YtnbggokmiokhlaaDoorAvs
namespace Go.Proofs.YtnbggokmiokhlaaDoor
set_option linter.unusedVariables false
set_option linter.unusedSimpArgs false
open Go.RowKit

theorem rokB_drop (P : List Int) (g k p : Int) (l : List Ib) (j : Nat) (hj : j < l.length) : rokB P g k p (l.drop j) = (rstB P g k p (l.getD j Ib.zero) && rokB P (l.getD j Ib.zero).g (l.getD j Ib.zero).k (rnxP p (l.getD j Ib.zero)) (l.drop (j + 1))) := by
  rw [List.drop_eq_getElem_cons hj, gD_ib l j hj]
  rfl
theorem valB_ref (a : At) : valB a = (offB a.prs && decide (a.his.length ≤ 15) && rokB a.prs 0 0 (a.prs.getD 0 0) a.ibs) := by
  unfold valB
  by_cases h : offB a.prs = true
  · rw [rok_valid h]
  · rw [Bool.not_eq_true] at h
    rw [h]; rfl

set_option maxRecDepth 100000 in
set_option maxHeartbeats 6400000 in
theorem rright_any (a : At) (v : Value) (w : World) (h : AT w v a) (hg : ∀ x ∈ a.ibs, x.g ≤ 9223372036854775807) :
    Calls Tryd.prog 85 #[v] w fun e w' => e = .returned (.bool (valB a)) ∧ Below w.heap.size w w' := by
  obtain ⟨v1, v2, v3, rfl, h1, h2, h3⟩ := h
  have HO := Lib.hid (fun (W : World) (hW : Below w.heap.size w W) => rpro_any a.prs v2 W W.heap.size (h2.on hW))
  have HH := Lib.hid (fun (x : Int) (W : World) (hW : Below w.heap.size w W) => rhas_any a.prs x v2 W W.heap.size (h2.on hW))
  have HV : Hid (valB a = (offB a.prs && decide (a.his.length ≤ 15) && rokB a.prs 0 0 (a.prs.getD 0 0) a.ibs)) := valB_ref a
  have HP := Lib.hid (@offB_len a.prs)
  have HGB := Lib.hid (fun k hk => hg _ (getD_mem a.ibs k hk))
  obtain ⟨A1, c1, rfl, a1, b1, d1⟩ := h1
  obtain ⟨A2, c2, rfl, a2, b2, d2⟩ := h2
  obtain ⟨A3, c3, rfl, a3, b3, d3⟩ := h3
  unfold maxLen at b1 b2 b3
  have D1 := Lib.hid d1
  have D2 := Lib.hid d2
  clear d1 d2 d3 hg
  generalize offB a.prs = OB at *
  have hal := Lib.hid (alloc_below w (.cells #[.bool a.inv, .slice A1 a.ibs.length c1, .slice A2 a.prs.length c2, .slice A3 a.his.length c3] 26))
  have hrow := Lib.hid (heap_alloc_new w (.cells #[.bool a.inv, .slice A1 a.ibs.length c1, .slice A2 a.prs.length c2, .slice A3 a.his.length c3] 26))
  have hsz : Hid (w.heap.size < (w.alloc (.cells #[.bool a.inv, .slice A1 a.ibs.length c1, .slice A2 a.prs.length c2, .slice A3 a.his.length c3] 26)).heap.size) := by show _ < _; rw [alloc_size]; omega
  cases OB with
  | false =>
    have HR : Hid (valB a = false) := by show _ = _; rw [HV.out]; rfl
    go_enter Tryd.func85, Tryd.ntmps85
    go_wp2_with fail
    refine (HO.out _ hal.out).mono ?_
    rintro e w1 ⟨rfl, n, rfl⟩
    go_wp2_with fail
    go_ret
    exact ⟨ret_bool HR.out.symm, by first | exact hal.out | exact below_drewN hal.out n⟩
  | true =>
    have hp := HP.out (by first | exact trivial | rfl)
    obtain ⟨bp, op, rfl, hbp, hcp⟩ := D2.out hp
    have gq := hcp 0 hp
    simp only [Nat.add_zero] at gq
    have hP' : (0 : Int) < (a.prs.length : Int) := by omega
    clear hcp D2
    by_cases hh : a.his.length ≤ 15
    case neg =>
      have HR : Hid (valB a = false) := by show _ = _; rw [HV.out, decide_eq_false hh]; rfl
      have hh' : ¬ ((a.his.length : Int) ≤ 15) := by omega
      go_enter Tryd.func85, Tryd.ntmps85
      go_wp2_with fail
      refine (HO.out _ hal.out).mono ?_
      rintro e w1 ⟨rfl, n, rfl⟩
      go_wp2_with fail
      go_ret
      exact ⟨ret_bool HR.out.symm, by first | exact hal.out | exact below_drewN hal.out n⟩
    have HVR : Hid (valB a = rokB a.prs 0 0 (a.prs.getD 0 0) a.ibs) := by show _ = _; rw [HV.out, decide_eq_true hh]; rfl
    have hh' : (a.his.length : Int) ≤ 15 := by omega
    have HRL := Lib.hid (rokB_drop a.prs)
    have HRR : Hid (∀ P g k p x, rstB P g k p x = if x.g < 1 ∨ x.k < 0 ∨ 2 < x.k ∨ x.v < 0 ∨ 255 < x.v then false else if x.g < g ∨ (x.g = g ∧ x.k ≤ k) then false else if (x.g = 1 ∧ x.p ≠ 0) ∨ (x.g = 2 ∧ x.p ≠ P.getD 0 0) then false else if 3 ≤ x.g then (if hasN P x.p = false ∨ x.p < p ∨ (x.g = g ∧ x.p ≠ p) then false else if 4 ≤ x.g ∧ x.g ≠ g ∧ x.g - 1 ≠ g then false else true) else true) := fun _ _ _ _ _ => rfl
    generalize hR : rokB a.prs 0 0 (a.prs.getD 0 0) a.ibs = R at *
    have HR0 := Lib.hid hR
    clear hR
    have HPD : Hid (∃ q, q = a.prs.getD 0 0) := ⟨_, rfl⟩
    generalize hqq : a.prs.getD 0 0 = q at *
    have HQ := Lib.hid hqq
    clear hqq
    go_enter Tryd.func85, Tryd.ntmps85
    go_wp2_with fail
    refine (HO.out _ hal.out).mono ?_
    rintro e w1 ⟨rfl, n0, rfl⟩
    have HB1 := Lib.hid (below_drewN hal.out n0)
    have HROW1 : Hid (((w.alloc (.cells #[.bool a.inv, .slice A1 a.ibs.length c1, .slice (some ⟨bp, op, none⟩) a.prs.length c2, .slice A3 a.his.length c3] 26)).drewN n0).heap[w.heap.size]? = some (.cells #[.bool a.inv, .slice A1 a.ibs.length c1, .slice (some ⟨bp, op, none⟩) a.prs.length c2, .slice A3 a.his.length c3] 26 (0, 0))) := hrow.out
    have hz1 : Hid (w.heap.size < ((w.alloc (.cells #[.bool a.inv, .slice A1 a.ibs.length c1, .slice (some ⟨bp, op, none⟩) a.prs.length c2, .slice A3 a.his.length c3] 26)).drewN n0).heap.size) := hsz.out
    have gq1 := (HB1.out.cell (p := ⟨bp, op, none⟩) hbp).trans gq
    generalize (w.alloc (.cells #[.bool a.inv, .slice A1 a.ibs.length c1, .slice (some ⟨bp, op, none⟩) a.prs.length c2, .slice A3 a.his.length c3] 26)).drewN n0 = w1 at *
    obtain ⟨r0, r1, r2, r3⟩ := cellsA HROW1.out
    go_wp2_with fail
    go_loopw [3, 4, 5, 6] (fun s3 s4 s5 i wr => ∃ (k : Nat) (g kd p : Int), k ≤ a.ibs.length ∧ i = .int .i64 k ∧ s3 = .int .i64 g ∧ s4 = .int .i64 kd ∧ s5 = .int .i64 p ∧ Hid (rokB a.prs g kd p (a.ibs.drop k) = R) ∧ Hid (Below w1.heap.size w1 wr)) (fun _ _ _ i _ => a.ibs.length - (intOf i).toNat)
    case atStart => exact ⟨0, 0, 0, q, Nat.zero_le _, rfl, rfl, rfl, rfl, HR0.out, Below.refl _ _⟩
    case round =>
      clear r0 r1 r2 r3
      obtain ⟨k, g, kd, p, hk, rfl, rfl, rfl, rfl, HST, HB⟩ := hrel
      obtain ⟨r0, r1, r2, r3⟩ := cellsA ((HB.out.block _ hz1.out).trans HROW1.out)
      have HBW := Lib.hid (HB1.out.trans (HB.out.mono (Nat.le_of_lt hz1.out)))
      by_cases hlt : k < a.ibs.length
      · obtain ⟨b', o', rfl, hb', hc'⟩ := D1.out (by omega)
        have hi := (hc' k hlt).keep hb' (fun p hp => HBW.out.cell hp)
        have hst := HST.out
        rw [HRL.out g kd p a.ibs k hlt, HRR.out, HQ.out] at hst
        have hgb := HGB.out k hlt
        have hbx := alloc_below wr (.cells #[.int .i64 (a.ibs.getD k Ib.zero).g, .int .i64 (a.ibs.getD k Ib.zero).k, .int .i64 (a.ibs.getD k Ib.zero).v, .int .i64 (a.ibs.getD k Ib.zero).p] 60)
        have hrx := heap_alloc_new wr (.cells #[.int .i64 (a.ibs.getD k Ib.zero).g, .int .i64 (a.ibs.getD k Ib.zero).k, .int .i64 (a.ibs.getD k Ib.zero).v, .int .i64 (a.ibs.getD k Ib.zero).p] 60)
        clear hc'
        generalize a.ibs.getD k Ib.zero = x at *
        obtain ⟨xg, xk, xv, xp⟩ := x
        obtain ⟨g1, g2, g3, g4⟩ := hi
        simp only [rnxP] at g1 g2 g3 g4 hst hbx hrx hgb
        have HHX := Lib.hid (HH.out xp)
        generalize hasN a.prs xp = Y at *
        have HS := Lib.hid hst
        have HBX := Lib.hid (HB.out.trans (hbx.mono HB.out.size))
        have HXR := Lib.hid hrx
        have HBXW := Lib.hid (HBW.out.trans (hbx.mono HBW.out.size))
        have r1x := (hbx.cell (p := ⟨w.heap.size, 1, none⟩) (World.block_lt_of_cell? wr _ r1)).trans r1
        have r2x := (hbx.cell (p := ⟨w.heap.size, 2, none⟩) (World.block_lt_of_cell? wr _ r2)).trans r2
        have gqx := (HBXW.out.cell (p := ⟨bp, op, none⟩) hbp).trans gq
        clear hst hbx hrx
        by_cases c_4450 : xg < 1
        case pos =>
          have HRF : Hid (R = false) := (by show _ = _; rw [← HS.out]; simp <;> omega)
          go_wp2_with fail
          go_ret
          exact ⟨ret_bool (by rw [HVR.out, HRF.out]), HBXW.out⟩
        by_cases c_7596 : xk < 0
        case pos =>
          have HRF : Hid (R = false) := (by show _ = _; rw [← HS.out]; simp <;> omega)
          go_wp2_with fail
          go_ret
          exact ⟨ret_bool (by rw [HVR.out, HRF.out]), HBXW.out⟩
        by_cases c_6679 : 2 < xk
        case pos =>
          have HRF : Hid (R = false) := (by show _ = _; rw [← HS.out]; simp <;> omega)
          go_wp2_with fail
          go_ret
          exact ⟨ret_bool (by rw [HVR.out, HRF.out]), HBXW.out⟩
        by_cases c_8376 : xv < 0
        case pos =>
          have HRF : Hid (R = false) := (by show _ = _; rw [← HS.out]; simp <;> omega)
          go_wp2_with fail
          go_ret
          exact ⟨ret_bool (by rw [HVR.out, HRF.out]), HBXW.out⟩
        by_cases c_30 : 255 < xv
        case pos =>
          have HRF : Hid (R = false) := (by show _ = _; rw [← HS.out]; simp <;> omega)
          go_wp2_with fail
          go_ret
          exact ⟨ret_bool (by rw [HVR.out, HRF.out]), HBXW.out⟩
        by_cases c_3517 : xg < g
        case pos =>
          have HRF : Hid (R = false) := (by show _ = _; rw [← HS.out]; simp <;> omega)
          go_wp2_with fail
          go_ret
          exact ⟨ret_bool (by rw [HVR.out, HRF.out]), HBXW.out⟩
        by_cases e1 : xg = g ∧ xk ≤ kd
        case pos =>
          obtain ⟨e1, e2⟩ := e1
          have e1b : (xg == g) = true := by rw [beq_iff_eq]; exact e1
          have HE1 := Lib.hid e1
          have HRF : Hid (R = false) := (by show _ = _; rw [← HS.out, if_neg (by omega), if_pos (by omega)]; rfl)
          clear e1
          go_wp2_with fail
          go_ret
          exact ⟨ret_bool (by rw [HVR.out, HRF.out]), HBXW.out⟩
        have HE1 := Lib.hid e1
        clear e1
        by_cases f1 : xg = 1
        case pos =>
          subst f1
          by_cases e2 : 1 = g
          · have e3 : kd < xk := by have := HE1.out; omega
            have e2b : (1 == g) = true := by rw [beq_iff_eq]; exact e2
            have e2c : (1 != g) = false := by rw [bne_eq_false_iff_eq]; exact e2
            by_cases f2 : xp = 0
            case neg =>
              have f2b : (xp != 0) = true := by rw [bne_iff_ne]; exact f2
              have HRF : Hid (R = false) := (by show _ = _; rw [← HS.out, if_neg (by omega), if_neg (by have := HE1.out; omega), if_pos (by omega)]; rfl)
              have HE2 := Lib.hid e2; clear e2
              go_wp2_with fail
              obtain ⟨p0, p1, p2, p3⟩ := cellsA HXR.out
              clear g1 g2 g3 g4 r0 r1 r2 r3
              generalize wr.alloc (.cells #[.int .i64 1, .int .i64 xk, .int .i64 xv, .int .i64 xp] 60) = wx at *
              go_quiet (fail)
              go_wp2_with fail
              go_ret
              exact ⟨ret_bool (by rw [HVR.out, HRF.out]), below_drewN HBXW.out _⟩
            subst f2
            have HRS : Hid (rokB a.prs 1 xk p (a.ibs.drop (k + 1)) = R) := (by show _ = _; rw [← HS.out, if_neg (by omega), if_neg (by have := HE1.out; omega), if_neg (by omega), if_neg (by omega), if_neg (by omega)]; rfl)
            have HE2 := Lib.hid e2; clear e2
            go_wp2_with fail
            obtain ⟨p0, p1, p2, p3⟩ := cellsA HXR.out
            clear g1 g2 g3 g4 r0 r1 r2 r3
            generalize wr.alloc (.cells #[.int .i64 1, .int .i64 xk, .int .i64 xv, .int .i64 0] 60) = wx at *
            go_quiet (fail)
            go_wp2_with fail
            go_quiet (fail)
            go_wp2_with fail
            go_roundw
            case rel => exact ⟨k + 1, _, _, _, by omega, by go_num, rfl, rfl, rfl, HRS, by first | exact below_drewN HBX.out _ | exact below_drewN (below_drewN HBX.out _) _ | exact below_drewN (below_drewN (below_drewN HBX.out _) _) _⟩
            case measure => simp [intOf]; omega
          · have e2b : (1 == g) = false := by rw [beq_eq_false_iff_ne]; exact e2
            have e2c : (1 != g) = true := by rw [bne_iff_ne]; exact e2
            by_cases f2 : xp = 0
            case neg =>
              have f2b : (xp != 0) = true := by rw [bne_iff_ne]; exact f2
              have HRF : Hid (R = false) := (by show _ = _; rw [← HS.out, if_neg (by omega), if_neg (by have := HE1.out; omega), if_pos (by omega)]; rfl)
              have HE2 := Lib.hid e2; clear e2
              go_wp2_with fail
              obtain ⟨p0, p1, p2, p3⟩ := cellsA HXR.out
              clear g1 g2 g3 g4 r0 r1 r2 r3
              generalize wr.alloc (.cells #[.int .i64 1, .int .i64 xk, .int .i64 xv, .int .i64 xp] 60) = wx at *
              go_quiet (fail)
              go_wp2_with fail
              go_ret
              exact ⟨ret_bool (by rw [HVR.out, HRF.out]), below_drewN HBXW.out _⟩
            subst f2
            have HRS : Hid (rokB a.prs 1 xk p (a.ibs.drop (k + 1)) = R) := (by show _ = _; rw [← HS.out, if_neg (by omega), if_neg (by have := HE1.out; omega), if_neg (by omega), if_neg (by omega), if_neg (by omega)]; rfl)
            have HE2 := Lib.hid e2; clear e2
            go_wp2_with fail
            obtain ⟨p0, p1, p2, p3⟩ := cellsA HXR.out
            clear g1 g2 g3 g4 r0 r1 r2 r3
            generalize wr.alloc (.cells #[.int .i64 1, .int .i64 xk, .int .i64 xv, .int .i64 0] 60) = wx at *
            go_quiet (fail)
            go_wp2_with fail
            go_quiet (fail)
            go_wp2_with fail
            go_roundw
            case rel => exact ⟨k + 1, _, _, _, by omega, by go_num, rfl, rfl, rfl, HRS, by first | exact below_drewN HBX.out _ | exact below_drewN (below_drewN HBX.out _) _ | exact below_drewN (below_drewN (below_drewN HBX.out _) _) _⟩
            case measure => simp [intOf]; omega
        by_cases f2 : xg = 2
        case pos =>
          subst f2
          by_cases e2 : 2 = g
          · have e3 : kd < xk := by have := HE1.out; omega
            have e2b : (2 == g) = true := by rw [beq_iff_eq]; exact e2
            have e2c : (2 != g) = false := by rw [bne_eq_false_iff_eq]; exact e2
            by_cases f2 : xp = q
            case neg =>
              have f2b : (xp != q) = true := by rw [bne_iff_ne]; exact f2
              have HRF : Hid (R = false) := (by show _ = _; rw [← HS.out, if_neg (by omega), if_neg (by have := HE1.out; omega), if_pos (by omega)]; rfl)
              have HE2 := Lib.hid e2; clear e2
              go_wp2_with fail
              obtain ⟨p0, p1, p2, p3⟩ := cellsA HXR.out
              clear g1 g2 g3 g4 r0 r1 r2 r3
              generalize wr.alloc (.cells #[.int .i64 2, .int .i64 xk, .int .i64 xv, .int .i64 xp] 60) = wx at *
              go_quiet (fail)
              go_wp2_with fail
              go_ret
              exact ⟨ret_bool (by rw [HVR.out, HRF.out]), below_drewN HBXW.out _⟩
            have f2b : (xp != q) = false := by rw [bne_eq_false_iff_eq]; exact f2
            have HRS : Hid (rokB a.prs 2 xk p (a.ibs.drop (k + 1)) = R) := (by show _ = _; rw [← HS.out, if_neg (by omega), if_neg (by have := HE1.out; omega), if_neg (by omega), if_neg (by omega), if_neg (by omega)]; rfl)
            have HF2 := Lib.hid f2; clear f2
            have HE2 := Lib.hid e2; clear e2
            go_wp2_with fail
            obtain ⟨p0, p1, p2, p3⟩ := cellsA HXR.out
            clear g1 g2 g3 g4 r0 r1 r2 r3
            generalize wr.alloc (.cells #[.int .i64 2, .int .i64 xk, .int .i64 xv, .int .i64 xp] 60) = wx at *
            go_quiet (fail)
            go_wp2_with fail
            go_quiet (fail)
            go_wp2_with fail
            go_roundw
            case rel => exact ⟨k + 1, _, _, _, by omega, by go_num, rfl, rfl, rfl, HRS, by first | exact below_drewN HBX.out _ | exact below_drewN (below_drewN HBX.out _) _ | exact below_drewN (below_drewN (below_drewN HBX.out _) _) _⟩
            case measure => simp [intOf]; omega
          · have e2b : (2 == g) = false := by rw [beq_eq_false_iff_ne]; exact e2
            have e2c : (2 != g) = true := by rw [bne_iff_ne]; exact e2
            by_cases f2 : xp = q
            case neg =>
              have f2b : (xp != q) = true := by rw [bne_iff_ne]; exact f2
              have HRF : Hid (R = false) := (by show _ = _; rw [← HS.out, if_neg (by omega), if_neg (by have := HE1.out; omega), if_pos (by omega)]; rfl)
              have HE2 := Lib.hid e2; clear e2
              go_wp2_with fail
              obtain ⟨p0, p1, p2, p3⟩ := cellsA HXR.out
              clear g1 g2 g3 g4 r0 r1 r2 r3
              generalize wr.alloc (.cells #[.int .i64 2, .int .i64 xk, .int .i64 xv, .int .i64 xp] 60) = wx at *
              go_quiet (fail)
              go_wp2_with fail
              go_ret
              exact ⟨ret_bool (by rw [HVR.out, HRF.out]), below_drewN HBXW.out _⟩
            have f2b : (xp != q) = false := by rw [bne_eq_false_iff_eq]; exact f2
            have HRS : Hid (rokB a.prs 2 xk p (a.ibs.drop (k + 1)) = R) := (by show _ = _; rw [← HS.out, if_neg (by omega), if_neg (by have := HE1.out; omega), if_neg (by omega), if_neg (by omega), if_neg (by omega)]; rfl)
            have HF2 := Lib.hid f2; clear f2
            have HE2 := Lib.hid e2; clear e2
            go_wp2_with fail
            obtain ⟨p0, p1, p2, p3⟩ := cellsA HXR.out
            clear g1 g2 g3 g4 r0 r1 r2 r3
            generalize wr.alloc (.cells #[.int .i64 2, .int .i64 xk, .int .i64 xv, .int .i64 xp] 60) = wx at *
            go_quiet (fail)
            go_wp2_with fail
            go_quiet (fail)
            go_wp2_with fail
            go_roundw
            case rel => exact ⟨k + 1, _, _, _, by omega, by go_num, rfl, rfl, rfl, HRS, by first | exact below_drewN HBX.out _ | exact below_drewN (below_drewN HBX.out _) _ | exact below_drewN (below_drewN (below_drewN HBX.out _) _) _⟩
            case measure => simp [intOf]; omega
        have f1b : (xg == 1) = false := by rw [beq_eq_false_iff_ne]; exact f1
        have f2b : (xg == 2) = false := by rw [beq_eq_false_iff_ne]; exact f2
        have f3 : 3 ≤ xg := by omega
        cases Y with
        | false =>
          have HRF : Hid (R = false) := (by show _ = _; rw [← HS.out, if_neg (by omega), if_neg (by have := HE1.out; omega), if_neg (by omega), if_pos f3, if_pos (by simp)]; rfl)
          by_cases e2 : xg = g
          · have e3 : kd < xk := by have := HE1.out; omega
            have e2b : (xg == g) = true := by rw [beq_iff_eq]; exact e2
            have e2c : (xg != g) = false := by rw [bne_eq_false_iff_eq]; exact e2
            have HE2 := Lib.hid e2; clear e2
            go_wp2_with fail
            obtain ⟨p0, p1, p2, p3⟩ := cellsA HXR.out
            clear g1 g2 g3 g4 r0 r1 r2 r3
            generalize wr.alloc (.cells #[.int .i64 xg, .int .i64 xk, .int .i64 xv, .int .i64 xp] 60) = wx at *
            go_quiet (fail)
            go_wp2_with fail
            refine (HHX.out _ (below_drewN HBXW.out _)).mono ?_
            rintro e w9 ⟨rfl, m, rfl⟩
            go_wp2_with fail
            go_ret
            exact ⟨ret_bool (by rw [HVR.out, HRF.out]), by first | exact below_drewN (below_drewN HBXW.out _) _ | exact below_drewN HBXW.out _⟩
          · have e2b : (xg == g) = false := by rw [beq_eq_false_iff_ne]; exact e2
            have e2c : (xg != g) = true := by rw [bne_iff_ne]; exact e2
            have HE2 := Lib.hid e2; clear e2
            go_wp2_with fail
            obtain ⟨p0, p1, p2, p3⟩ := cellsA HXR.out
            clear g1 g2 g3 g4 r0 r1 r2 r3
            generalize wr.alloc (.cells #[.int .i64 xg, .int .i64 xk, .int .i64 xv, .int .i64 xp] 60) = wx at *
            go_quiet (fail)
            go_wp2_with fail
            refine (HHX.out _ (below_drewN HBXW.out _)).mono ?_
            rintro e w9 ⟨rfl, m, rfl⟩
            go_wp2_with fail
            go_ret
            exact ⟨ret_bool (by rw [HVR.out, HRF.out]), by first | exact below_drewN (below_drewN HBXW.out _) _ | exact below_drewN HBXW.out _⟩
        | true =>
          by_cases f4 : xp < p
          case pos =>
            have HRF : Hid (R = false) := (by show _ = _; rw [← HS.out, if_neg (by omega), if_neg (by have := HE1.out; omega), if_neg (by omega), if_pos f3, if_pos (by omega)]; rfl)
            by_cases e2 : xg = g
            · have e3 : kd < xk := by have := HE1.out; omega
              have e2b : (xg == g) = true := by rw [beq_iff_eq]; exact e2
              have e2c : (xg != g) = false := by rw [bne_eq_false_iff_eq]; exact e2
              have HE2 := Lib.hid e2; clear e2
              go_wp2_with fail
              obtain ⟨p0, p1, p2, p3⟩ := cellsA HXR.out
              clear g1 g2 g3 g4 r0 r1 r2 r3
              generalize wr.alloc (.cells #[.int .i64 xg, .int .i64 xk, .int .i64 xv, .int .i64 xp] 60) = wx at *
              go_quiet (fail)
              go_wp2_with fail
              refine (HHX.out _ (below_drewN HBXW.out _)).mono ?_
              rintro e w9 ⟨rfl, m, rfl⟩
              go_wp2_with fail
              go_ret
              exact ⟨ret_bool (by rw [HVR.out, HRF.out]), by first | exact below_drewN (below_drewN HBXW.out _) _ | exact below_drewN HBXW.out _⟩
            · have e2b : (xg == g) = false := by rw [beq_eq_false_iff_ne]; exact e2
              have e2c : (xg != g) = true := by rw [bne_iff_ne]; exact e2
              have HE2 := Lib.hid e2; clear e2
              go_wp2_with fail
              obtain ⟨p0, p1, p2, p3⟩ := cellsA HXR.out
              clear g1 g2 g3 g4 r0 r1 r2 r3
              generalize wr.alloc (.cells #[.int .i64 xg, .int .i64 xk, .int .i64 xv, .int .i64 xp] 60) = wx at *
              go_quiet (fail)
              go_wp2_with fail
              refine (HHX.out _ (below_drewN HBXW.out _)).mono ?_
              rintro e w9 ⟨rfl, m, rfl⟩
              go_wp2_with fail
              go_ret
              exact ⟨ret_bool (by rw [HVR.out, HRF.out]), by first | exact below_drewN (below_drewN HBXW.out _) _ | exact below_drewN HBXW.out _⟩
          by_cases e2 : xg = g
          · have e3 : kd < xk := by have := HE1.out; omega
            have e2b : (xg == g) = true := by rw [beq_iff_eq]; exact e2
            have e2c : (xg != g) = false := by rw [bne_eq_false_iff_eq]; exact e2
            by_cases f5 : xp = p
            case neg =>
              have f5b : (xp != p) = true := by rw [bne_iff_ne]; exact f5
              have HRF : Hid (R = false) := (by show _ = _; rw [← HS.out, if_neg (by omega), if_neg (by have := HE1.out; omega), if_neg (by omega), if_pos f3, if_pos (by omega)]; rfl)
              have HE2 := Lib.hid e2; clear e2
              go_wp2_with fail
              obtain ⟨p0, p1, p2, p3⟩ := cellsA HXR.out
              clear g1 g2 g3 g4 r0 r1 r2 r3
              generalize wr.alloc (.cells #[.int .i64 xg, .int .i64 xk, .int .i64 xv, .int .i64 xp] 60) = wx at *
              go_quiet (fail)
              go_wp2_with fail
              refine (HHX.out _ (below_drewN HBXW.out _)).mono ?_
              rintro e w9 ⟨rfl, m, rfl⟩
              go_wp2_with fail
              go_ret
              exact ⟨ret_bool (by rw [HVR.out, HRF.out]), by first | exact below_drewN (below_drewN HBXW.out _) _ | exact below_drewN HBXW.out _⟩
            have f5b : (xp != p) = false := by rw [bne_eq_false_iff_eq]; exact f5
            have HRS : Hid (rokB a.prs xg xk xp (a.ibs.drop (k + 1)) = R) := (by show _ = _; rw [← HS.out, if_neg (by omega), if_neg (by have := HE1.out; omega), if_neg (by omega), if_pos f3, if_neg (by simp; omega), if_neg (by omega), if_pos f3]; rfl)
            have HF5 := Lib.hid f5; clear f5
            have HE2 := Lib.hid e2; clear e2
            by_cases f8 : 4 ≤ xg
            case neg =>
              go_wp2_with fail
              obtain ⟨p0, p1, p2, p3⟩ := cellsA HXR.out
              clear g1 g2 g3 g4 r0 r1 r2 r3
              generalize wr.alloc (.cells #[.int .i64 xg, .int .i64 xk, .int .i64 xv, .int .i64 xp] 60) = wx at *
              go_quiet (fail)
              go_wp2_with fail
              refine (HHX.out _ (below_drewN HBXW.out _)).mono ?_
              rintro e w9 ⟨rfl, m, rfl⟩
              go_wp2_with fail
              go_quiet (fail)
              go_wp2_with fail
              go_roundw
              case rel => exact ⟨k + 1, _, _, _, by omega, by go_num, rfl, rfl, rfl, HRS, by first | exact below_drewN HBX.out _ | exact below_drewN (below_drewN HBX.out _) _ | exact below_drewN (below_drewN (below_drewN HBX.out _) _) _⟩
              case measure => simp [intOf]; omega
            go_wp2_with fail
            obtain ⟨p0, p1, p2, p3⟩ := cellsA HXR.out
            clear g1 g2 g3 g4 r0 r1 r2 r3
            generalize wr.alloc (.cells #[.int .i64 xg, .int .i64 xk, .int .i64 xv, .int .i64 xp] 60) = wx at *
            go_quiet (fail)
            go_wp2_with fail
            refine (HHX.out _ (below_drewN HBXW.out _)).mono ?_
            rintro e w9 ⟨rfl, m, rfl⟩
            go_wp2_with fail
            go_quiet (fail)
            go_wp2_with fail
            go_roundw
            case rel => exact ⟨k + 1, _, _, _, by omega, by go_num, rfl, rfl, rfl, HRS, by first | exact below_drewN HBX.out _ | exact below_drewN (below_drewN HBX.out _) _ | exact below_drewN (below_drewN (below_drewN HBX.out _) _) _⟩
            case measure => simp [intOf]; omega
          · have e2b : (xg == g) = false := by rw [beq_eq_false_iff_ne]; exact e2
            have e2c : (xg != g) = true := by rw [bne_iff_ne]; exact e2
            by_cases f6 : xg ≤ 3
            · have HRS : Hid (rokB a.prs xg xk xp (a.ibs.drop (k + 1)) = R) := (by show _ = _; rw [← HS.out, if_neg (by omega), if_neg (by have := HE1.out; omega), if_neg (by omega), if_pos f3, if_neg (by simp; omega), if_neg (by omega), if_pos f3]; rfl)
              have HE2 := Lib.hid e2; clear e2
              go_wp2_with fail
              obtain ⟨p0, p1, p2, p3⟩ := cellsA HXR.out
              clear g1 g2 g3 g4 r0 r1 r2 r3
              generalize wr.alloc (.cells #[.int .i64 xg, .int .i64 xk, .int .i64 xv, .int .i64 xp] 60) = wx at *
              go_quiet (fail)
              go_wp2_with fail
              refine (HHX.out _ (below_drewN HBXW.out _)).mono ?_
              rintro e w9 ⟨rfl, m, rfl⟩
              go_wp2_with fail
              go_quiet (fail)
              go_wp2_with fail
              go_roundw
              case rel => exact ⟨k + 1, _, _, _, by omega, by go_num, rfl, rfl, rfl, HRS, by first | exact below_drewN HBX.out _ | exact below_drewN (below_drewN HBX.out _) _ | exact below_drewN (below_drewN (below_drewN HBX.out _) _) _⟩
              case measure => simp [intOf]; omega
            · by_cases f7 : xg - 1 = g
              · have f7b : (xg - 1 != g) = false := by rw [bne_eq_false_iff_eq]; exact f7
                have HRS : Hid (rokB a.prs xg xk xp (a.ibs.drop (k + 1)) = R) := (by show _ = _; rw [← HS.out, if_neg (by omega), if_neg (by have := HE1.out; omega), if_neg (by omega), if_pos f3, if_neg (by simp; omega), if_neg (by omega), if_pos f3]; rfl)
                have HF7 := Lib.hid f7; clear f7
                have HE2 := Lib.hid e2; clear e2
                go_wp2_with fail
                obtain ⟨p0, p1, p2, p3⟩ := cellsA HXR.out
                clear g1 g2 g3 g4 r0 r1 r2 r3
                generalize wr.alloc (.cells #[.int .i64 xg, .int .i64 xk, .int .i64 xv, .int .i64 xp] 60) = wx at *
                go_quiet (fail)
                go_wp2_with fail
                refine (HHX.out _ (below_drewN HBXW.out _)).mono ?_
                rintro e w9 ⟨rfl, m, rfl⟩
                go_wp2_with fail
                go_quiet (fail)
                go_wp2_with fail
                go_roundw
                case rel => exact ⟨k + 1, _, _, _, by omega, by go_num, rfl, rfl, rfl, HRS, by first | exact below_drewN HBX.out _ | exact below_drewN (below_drewN HBX.out _) _ | exact below_drewN (below_drewN (below_drewN HBX.out _) _) _⟩
                case measure => simp [intOf]; omega
              · have f7b : (xg - 1 != g) = true := by rw [bne_iff_ne]; exact f7
                have HRF : Hid (R = false) := (by show _ = _; rw [← HS.out, if_neg (by omega), if_neg (by have := HE1.out; omega), if_neg (by omega), if_pos f3, if_neg (by simp; omega), if_pos (by omega)]; rfl)
                have HE2 := Lib.hid e2; clear e2
                go_wp2_with fail
                obtain ⟨p0, p1, p2, p3⟩ := cellsA HXR.out
                clear g1 g2 g3 g4 r0 r1 r2 r3
                generalize wr.alloc (.cells #[.int .i64 xg, .int .i64 xk, .int .i64 xv, .int .i64 xp] 60) = wx at *
                go_quiet (fail)
                go_wp2_with fail
                refine (HHX.out _ (below_drewN HBXW.out _)).mono ?_
                rintro e w9 ⟨rfl, m, rfl⟩
                go_wp2_with fail
                go_ret
                exact ⟨ret_bool (by rw [HVR.out, HRF.out]), by first | exact below_drewN (below_drewN HBXW.out _) _ | exact below_drewN HBXW.out _⟩
      · obtain rfl : a.ibs.length = k := by omega
        have HRT : Hid (R = true) := by show _ = _; rw [← HST.out, List.drop_length]; rfl
        go_wp2_with fail
        go_ret
        exact ⟨ret_bool (by rw [HVR.out, HRT.out]), HBW.out⟩
end Go.Proofs.YtnbggokmiokhlaaDoor
