/-
  The walk of the reference's Same, and of the law AccessCompares.
-/
import Derived.Test.YtjkbfogjfgnhiaaDoorSme
namespace Go.Proofs.YtjkbfogjfgnhiaaDoor
set_option linter.unusedVariables false
set_option linter.unusedSimpArgs false
open Go.RowKit

set_option maxRecDepth 100000 in
set_option maxHeartbeats 12800000 in
theorem rsmr_any (rs us : List Rl) (va vb : Value) (w : World) (hka : RL w w.heap.size va rs) (hkb : RL w w.heap.size vb us) :
    Calls Tryd.prog 33 #[va, vb] w fun e w' => e = .returned (.bool (samR rs us)) ∧ Below w.heap.size w w' := by
  obtain ⟨A1, c1, rfl, h11, h12, h13⟩ := hka
  obtain ⟨A2, c2, rfl, h21, h22, h23⟩ := hkb
  unfold maxLen at h12 h22
  have HS : Hid (samR rs us = (decide (rs.length = us.length) && samL rs us)) := rfl
  go_enter Tryd.func33, Tryd.ntmps33
  by_cases e3 : rs.length = us.length
  · have HSM : Hid (samR rs us = samL rs us) := by show _ = _; rw [HS.out, decide_eq_true e3]; rfl
    have x1 : (rs.length : Int) = (us.length : Int) := by omega
    have x2 : ((rs.length : Int) == (us.length : Int)) = true := beq_iff_eq.2 x1
    have x3 : decide ((rs.length : Int) = (us.length : Int)) = true := decide_eq_true x1
    have x4 : decide (rs.length = us.length) = true := decide_eq_true e3
    have x5 : ((rs.length : Int) != (us.length : Int)) = false := by rw [bne, x2]; rfl
    have E3 := Lib.hid e3
    clear e3 x1
    go_wp2_with fail
    clear x2 x3 x4 x5
    go_loopw [5] (fun i wr => ∃ (k : Nat), k ≤ rs.length ∧ i = .int .i64 k ∧ Hid (samR rs us = samL (rs.drop k) (us.drop k)) ∧ Hid (Below w.heap.size w wr)) (fun i _ => rs.length - (intOf i).toNat)
    case atStart => exact ⟨0, Nat.zero_le _, rfl, by show _ = _; rw [List.drop_zero, List.drop_zero]; exact HSM.out, Below.refl _ _⟩
    case round =>
      obtain ⟨k, hkl, rfl, HSS, HB⟩ := hrel
      by_cases hlt : k < rs.length
      · have hlt2 : k < us.length := by have := E3.out; omega
        obtain ⟨b1, o1, rfl, hb1, hts1⟩ := h13.out (by omega)
        obtain ⟨b2, o2, rfl, hb2, hts2⟩ := h23.out (by omega)
        have hta := (hts1 k hlt).keep hb1 HB.out.size (fun p hp => HB.out.cell hp)
        have htb := (hts2 k hlt2).keep hb2 HB.out.size (fun p hp => HB.out.cell hp)
        have hsd := samL_drop rs us k hlt hlt2
        obtain ⟨r, hr⟩ : ∃ r, r = rs[k] := ⟨_, rfl⟩
        obtain ⟨q, hq⟩ : ∃ q, q = us[k] := ⟨_, rfl⟩
        rw [← hr] at hta hsd
        rw [← hq] at htb hsd
        obtain ⟨ro, c⟩ := r
        obtain ⟨qo, u⟩ := q
        obtain ⟨g0, hca⟩ := hta
        obtain ⟨f0, hcb⟩ := htb
        obtain ⟨A3, c3, g1, g2, g3, hu1⟩ := hca.cells
        obtain ⟨A4, c4, f1, f2, f3, hu2⟩ := hcb.cells
        simp only at g0 g1 g2 g3 f0 f1 f2 f3 hu1 hu2 hsd
        have hsr := HB.out.size
        have HV : Hid (∀ W, Below wr.heap.size wr W → Calls Tryd.prog 37 #[.agg #[.int .i64 c.op, .int .i64 c.n, .slice A3 c.kids.length c3], .agg #[.int .i64 u.op, .int .i64 u.n, .slice A4 u.kids.length c4]] W fun e w' => e = .returned (.bool (c.sam u)) ∧ Below W.heap.size W w') := fun W hW => rsam_any (c.dep + 1) c (by omega) u _ _ W (hu1.on hW) (hu2.on hW)
        have hbd := Lib.hid ((Below.refl wr.heap.size wr).drew)
        have hsd2 : samL (rs.drop k) (us.drop k) = (decide (ro = qo) && c.sam u && samL (rs.drop (k + 1)) (us.drop (k + 1))) := hsd
        have HSD := Lib.hid hsd2
        have i1 : (0 : Int) ≤ (k : Int) := by omega
        have i2 : (k : Int) < (us.length : Int) := by omega
        have i3 : (k : Int) < (rs.length : Int) := by omega
        have hbb1 : b1 < wr.heap.size := by omega
        have hbb2 : b2 < wr.heap.size := by omega
        clear hca hcb hts1 hts2 hr hq hsd hsd2 hu1 hu2
        generalize c.sam u = X at *
        by_cases e1 : ro = qo
        · subst e1
          go_wp2_with fail
          go_region_held3 (fun w' => w'.cell? ⟨b1, o1 + k * 4, none⟩ = some (.int .i64 ro) ∧ w'.cell? ⟨b1, o1 + k * 4 + 1, none⟩ = some (.int .i64 c.op) ∧ w'.cell? ⟨b1, o1 + k * 4 + 1 + 1, none⟩ = some (.int .i64 c.n) ∧ w'.cell? ⟨b1, o1 + k * 4 + 1 + 2, none⟩ = some (.slice A3 c.kids.length c3) ∧ w'.cell? ⟨b2, o2 + k * 4, none⟩ = some (.int .i64 ro) ∧ w'.cell? ⟨b2, o2 + k * 4 + 1, none⟩ = some (.int .i64 u.op) ∧ w'.cell? ⟨b2, o2 + k * 4 + 1 + 1, none⟩ = some (.int .i64 u.n) ∧ w'.cell? ⟨b2, o2 + k * 4 + 1 + 2, none⟩ = some (.slice A4 u.kids.length c4))
            (first
              | (go_keep; done)
              | exact ⟨(hbx.cell (p := ⟨b1, o1 + k * 4, none⟩) hbb1).trans g0, (hbx.cell (p := ⟨b1, o1 + k * 4 + 1, none⟩) hbb1).trans g1, (hbx.cell (p := ⟨b1, o1 + k * 4 + 1 + 1, none⟩) hbb1).trans g2, (hbx.cell (p := ⟨b1, o1 + k * 4 + 1 + 2, none⟩) hbb1).trans g3, (hbx.cell (p := ⟨b2, o2 + k * 4, none⟩) hbb2).trans f0, (hbx.cell (p := ⟨b2, o2 + k * 4 + 1, none⟩) hbb2).trans f1, (hbx.cell (p := ⟨b2, o2 + k * 4 + 1 + 1, none⟩) hbb2).trans f2, (hbx.cell (p := ⟨b2, o2 + k * 4 + 1 + 2, none⟩) hbb2).trans f3⟩)
            (first
              | (go_at_call 37; (with_reducible refine (HV.out _ hbd.out).mono ?_); rintro e9 wx ⟨rfl, hbx⟩))
          have HBX := Lib.hid (HB.out.trans ((hbd.out.trans hbx).mono HB.out.size))
          clear hbx
          cases X with
          | false =>
            go_wp2_with fail
            go_ret
            exact ⟨ret_bool (by rw [HSS.out, HSD.out, Bool.and_false, Bool.false_and]), HBX.out⟩
          | true =>
            go_wp2_with fail
            go_roundw
            case rel => exact ⟨k + 1, by omega, by go_num, by show _ = _; rw [HSS.out, HSD.out]; simp, HBX⟩
            case measure => simp [intOf]; omega
        · have y2 : (ro == qo) = false := beq_eq_false_iff_ne.2 e1
          have y3 : decide (ro = qo) = false := decide_eq_false e1
          have y5 : (ro != qo) = true := by rw [bne, y2]; rfl
          go_wp2_with fail
          go_quiet (fail)
          go_wp2_with fail
          go_ret
          exact ⟨ret_bool (by rw [HSS.out, HSD.out, y3, Bool.false_and, Bool.false_and]), below_drewN HB.out _⟩
      · have HS2 : Hid (samR rs us = true) := by show _ = _; rw [HSS.out, show k = rs.length by omega, List.drop_length, samL]
        go_wp2_with fail
        go_ret
        exact ⟨ret_bool HS2.out.symm, HB.out⟩
  · have HSM : Hid (samR rs us = false) := by show _ = _; rw [HS.out, decide_eq_false e3]; rfl
    have x1 : ¬ (rs.length : Int) = (us.length : Int) := by omega
    have x2 : ((rs.length : Int) == (us.length : Int)) = false := beq_eq_false_iff_ne.2 x1
    have x3 : decide ((rs.length : Int) = (us.length : Int)) = false := decide_eq_false x1
    have x4 : decide (rs.length = us.length) = false := decide_eq_false e3
    have x5 : ((rs.length : Int) != (us.length : Int)) = true := by rw [bne, x2]; rfl
    go_wp2_with fail
    go_ret
    exact ⟨ret_bool HSM.out.symm, Below.refl _ _⟩
theorem cntR_le : ∀ rs : List Rl, (∀ (k : Nat) (h : k < rs.length), rs[k].cond.cnt ≤ 400) → cntR rs ≤ 400 * rs.length
  | [], _ => by simp [cntR]
  | r :: rs, h => by
    have h1 := cntR_le rs fun k hk => by have := h (k + 1) (by simpa using hk); simpa using this
    have h2 := h 0 (by simp)
    simp only [List.getElem_cons_zero] at h2
    rw [cntR, List.length_cons]
    omega
theorem fewR_cntR {rs : List Rl} (h : fewR rs = true) : cntR rs ≤ 90000 := by
  have h1 := cntR_le rs (fewR_cnt h)
  have h2 : rs.length ≤ 50 := by
    rw [fewR, Bool.and_eq_true, decide_eq_true_eq] at h
    exact h.1
  omega

set_option maxRecDepth 100000 in
set_option maxHeartbeats 6400000 in
theorem law_compares (rs us : List Rl) (va vb : Value) (w : World) (hka : RL w w.heap.size va rs) (hkb : RL w w.heap.size vb us) (hT : Tb w) :
    Calls Tryd.prog 12 #[va, vb] w fun e w' => e = .returned (.bool true) ∧ Below w.heap.size w w' := by
  have HF1 := Lib.hid (fewr_any rs va w hka)
  have HF2 := Lib.hid fun (W : World) (hW : Below w.heap.size w W) => fewr_any us vb W (hkb.on hW)
  have HFC := Lib.hid (@fewR_cnt rs)
  have HFR := Lib.hid (@fewR_cntR rs)
  have HP1 := Lib.hid fun (W : World) (hW : Below w.heap.size w W) hm hc => psmr_any rs us va vb W (hka.on hW) (hkb.on hW) (Nat.lt_of_lt_of_le hT.size hW.size) hm hc
  have HP2 := Lib.hid fun (W : World) (hW : Below w.heap.size w W) => rsmr_any rs us va vb W (hka.on hW) (hkb.on hW)
  have HP3 := Lib.hid fun (W : World) (hW : Below w.heap.size w W) hm hc => psmr_any rs rs va va W (hka.on hW) (hka.on hW) (Nat.lt_of_lt_of_le hT.size hW.size) hm hc
  have hss := samR_self rs
  rw [hss] at HP3
  have HA := Lib.hid fun (W : World) (hW : Below w.heap.size w W) => works_any W (hT.on hW)
  obtain ⟨A1, c1, rfl, _, _, _⟩ := id hka
  obtain ⟨A2, c2, rfl, _, _, _⟩ := id hkb
  clear hka hkb hT hss
  generalize fewR rs = F at *
  generalize fewR us = G at *
  generalize samR rs us = Y at *
  have HUP : Hid (∀ W w', Below w.heap.size w W → Below W.heap.size W w' → Below w.heap.size w w') := fun W w' h h' => h.trans (h'.mono h.size)
  go_enter Tryd.func12, Tryd.ntmps12
  cases F with
  | false =>
    go_wp2_with fail
    refine HF1.out.mono ?_
    rintro e w1 ⟨rfl, hb1⟩
    go_wp2_with fail
    refine (HA.out _ hb1).mono ?_
    rintro e w2 ⟨rfl, hb2⟩
    go_wp2_with fail
    go_ret
    exact ⟨rfl, HUP.out _ _ hb1 hb2⟩
  | true =>
    have HC := Lib.hid (HFC.out (by first | exact trivial | rfl))
    have HM := Lib.hid (HFR.out (by first | exact trivial | rfl))
    go_wp2_with fail
    refine HF1.out.mono ?_
    rintro e w1 ⟨rfl, hb1⟩
    go_wp2_with fail
    refine (HF2.out _ hb1).mono ?_
    rintro e w2 ⟨rfl, hb2'⟩
    have hb2 := HUP.out _ _ hb1 hb2'
    clear hb2'
    cases G with
    | false =>
      go_wp2_with fail
      refine (HA.out _ hb2).mono ?_
      rintro e w3 ⟨rfl, hb3⟩
      go_wp2_with fail
      go_ret
      exact ⟨rfl, HUP.out _ _ hb2 hb3⟩
    | true =>
      cases Y <;>
      (go_wp2_with fail
       refine (HP1.out _ hb2 HM.out HC.out).mono ?_
       rintro e w3 ⟨rfl, hb3'⟩
       have hb3 := HUP.out _ _ hb2 hb3'
       clear hb3'
       go_wp2_with fail
       refine (HP2.out _ hb3).mono ?_
       rintro e w4 ⟨rfl, hb4'⟩
       have hb4 := HUP.out _ _ hb3 hb4'
       clear hb4'
       go_wp2_with fail
       refine (HP3.out _ hb4 HM.out HC.out).mono ?_
       rintro e w5 ⟨rfl, hb5'⟩
       have hb5 := HUP.out _ _ hb4 hb5'
       clear hb5'
       go_wp2_with fail
       refine (HA.out _ hb5).mono ?_
       rintro e w6 ⟨rfl, hb6'⟩
       go_wp2_with fail
       go_ret
       exact ⟨rfl, HUP.out _ _ hb5 hb6'⟩)
end Go.Proofs.YtjkbfogjfgnhiaaDoor
