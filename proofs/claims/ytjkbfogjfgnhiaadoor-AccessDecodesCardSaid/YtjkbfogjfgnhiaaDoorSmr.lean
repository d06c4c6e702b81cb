/-
  The walk of the reference's SameCond.
-/
import Derived.Test.YtjkbfogjfgnhiaaDoorSam
namespace Go.Proofs.YtjkbfogjfgnhiaaDoor
set_option linter.unusedVariables false
set_option linter.unusedSimpArgs false
open Go.RowKit

def RsamC (a : Cn) : Prop := ∀ (b : Cn) (va vb : Value) (w : World), KL w w.heap.size va a.kids → KL w w.heap.size vb b.kids →
  Calls Tryd.prog 37 #[.agg #[.int .i64 a.op, .int .i64 a.n, va], .agg #[.int .i64 b.op, .int .i64 b.n, vb]] w fun e w' => e = .returned (.bool (a.sam b)) ∧ Below w.heap.size w w'

set_option maxRecDepth 100000 in
set_option maxHeartbeats 12800000 in
theorem rsam_step (a : Cn) (ih : ∀ a' : Cn, a'.dep < a.dep → RsamC a') : RsamC a := by
  intro b va vb w hka hkb
  have IH := Lib.hid ih
  clear ih
  have hkd := dep_kids a
  have HSA := Lib.hid (sam_parts a b)
  obtain ⟨A1, c1, rfl, h11, h12, h13⟩ := hka
  obtain ⟨A2, c2, rfl, h21, h22, h23⟩ := hkb
  unfold maxLen at h12 h22
  have hb0 := alloc2_below w (bx a.op a.n A1 a.kids.length c1) (bx b.op b.n A2 b.kids.length c2)
  have hsz0 : ((w.alloc (bx a.op a.n A1 a.kids.length c1)).alloc (bx b.op b.n A2 b.kids.length c2)).heap.size = w.heap.size + 2 := by rw [alloc_size, alloc_size]
  have hn0 := (Below.heap_alloc (w.alloc (bx a.op a.n A1 a.kids.length c1)) (bx b.op b.n A2 b.kids.length c2) w.heap.size (by rw [alloc_size]; omega)).trans (heap_alloc_new w (bx a.op a.n A1 a.kids.length c1))
  have hn1 := heap_alloc_new (w.alloc (bx a.op a.n A1 a.kids.length c1)) (bx b.op b.n A2 b.kids.length c2)
  rw [alloc_size w] at hn1
  have HB0 := Lib.hid hb0
  have HSZ := Lib.hid hsz0
  have HN0 := Lib.hid hn0
  have HN1 := Lib.hid hn1
  clear hb0 hsz0 hn0 hn1
  generalize a.op = ao at *
  generalize a.n = an at *
  generalize a.kids = ats at *
  generalize b.op = bo at *
  generalize b.n = bn at *
  generalize b.kids = bts at *
  go_enter Tryd.func37, Tryd.ntmps37
  by_cases e1 : ao = bo
  · by_cases e2 : an = bn
    · by_cases e3 : ats.length = bts.length
      · have HSM : Hid (a.sam b = samK ats bts) := by show _ = _; rw [HSA.out, decide_eq_true e1, decide_eq_true e2, decide_eq_true e3]; simp
        subst e1 e2
        have E3 := Lib.hid e3
        have x1 : (ats.length : Int) = (bts.length : Int) := by omega
        have x2 : ((ats.length : Int) == (bts.length : Int)) = true := beq_iff_eq.2 x1
        have x3 : decide ((ats.length : Int) = (bts.length : Int)) = true := decide_eq_true x1
        have x4 : decide (ats.length = bts.length) = true := decide_eq_true e3
        have x5 : ((ats.length : Int) != (bts.length : Int)) = false := by rw [bne, x2]; rfl
        clear HSA e3 x1
        go_wp2_with fail
        clear x2 x3 x4 x5
        go_loopw [5] (fun i wr => ∃ (k : Nat), k ≤ ats.length ∧ i = .int .i64 k ∧ Hid (a.sam b = samK (ats.drop k) (bts.drop k)) ∧ Hid (Below (w.heap.size + 2) ((w.alloc (bx ao an A1 ats.length c1)).alloc (bx ao an A2 bts.length c2)) wr)) (fun i _ => ats.length - (intOf i).toNat)
        case atStart => exact ⟨0, Nat.zero_le _, rfl, by show _ = _; rw [List.drop_zero, List.drop_zero]; exact HSM.out, Below.refl _ _⟩
        case round =>
          obtain ⟨k, hkl, rfl, HS, HB⟩ := hrel
          have HKW := Lib.hid (HB0.out.trans (HB.out.mono (by omega)))
          have hsr := HB.out.size
          rw [HSZ.out] at hsr
          have k0 := (HB.out.block w.heap.size (by omega)).trans HN0.out
          have k1 := (HB.out.block (w.heap.size + 1) (by omega)).trans HN1.out
          have p2 := cell_of_row _ _ 2 _ _ _ k0
          have q2 := cell_of_row _ _ 2 _ _ _ k1
          clear k0 k1
          by_cases hlt : k < ats.length
          · have hlt2 : k < bts.length := by have := E3.out; omega
            obtain ⟨b1, o1, rfl, hb1, hts1⟩ := h13.out (by omega)
            obtain ⟨b2, o2, rfl, hb2, hts2⟩ := h23.out (by omega)
            have hta := CnsAt.get hts1 hlt
            have htb := CnsAt.get hts2 hlt2
            have hdp := depK_get ats k hlt
            have hsd := samK_drop ats bts k hlt hlt2
            obtain ⟨t, ht⟩ : ∃ t, t = ats[k] := ⟨_, rfl⟩
            obtain ⟨u, hu⟩ : ∃ u, u = bts[k] := ⟨_, rfl⟩
            rw [← ht] at hta hdp hsd
            rw [← hu] at htb hsd
            have hta' := CnAt.keep HKW.out.size (fun p hp => HKW.out.cell hp) t b1 _ hb1 hta
            have htb' := CnAt.keep HKW.out.size (fun p hp => HKW.out.cell hp) u b2 _ hb2 htb
            obtain ⟨A3, c3, g1, g2, g3, hu1⟩ := hta'.cells
            obtain ⟨A4, c4, f1, f2, f3, hu2⟩ := htb'.cells
            have HV : Hid (∀ W, Below wr.heap.size wr W → Calls Tryd.prog 37 #[.agg #[.int .i64 t.op, .int .i64 t.n, .slice A3 t.kids.length c3], .agg #[.int .i64 u.op, .int .i64 u.n, .slice A4 u.kids.length c4]] W fun e w' => e = .returned (.bool (t.sam u)) ∧ Below W.heap.size W w') := fun W hW => IH.out t (by omega) u (.slice A3 t.kids.length c3) (.slice A4 u.kids.length c4) W (hu1.on hW) (hu2.on hW)
            have hbd := Lib.hid ((Below.refl wr.heap.size wr).drew)
            have HSD := Lib.hid hsd
            have i1 : (0 : Int) ≤ (k : Int) := by omega
            have i2 : (k : Int) < (bts.length : Int) := by omega
            have i3 : (k : Int) < (ats.length : Int) := by omega
            have hbb1 : b1 < wr.heap.size := by omega
            have hbb2 : b2 < wr.heap.size := by omega
            have hs1 : w.heap.size < wr.heap.size := by omega
            have hs2 : w.heap.size + 1 < wr.heap.size := by omega
            clear hta hta' htb htb' hts1 hts2 ht hu hsd hu1 hu2
            obtain ⟨X, hX⟩ : ∃ X, X = t.sam u := ⟨_, rfl⟩
            have HX := Lib.hid hX
            clear hX
            go_wp2_with fail
            go_region_held3 (fun w' => w'.cell? ⟨w.heap.size, 2, none⟩ = some (.slice (some ⟨b1, o1, none⟩) ats.length c1) ∧ w'.cell? ⟨w.heap.size + 1, 2, none⟩ = some (.slice (some ⟨b2, o2, none⟩) bts.length c2) ∧ w'.cell? ⟨b1, o1 + k * 3, none⟩ = some (.int .i64 t.op) ∧ w'.cell? ⟨b1, o1 + k * 3 + 1, none⟩ = some (.int .i64 t.n) ∧ w'.cell? ⟨b1, o1 + k * 3 + 2, none⟩ = some (.slice A3 t.kids.length c3) ∧ w'.cell? ⟨b2, o2 + k * 3, none⟩ = some (.int .i64 u.op) ∧ w'.cell? ⟨b2, o2 + k * 3 + 1, none⟩ = some (.int .i64 u.n) ∧ w'.cell? ⟨b2, o2 + k * 3 + 2, none⟩ = some (.slice A4 u.kids.length c4))
              (first
                | (go_keep; done)
                | exact ⟨(hbx.cell (p := ⟨w.heap.size, 2, none⟩) hs1).trans p2, (hbx.cell (p := ⟨w.heap.size + 1, 2, none⟩) hs2).trans q2, (hbx.cell (p := ⟨b1, o1 + k * 3, none⟩) hbb1).trans g1, (hbx.cell (p := ⟨b1, o1 + k * 3 + 1, none⟩) hbb1).trans g2, (hbx.cell (p := ⟨b1, o1 + k * 3 + 2, none⟩) hbb1).trans g3, (hbx.cell (p := ⟨b2, o2 + k * 3, none⟩) hbb2).trans f1, (hbx.cell (p := ⟨b2, o2 + k * 3 + 1, none⟩) hbb2).trans f2, (hbx.cell (p := ⟨b2, o2 + k * 3 + 2, none⟩) hbb2).trans f3⟩)
              (first
                | (go_at_call 37; (with_reducible refine (HV.out _ hbd.out).mono ?_); rintro e9 wx ⟨rfl, hbx⟩))
            have HBX := Lib.hid (hbd.out.trans hbx)
            clear hbx
            rw [← HX.out]
            cases X with
            | false =>
              go_wp2_with fail
              go_ret
              exact ⟨ret_bool (by rw [HS.out, HSD.out, ← HX.out]; rfl), HKW.out.trans (HBX.out.mono HKW.out.size)⟩
            | true =>
              go_wp2_with fail
              go_roundw
              case rel => exact ⟨k + 1, by omega, by go_num, by show _ = _; rw [HS.out, HSD.out, ← HX.out, Bool.true_and], HB.out.trans (HBX.out.mono (by omega))⟩
              case measure => simp [intOf]; omega
          · have HS2 : Hid (a.sam b = true) := by show _ = _; rw [HS.out, show k = ats.length by omega, List.drop_length, samK]
            go_wp2_with fail
            go_ret
            exact ⟨ret_bool HS2.out.symm, HKW.out⟩
      · have HSM : Hid (a.sam b = false) := by show _ = _; rw [HSA.out, decide_eq_false e3]; simp
        subst e1 e2
        have x1 : ¬ (ats.length : Int) = (bts.length : Int) := by omega
        have x2 : ((ats.length : Int) == (bts.length : Int)) = false := beq_eq_false_iff_ne.2 x1
        have x3 : decide ((ats.length : Int) = (bts.length : Int)) = false := decide_eq_false x1
        have x4 : decide (ats.length = bts.length) = false := decide_eq_false e3
        have x5 : ((ats.length : Int) != (bts.length : Int)) = true := by rw [bne, x2]; rfl
        clear HSA
        go_wp2_with fail
        go_ret
        exact ⟨ret_bool HSM.out.symm, HB0.out⟩
    · have HSM : Hid (a.sam b = false) := by show _ = _; rw [HSA.out, decide_eq_false e2]; simp
      subst e1
      have x2 : (an == bn) = false := beq_eq_false_iff_ne.2 e2
      have x3 : decide (an = bn) = false := decide_eq_false e2
      have x5 : (an != bn) = true := by rw [bne, x2]; rfl
      clear HSA
      go_wp2_with fail
      go_ret
      exact ⟨ret_bool HSM.out.symm, HB0.out⟩
  · have HSM : Hid (a.sam b = false) := by show _ = _; rw [HSA.out, decide_eq_false e1]; simp
    have x2 : (ao == bo) = false := beq_eq_false_iff_ne.2 e1
    have x3 : decide (ao = bo) = false := decide_eq_false e1
    have x5 : (ao != bo) = true := by rw [bne, x2]; rfl
    clear HSA
    go_wp2_with fail
    go_ret
    exact ⟨ret_bool HSM.out.symm, HB0.out⟩
theorem rsam_any : ∀ (n : Nat) (c : Cn), c.dep < n → RsamC c
  | 0, c, h => absurd h (by omega)
  | n + 1, c, h => rsam_step c fun c' h' => rsam_any n c' (by omega)
end Go.Proofs.YtjkbfogjfgnhiaaDoor
