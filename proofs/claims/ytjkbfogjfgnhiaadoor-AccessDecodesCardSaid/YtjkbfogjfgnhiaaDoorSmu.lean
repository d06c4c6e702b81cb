
/-
  Equal conditions with up to three million parts: the walks of same and of access.Same, with wider bounds.
-/
import Derived.Test.YtjkbfogjfgnhiaaDoorRsm
namespace Go.Proofs.YtjkbfogjfgnhiaaDoor
set_option linter.unusedVariables false
set_option linter.unusedSimpArgs false
open Go.RowKit

set_option maxRecDepth 100000 in
set_option maxHeartbeats 1600000 in
theorem penter_anyU (b : Nat) (m d e : Nat) (w : World) (hb : w.heap[b]? = some (.cells #[.int .i64 (m : Int), .int .i64 (d : Int)] 55 (0, 0))) (hm : m ≤ 4000000) (he : e ≤ 60000) (hd : d ≤ 1000000) :
    Calls Tryd.prog 66 #[.pointer (some ⟨b, 0, none⟩), .int .i64 (e : Int)] w fun r w' => r = .returned (.bool true) ∧ Kb b w w' ∧ w'.heap[b]? = some (.cells #[.int .i64 ((m + 1 : Nat) : Int), .int .i64 ((max d e : Nat) : Int)] 55 (0, 0)) := by
  have c0 := cell_of_row _ _ 0 _ _ _ hb
  have c1 := cell_of_row _ _ 1 _ _ _ hb
  have f0 := frozen_of_row _ _ 0 _ _ hb
  have f1 := frozen_of_row _ _ 1 _ _ hb
  have HB := Lib.hid hb
  clear hb
  go_enter Tryd.func66, Tryd.ntmps66
  go_wp2_with fail
  all_goals
    go_ret
    refine ⟨ret_bool (decide_eq_true (by omega)), ((Kb.refl b w).set _ _).set _ _, ?_⟩
    rw [heap_set_row (heap_set_row HB.out)]
    simp
    try omega
def SamCU (a : Cn) : Prop := ∀ (b : Cn) (va vb : Value) (bk B m d e : Nat) (w : World), B ≤ bk → bk < w.heap.size → 0 < B → w.heap[bk]? = some (wrow m d) → KL w B va a.kids → KL w B vb b.kids → m + a.cnt ≤ 3000000 → d ≤ 1000 → e + a.dep ≤ 1000 →
  Calls Tryd.prog 63 #[.pointer (some ⟨bk, 0, none⟩), .agg #[.int .i64 a.op, .int .i64 a.n, va], .agg #[.int .i64 b.op, .int .i64 b.n, vb], .int .i64 (e : Int)] w (SamP a b bk (m + a.cnt) w)

set_option maxRecDepth 100000 in
set_option maxHeartbeats 12800000 in
theorem psam_stepU (a : Cn) (ih : ∀ a' : Cn, a'.dep < a.dep → SamCU a') : SamCU a := by
  intro b va vb bk B m d e w hBb hbs hB0 hrow hka hkb hm hd he
  have IH := Lib.hid ih
  clear ih
  have hkd := dep_kids a
  have hkc := cnt_kids a
  have HSA := Lib.hid (sam_parts a b)
  obtain ⟨A1, c1, rfl, h11, h12, h13⟩ := hka
  obtain ⟨A2, c2, rfl, h21, h22, h23⟩ := hkb
  unfold maxLen at h12 h22
  have hb0 := alloc2_below w (bx a.op a.n A1 a.kids.length c1) (bx b.op b.n A2 b.kids.length c2)
  have hr0 := (hb0.block bk hbs).trans hrow
  have hsz0 : ((w.alloc (bx a.op a.n A1 a.kids.length c1)).alloc (bx b.op b.n A2 b.kids.length c2)).heap.size = w.heap.size + 2 := by rw [alloc_size, alloc_size]
  have hn0 := (Below.heap_alloc (w.alloc (bx a.op a.n A1 a.kids.length c1)) (bx b.op b.n A2 b.kids.length c2) w.heap.size (by rw [alloc_size]; omega)).trans (heap_alloc_new w (bx a.op a.n A1 a.kids.length c1))
  have hn1 := heap_alloc_new (w.alloc (bx a.op a.n A1 a.kids.length c1)) (bx b.op b.n A2 b.kids.length c2)
  rw [alloc_size w] at hn1
  have HEN := Lib.hid (penter_anyU bk m d e _ hr0 (by omega) (by omega) (by omega))
  have HB0 := Lib.hid hb0
  have HSZ := Lib.hid hsz0
  have HN0 := Lib.hid hn0
  have HN1 := Lib.hid hn1
  clear hb0 hr0 hsz0 hn0 hn1 hrow
  generalize a.op = ao at *
  generalize a.n = an at *
  generalize a.kids = ats at *
  generalize b.op = bo at *
  generalize b.n = bn at *
  generalize b.kids = bts at *
  go_enter Tryd.func63, Tryd.ntmps63
  go_wp2_with fail
  refine HEN.out.mono ?_
  rintro r w1 ⟨rfl, hk1, hr1⟩
  have hk01 := (Kb.of_below (b := bk) HB0.out).trans hk1
  have hs1 : w.heap.size + 2 ≤ w1.heap.size := by have := hk1.size; rw [HSZ.out] at this; exact this
  have k0 := (hk1.block w.heap.size (by rw [HSZ.out]; omega) (by omega)).trans HN0.out
  have k1 := (hk1.block (w.heap.size + 1) (by rw [HSZ.out]; omega) (by omega)).trans HN1.out
  have p0 := cell_of_row _ _ 0 _ _ _ k0
  have p1 := cell_of_row _ _ 1 _ _ _ k0
  have p2 := cell_of_row _ _ 2 _ _ _ k0
  have q0 := cell_of_row _ _ 0 _ _ _ k1
  have q1 := cell_of_row _ _ 1 _ _ _ k1
  have q2 := cell_of_row _ _ 2 _ _ _ k1
  have HK01 := Lib.hid hk01
  have HR1 : Hid (w1.heap[bk]? = some (wrow (m + 1) (max d e))) := hr1
  have K1 := Lib.hid k1
  clear hk1 hk01 hr1 k0 k1
  by_cases e1 : ao = bo
  · by_cases e2 : an = bn
    · by_cases e3 : ats.length = bts.length
      · have HSM : Hid (a.sam b = samK ats bts) := by show _ = _; rw [HSA.out, decide_eq_true e1, decide_eq_true e2, decide_eq_true e3]; simp
        subst e1 e2
        have E3 := Lib.hid e3
        have x1 : (ats.length : Int) = (bts.length : Int) := by omega
        have x2 : ((ats.length : Int) == (bts.length : Int)) = true := beq_iff_eq.2 x1
        have x3 : decide ((ats.length : Int) = (bts.length : Int)) = true := decide_eq_true x1
        have x4 : decide (ats.length = bts.length) = true := decide_eq_true e3
        clear HSA e3 x1
        go_wp2_with fail
        clear x2 x3 x4
        go_loopw [37] (fun i wr => ∃ (k M D : Nat), k ≤ ats.length ∧ i = .int .i64 k ∧ M + cntK (ats.drop k) ≤ m + a.cnt ∧ D ≤ 1000 ∧ Hid (a.sam b = samK (ats.drop k) (bts.drop k)) ∧ Hid (Kb bk w1 wr) ∧ Hid (wr.heap[bk]? = some (wrow M D))) (fun i _ => ats.length - (intOf i).toNat)
        case atStart => exact ⟨0, m + 1, max d e, Nat.zero_le _, rfl, by rw [List.drop_zero]; omega, by omega, HSM, Kb.refl _ _, HR1⟩
        case round =>
          obtain ⟨k, M, D, hkl, rfl, hM, hD, HS, HK, HR⟩ := hrel
          have HKW := Lib.hid (HK01.out.trans HK.out)
          by_cases hlt : k < ats.length
          · have hlt2 : k < bts.length := by have := E3.out; omega
            obtain ⟨b1, o1, rfl, hb1, hts1⟩ := h13.out (by omega)
            obtain ⟨b2, o2, rfl, hb2, hts2⟩ := h23.out (by omega)
            have hta := CnsAt.get hts1 hlt
            have htb := CnsAt.get hts2 hlt2
            have hdp := depK_get ats k hlt
            have hcd := cntK_drop ats k hlt
            have hsd := samK_drop ats bts k hlt hlt2
            obtain ⟨t, ht⟩ : ∃ t, t = ats[k] := ⟨_, rfl⟩
            obtain ⟨u, hu⟩ : ∃ u, u = bts[k] := ⟨_, rfl⟩
            rw [← ht] at hta hdp hcd hsd
            rw [← hu] at htb hsd
            have hkt := dep_kids t
            have hta' := CnAt.keep (Nat.le_refl B) (fun p hp => HKW.out.cell (by omega) (by omega)) t b1 _ hb1 hta
            have htb' := CnAt.keep (Nat.le_refl B) (fun p hp => HKW.out.cell (by omega) (by omega)) u b2 _ hb2 htb
            obtain ⟨A3, c3, g1, g2, g3, hu1⟩ := hta'.cells
            obtain ⟨A4, c4, f1, f2, f3, hu2⟩ := htb'.cells
            have hsr := HK.out.size
            have hba := alloc_below wr (Obj.cells #[Value.int IntKind.i64 t.op, Value.int IntKind.i64 t.n, Value.slice A3 t.kids.length c3] 24)
            have hza := alloc_size wr (Obj.cells #[Value.int IntKind.i64 t.op, Value.int IntKind.i64 t.n, Value.slice A3 t.kids.length c3] 24)
            have hna := heap_alloc_new wr (Obj.cells #[Value.int IntKind.i64 t.op, Value.int IntKind.i64 t.n, Value.slice A3 t.kids.length c3] 24)
            have kk := (HK.out.block (w.heap.size + 1) (by omega) (by omega)).trans K1.out
            have HV : Hid (∀ W, Below (wr.alloc (Obj.cells #[Value.int IntKind.i64 t.op, Value.int IntKind.i64 t.n, Value.slice A3 t.kids.length c3] 24)).heap.size (wr.alloc (Obj.cells #[Value.int IntKind.i64 t.op, Value.int IntKind.i64 t.n, Value.slice A3 t.kids.length c3] 24)) W → Calls Tryd.prog 63 #[.pointer (some ⟨bk, 0, none⟩), .agg #[.int .i64 t.op, .int .i64 t.n, .slice A3 t.kids.length c3], .agg #[.int .i64 u.op, .int .i64 u.n, .slice A4 u.kids.length c4], .int .i64 ((e : Int) + 1)] W (SamP t u bk (M + t.cnt) W)) := fun W hW => by
              have hbw := hba.trans (hW.mono hba.size)
              have hz := hW.size
              have := IH.out t (by omega) u (.slice A3 t.kids.length c3) (.slice A4 u.kids.length c4) bk B M D (e + 1) W hBb (by omega) hB0 ((hbw.block bk (by omega)).trans HR.out) (hu1.keep (Nat.le_refl B) fun p hp => hbw.cell (by omega)) (hu2.keep (Nat.le_refl B) fun p hp => hbw.cell (by omega)) (by omega) (by omega) (by omega)
              rw [show ((e + 1 : Nat) : Int) = (e : Int) + 1 by omega] at this
              exact this
            have HS0 : Hid (∀ W, Below (wr.alloc (Obj.cells #[Value.int IntKind.i64 t.op, Value.int IntKind.i64 t.n, Value.slice A3 t.kids.length c3] 24)).heap.size (wr.alloc (Obj.cells #[Value.int IntKind.i64 t.op, Value.int IntKind.i64 t.n, Value.slice A3 t.kids.length c3] 24)) W → ∀ W', Kb bk W W' → W'.cell? ⟨wr.heap.size, 0, none⟩ = some (.int .i64 t.op) ∧ W'.cell? ⟨wr.heap.size, 1, none⟩ = some (.int .i64 t.n) ∧ W'.cell? ⟨wr.heap.size, 2, none⟩ = some (.slice A3 t.kids.length c3) ∧ W'.cell? ⟨w.heap.size + 1, 2, none⟩ = some (.slice (some ⟨b2, o2, none⟩) bts.length c2) ∧ W'.cell? ⟨b2, o2 + k * 3, none⟩ = some (.int .i64 u.op) ∧ W'.cell? ⟨b2, o2 + k * 3 + 1, none⟩ = some (.int .i64 u.n) ∧ W'.cell? ⟨b2, o2 + k * 3 + 2, none⟩ = some (.slice A4 u.kids.length c4)) := fun W hW W' hK => by
              have hz := hW.size
              rw [hza] at hz
              have y0 := (hK.block wr.heap.size (by omega) (by omega)).trans ((hW.block wr.heap.size (by rw [hza]; omega)).trans hna)
              have y1 := (hK.block (w.heap.size + 1) (by omega) (by omega)).trans ((hW.block (w.heap.size + 1) (by rw [hza]; omega)).trans ((hba.block (w.heap.size + 1) (by omega)).trans kk))
              have yc := fun (p : Addr) (hp : p.block < B) => (hK.cell (p := p) (by omega) (by omega)).trans ((hW.cell (p := p) (by rw [hza]; omega)).trans (hba.cell (p := p) (by omega)))
              exact ⟨cell_of_row _ _ 0 _ _ _ y0, cell_of_row _ _ 1 _ _ _ y0, cell_of_row _ _ 2 _ _ _ y0, cell_of_row _ _ 2 _ _ _ y1, (yc ⟨b2, o2 + k * 3, none⟩ hb2).trans f1, (yc ⟨b2, o2 + k * 3 + 1, none⟩ hb2).trans f2, (yc ⟨b2, o2 + k * 3 + 2, none⟩ hb2).trans f3⟩
            have hbd := Lib.hid ((Below.refl (wr.alloc (Obj.cells #[Value.int IntKind.i64 t.op, Value.int IntKind.i64 t.n, Value.slice A3 t.kids.length c3] 24)).heap.size (wr.alloc (Obj.cells #[Value.int IntKind.i64 t.op, Value.int IntKind.i64 t.n, Value.slice A3 t.kids.length c3] 24))).drew)
            have HEN2 : Hid (∀ w', Kb bk (wr.alloc (Obj.cells #[Value.int IntKind.i64 t.op, Value.int IntKind.i64 t.n, Value.slice A3 t.kids.length c3] 24)).drew w' → Kb bk w1 w') := fun w' h => HK.out.trans (((Kb.of_below (b := bk) hba).trans (Kb.of_below hbd.out)).trans h)
            have HSD := Lib.hid hsd
            have i1 : (0 : Int) ≤ (k : Int) := by omega
            have i2 : (k : Int) < (bts.length : Int) := by omega
            have i3 : (e : Int) + 1 ≤ 1001 := by omega
            have hM2 : M + t.cnt + cntK (ats.drop (k + 1)) ≤ m + a.cnt := by omega
            clear hta hta' htb htb' hts1 hts2 ht hu hcd hsd hba hza hna kk hu1 hu2 p0 p1 p2 q0 q1 q2 f1 f2 f3 hM
            obtain ⟨X, hX⟩ : ∃ X, X = t.sam u := ⟨_, rfl⟩
            have HX := Lib.hid hX
            clear hX
            have w9 : IntKind.i64.wrap ((e : Int) + 1) = (e : Int) + 1 := IntWalk.i64_in _ (by omega)
            go_wp2_with fail
            go_region_held3 (fun w' => w'.cell? ⟨wr.heap.size, 0, none⟩ = some (.int .i64 t.op) ∧ w'.cell? ⟨wr.heap.size, 1, none⟩ = some (.int .i64 t.n) ∧ w'.cell? ⟨wr.heap.size, 2, none⟩ = some (.slice A3 t.kids.length c3) ∧ w'.cell? ⟨w.heap.size + 1, 2, none⟩ = some (.slice (some ⟨b2, o2, none⟩) bts.length c2) ∧ w'.cell? ⟨b2, o2 + k * 3, none⟩ = some (.int .i64 u.op) ∧ w'.cell? ⟨b2, o2 + k * 3 + 1, none⟩ = some (.int .i64 u.n) ∧ w'.cell? ⟨b2, o2 + k * 3 + 2, none⟩ = some (.slice A4 u.kids.length c4))
              (first
                | (go_keep; done)
                | exact HS0.out _ hbd.out _ (Kb.refl _ _)
                | exact HS0.out _ hbd.out _ hkx)
              (first
                | (go_at_call 63; (with_reducible refine (HV.out _ hbd.out).mono ?_); rintro e9 wx ⟨rfl, hkx, m9, d9, hm9, hd9, hrx⟩))
            have HKX := Lib.hid (HEN2.out _ hkx)
            have HRX := Lib.hid hrx
            clear hkx hrx w9
            rw [← HX.out]
            cases X with
            | false =>
              go_wp2_with fail
              go_ret
              refine ⟨ret_bool (by rw [HS.out, HSD.out, ← HX.out]; rfl), HK01.out.trans HKX.out, m9, d9, by omega, hd9, HRX.out⟩
            | true =>
              go_wp2_with fail
              go_roundw
              case rel => exact ⟨k + 1, m9, d9, by omega, by go_num, by omega, hd9, by show _ = _; rw [HS.out, HSD.out, ← HX.out, Bool.true_and], HKX, HRX⟩
              case measure => simp [intOf]; omega
          · have HS2 : Hid (a.sam b = true) := by show _ = _; rw [HS.out, show k = ats.length by omega, List.drop_length, samK]
            have hM2 : M ≤ m + a.cnt := by omega
            go_wp2_with fail
            go_ret
            exact ⟨ret_bool HS2.out.symm, HK01.out.trans HK.out, M, D, hM2, hD, HR.out⟩
      · have HSM : Hid (a.sam b = false) := by show _ = _; rw [HSA.out, decide_eq_false e3]; simp
        subst e1 e2
        have x1 : ¬ (ats.length : Int) = (bts.length : Int) := by omega
        have x2 : ((ats.length : Int) == (bts.length : Int)) = false := beq_eq_false_iff_ne.2 x1
        have x3 : decide ((ats.length : Int) = (bts.length : Int)) = false := decide_eq_false x1
        have x4 : decide (ats.length = bts.length) = false := decide_eq_false e3
        clear HSA
        go_wp2_with fail
        go_ret
        exact ⟨ret_bool HSM.out.symm, HK01.out, m + 1, max d e, by omega, by omega, HR1.out⟩
    · have HSM : Hid (a.sam b = false) := by show _ = _; rw [HSA.out, decide_eq_false e2]; simp
      subst e1
      have x2 : (an == bn) = false := beq_eq_false_iff_ne.2 e2
      have x3 : decide (an = bn) = false := decide_eq_false e2
      clear HSA
      go_wp2_with fail
      go_ret
      exact ⟨ret_bool HSM.out.symm, HK01.out, m + 1, max d e, by omega, by omega, HR1.out⟩
  · have HSM : Hid (a.sam b = false) := by show _ = _; rw [HSA.out, decide_eq_false e1]; simp
    have x2 : (ao == bo) = false := beq_eq_false_iff_ne.2 e1
    have x3 : decide (ao = bo) = false := decide_eq_false e1
    clear HSA
    go_wp2_with fail
    go_ret
    exact ⟨ret_bool HSM.out.symm, HK01.out, m + 1, max d e, by omega, by omega, HR1.out⟩
theorem psam_anyU : ∀ (n : Nat) (c : Cn), c.dep < n → SamCU c
  | 0, c, h => absurd h (by omega)
  | n + 1, c, h => psam_stepU c fun c' h' => psam_anyU n c' (by omega)
set_option maxRecDepth 100000 in
set_option maxHeartbeats 1600000 in
theorem psm1_anyU (r q : Rl) (va vb : Value) (bk B m d : Nat) (w : World) (hBb : B ≤ bk) (hbs : bk < w.heap.size) (hB0 : 0 < B) (hrow : w.heap[bk]? = some (wrow m d)) (hka : KL w B va r.cond.kids) (hkb : KL w B vb q.cond.kids) (hm : m + r.cond.cnt ≤ 3000000) (hd : d ≤ 1000) (he : r.cond.dep ≤ 900) :
    Calls Tryd.prog 62 #[.agg #[.int .i64 r.ops, .int .i64 r.cond.op, .int .i64 r.cond.n, va], .agg #[.int .i64 q.ops, .int .i64 q.cond.op, .int .i64 q.cond.n, vb], .pointer (some ⟨bk, 0, none⟩)] w fun e w' => e = .returned (.bool (r.sam q)) ∧ Kb bk w w' ∧ ∃ m' d' : Nat, m' ≤ m + r.cond.cnt ∧ d' ≤ 1000 ∧ w'.heap[bk]? = some (wrow m' d') := by
  obtain ⟨ro, c⟩ := r
  obtain ⟨qo, u⟩ := q
  simp only at hka hkb hm he ⊢
  obtain ⟨A1, c1, rfl, h11, h12, h13⟩ := id hka
  obtain ⟨A2, c2, rfl, h21, h22, h23⟩ := id hkb
  have hb0 := alloc2_below w (Obj.cells #[Value.int IntKind.i64 ro, Value.int IntKind.i64 c.op, Value.int IntKind.i64 c.n, Value.slice A1 c.kids.length c1] 53) (Obj.cells #[Value.int IntKind.i64 qo, Value.int IntKind.i64 u.op, Value.int IntKind.i64 u.n, Value.slice A2 u.kids.length c2] 53)
  have hC := psam_anyU (c.dep + 1) c (by omega) u _ _ bk B m d 1 _ hBb (Nat.lt_of_lt_of_le hbs hb0.size) hB0 ((hb0.block bk hbs).trans hrow) (hka.keep (Nat.le_refl B) fun p hp => hb0.cell (by omega)) (hkb.keep (Nat.le_refl B) fun p hp => hb0.cell (by omega)) hm hd (by omega)
  have HC := Lib.hid hC
  have HB0 := Lib.hid hb0
  have HR := Lib.hid ((hb0.block bk hbs).trans hrow)
  have HS : Hid (Rl.sam ⟨ro, c⟩ ⟨qo, u⟩ = (decide (ro = qo) && c.sam u)) := rfl
  clear hC hb0 hrow hka hkb h13 h23
  unfold SamP at HC
  generalize c.sam u = X at *
  go_enter Tryd.func62, Tryd.ntmps62
  by_cases e1 : ro = qo
  · subst e1
    go_wp2_with fail
    refine HC.out.mono ?_
    rintro e w1 ⟨rfl, hk1, m', d', hm', hd', hr'⟩
    go_wp2_with fail
    go_ret
    exact ⟨ret_bool (by rw [HS.out]; simp), (Kb.of_below HB0.out).trans hk1, m', d', hm', hd', hr'⟩
  · have x2 : (ro == qo) = false := beq_eq_false_iff_ne.2 e1
    have x3 : decide (ro = qo) = false := decide_eq_false e1
    go_wp2_with fail
    go_ret
    exact ⟨ret_bool (by rw [HS.out, x3]; rfl), Kb.of_below HB0.out, m, d, by omega, hd, HR.out⟩

set_option maxRecDepth 100000 in
set_option maxHeartbeats 6400000 in
theorem peqf_anyU (rs us : List Rl) (va vb : Value) (bk B m d : Nat) (w : World) (hBb : B ≤ bk) (hbs : bk < w.heap.size) (hB0 : 0 < B) (hrow : w.heap[bk]? = some (wrow m d)) (hka : RL w B va rs) (hkb : RL w B vb us) (hm : m + cntR rs ≤ 3000000) (hd : d ≤ 1000) (hc : ∀ (k : Nat) (h : k < rs.length), rs[k].cond.dep ≤ 900) :
    Calls Tryd.prog 61 #[va, vb, .func (.func 62) #[] #[.pointer (some ⟨bk, 0, none⟩)]] w fun e w' => e = .returned (.bool (samR rs us)) ∧ Kb bk w w' := by
  obtain ⟨A1, c1, rfl, h11, h12, h13⟩ := hka
  obtain ⟨A2, c2, rfl, h21, h22, h23⟩ := hkb
  unfold maxLen at h12 h22
  have HC := Lib.hid hc
  have HR0 : Hid (w.heap[bk]? = some (wrow m d)) := hrow
  clear hc hrow
  have HS : Hid (samR rs us = (decide (rs.length = us.length) && samL rs us)) := rfl
  go_enter Tryd.func61, Tryd.ntmps61
  by_cases e3 : rs.length = us.length
  · have HSM : Hid (samR rs us = samL rs us) := by show _ = _; rw [HS.out, decide_eq_true e3]; rfl
    have x1 : (rs.length : Int) = (us.length : Int) := by omega
    have x2 : ((rs.length : Int) == (us.length : Int)) = true := beq_iff_eq.2 x1
    have x3 : decide ((rs.length : Int) = (us.length : Int)) = true := decide_eq_true x1
    have x4 : decide (rs.length = us.length) = true := decide_eq_true e3
    have x5 : ((rs.length : Int) != (us.length : Int)) = false := by rw [bne, x2]; rfl
    have E3 := Lib.hid e3
    clear e3 x1
    go_wp2_with fail
    clear x2 x3 x4 x5
    go_loopw [17] (fun i wr => ∃ (k M D : Nat), k ≤ rs.length ∧ i = .int .i64 k ∧ M + cntR (rs.drop k) ≤ 3000000 ∧ D ≤ 1000 ∧ Hid (samR rs us = samL (rs.drop k) (us.drop k)) ∧ Hid (Kb bk w wr) ∧ Hid (wr.heap[bk]? = some (wrow M D))) (fun i _ => rs.length - (intOf i).toNat)
    case atStart => exact ⟨0, m, d, Nat.zero_le _, rfl, by rw [List.drop_zero]; omega, hd, by show _ = _; rw [List.drop_zero, List.drop_zero]; exact HSM.out, Kb.refl _ _, HR0⟩
    case round =>
      obtain ⟨k, M, D, hkl, rfl, hM, hD, HSS, HK, HR⟩ := hrel
      by_cases hlt : k < rs.length
      · have hlt2 : k < us.length := by have := E3.out; omega
        obtain ⟨b1, o1, rfl, hb1, hts1⟩ := h13.out (by omega)
        obtain ⟨b2, o2, rfl, hb2, hts2⟩ := h23.out (by omega)
        have hta := (hts1 k hlt).keep hb1 (Nat.le_refl B) (fun p hp => HK.out.cell (by omega) (by omega))
        have htb := (hts2 k hlt2).keep hb2 (Nat.le_refl B) (fun p hp => HK.out.cell (by omega) (by omega))
        have hcd := cntR_drop rs k hlt
        have hsd := samL_drop rs us k hlt hlt2
        have hcc := HC.out k hlt
        obtain ⟨r, hr⟩ : ∃ r, r = rs[k] := ⟨_, rfl⟩
        obtain ⟨q, hq⟩ : ∃ q, q = us[k] := ⟨_, rfl⟩
        rw [← hr] at hta hcd hsd hcc
        rw [← hq] at htb hsd
        obtain ⟨ro, c⟩ := r
        obtain ⟨qo, u⟩ := q
        obtain ⟨g0, hca⟩ := hta
        obtain ⟨f0, hcb⟩ := htb
        obtain ⟨A3, c3, g1, g2, g3, hu1⟩ := hca.cells
        obtain ⟨A4, c4, f1, f2, f3, hu2⟩ := hcb.cells
        simp only at g0 g1 g2 g3 f0 f1 f2 f3 hu1 hu2 hcd hcc hsd
        have hsr := HK.out.size
        have hdc := c.dep_cnt
        have hba := alloc2_below wr (Obj.cells #[Value.int IntKind.i64 ro, Value.int IntKind.i64 c.op, Value.int IntKind.i64 c.n, Value.slice A3 c.kids.length c3] 53) (Obj.cells #[Value.int IntKind.i64 qo, Value.int IntKind.i64 u.op, Value.int IntKind.i64 u.n, Value.slice A4 u.kids.length c4] 53)
        have HQ := Lib.hid (psm1_anyU ⟨ro, c⟩ ⟨qo, u⟩ (.slice A3 c.kids.length c3) (.slice A4 u.kids.length c4) bk B M D _ hBb (Nat.lt_of_lt_of_le hbs (Nat.le_trans hsr hba.size)) hB0 ((hba.block bk (by omega)).trans HR.out) (hu1.keep (Nat.le_refl B) fun p hp => hba.cell (by omega)) (hu2.keep (Nat.le_refl B) fun p hp => hba.cell (by omega)) (by show _ + c.cnt ≤ _; omega) hD (by show c.dep ≤ _; omega))
        have HBA := Lib.hid hba
        have HSD := Lib.hid hsd
        have hbb2 : b2 < wr.heap.size := by omega
        have hbb3 : b2 ≠ wr.heap.size := by omega
        have hb1a := alloc_below wr (Obj.cells #[Value.int IntKind.i64 ro, Value.int IntKind.i64 c.op, Value.int IntKind.i64 c.n, Value.slice A3 c.kids.length c3] 53)
        have y0 := (hb1a.cell (p := ⟨b2, o2 + k * 4, none⟩) hbb2).trans f0
        have y1 := (hb1a.cell (p := ⟨b2, o2 + k * 4 + 1, none⟩) hbb2).trans f1
        have y2 := (hb1a.cell (p := ⟨b2, o2 + k * 4 + 1 + 1, none⟩) hbb2).trans f2
        have y3 := (hb1a.cell (p := ⟨b2, o2 + k * 4 + 1 + 2, none⟩) hbb2).trans f3
        clear hb1a
        have i1 : (0 : Int) ≤ (k : Int) := by omega
        have i2 : (k : Int) < (us.length : Int) := by omega
        have i3 : (k : Int) < (rs.length : Int) := by omega
        have hM2 : M + c.cnt + cntR (rs.drop (k + 1)) ≤ 3000000 := by omega
        clear hca hcb hts1 hts2 hr hq hcd hcc hsd hu1 hu2 hba hM hdc
        generalize Rl.sam ⟨ro, c⟩ ⟨qo, u⟩ = X at HQ HSD
        go_wp2_with fail
        refine HQ.out.mono ?_
        rintro e w2 ⟨rfl, hk2, m9, d9, hm9, hd9, hr9⟩
        have HK2 := Lib.hid (HK.out.trans ((Kb.of_below HBA.out).trans hk2))
        have HR9 := Lib.hid hr9
        have hm8 : m9 ≤ M + c.cnt := hm9
        clear hk2 hr9 hm9
        cases X with
        | false =>
          go_wp2_with fail
          go_ret
          exact ⟨ret_bool (by rw [HSS.out, HSD.out]; rfl), HK2.out⟩
        | true =>
          go_wp2_with fail
          go_roundw
          case rel => exact ⟨k + 1, m9, d9, by omega, by go_num, by omega, hd9, by show _ = _; rw [HSS.out, HSD.out, Bool.true_and], HK2, HR9⟩
          case measure => simp [intOf]; omega
      · have HS2 : Hid (samR rs us = true) := by show _ = _; rw [HSS.out, show k = rs.length by omega, List.drop_length, samL]
        go_wp2_with fail
        go_ret
        exact ⟨ret_bool HS2.out.symm, HK.out⟩
  · have HSM : Hid (samR rs us = false) := by show _ = _; rw [HS.out, decide_eq_false e3]; rfl
    have x1 : ¬ (rs.length : Int) = (us.length : Int) := by omega
    have x2 : ((rs.length : Int) == (us.length : Int)) = false := beq_eq_false_iff_ne.2 x1
    have x3 : decide ((rs.length : Int) = (us.length : Int)) = false := decide_eq_false x1
    have x4 : decide (rs.length = us.length) = false := decide_eq_false e3
    have x5 : ((rs.length : Int) != (us.length : Int)) = true := by rw [bne, x2]; rfl
    go_wp2_with fail
    go_ret
    exact ⟨ret_bool HSM.out.symm, Kb.refl _ _⟩

set_option maxRecDepth 100000 in
set_option maxHeartbeats 1600000 in
theorem psmr_anyU (rs us : List Rl) (va vb : Value) (w : World) (hka : RL w w.heap.size va rs) (hkb : RL w w.heap.size vb us) (h0 : 0 < w.heap.size) (hm : cntR rs ≤ 2900000) (hc : ∀ (k : Nat) (h : k < rs.length), rs[k].cond.dep ≤ 900) :
    Calls Tryd.prog 34 #[va, vb] w fun e w' => e = .returned (.bool (samR rs us)) ∧ Below w.heap.size w w' := by
  have ha := alloc_below w (wrow 0 0)
  have hn := heap_alloc_new w (wrow 0 0)
  have HQ := Lib.hid (peqf_anyU rs us va vb w.heap.size w.heap.size 0 0 _ (Nat.le_refl _) (by rw [alloc_size]; omega) h0 hn (hka.keep (Nat.le_refl _) fun p hp => ha.cell hp) (hkb.keep (Nat.le_refl _) fun p hp => ha.cell hp) (by omega) (by omega) hc)
  have HA := Lib.hid ha
  obtain ⟨A1, c1, rfl, h11, h12, h13⟩ := hka
  obtain ⟨A2, c2, rfl, h21, h22, h23⟩ := hkb
  clear ha hn hc h13 h23
  go_enter Tryd.func34, Tryd.ntmps34
  go_wp2_with fail
  refine HQ.out.mono ?_
  rintro e w1 ⟨rfl, hk1⟩
  go_wp2_with fail
  go_ret
  exact ⟨rfl, HA.out.trans (hk1.below (Nat.le_refl _) (by rw [alloc_size]; omega))⟩
end Go.Proofs.YtjkbfogjfgnhiaaDoor
