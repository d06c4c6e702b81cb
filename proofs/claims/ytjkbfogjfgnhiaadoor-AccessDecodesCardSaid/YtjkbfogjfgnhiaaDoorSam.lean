/-
  Equal conditions: mathematics, the walks of same (of the program) and SameCond (of the reference).
-/
import Derived.Test.YtjkbfogjfgnhiaaDoorAlw
namespace Go.Proofs.YtjkbfogjfgnhiaaDoor
set_option linter.unusedVariables false
set_option linter.unusedSimpArgs false
open Go.RowKit

mutual
def Cn.sam : Cn → Cn → Bool
  | .mk op n ks, b => decide (op = b.op) && (decide (n = b.n) && (decide (ks.length = b.kids.length) && samK ks b.kids))
def samK : List Cn → List Cn → Bool
  | [], _ => true
  | t :: ts, us => t.sam (us.getD 0 Cn.zero) && samK ts (us.drop 1)
end
theorem sam_parts (a b : Cn) : a.sam b = (decide (a.op = b.op) && (decide (a.n = b.n) && (decide (a.kids.length = b.kids.length) && samK a.kids b.kids))) := by cases a; rw [Cn.sam]; rfl
theorem samK_drop (ts us : List Cn) (k : Nat) (h : k < ts.length) (h' : k < us.length) : samK (ts.drop k) (us.drop k) = ((ts[k]).sam us[k] && samK (ts.drop (k + 1)) (us.drop (k + 1))) := by
  rw [List.drop_eq_getElem_cons h, samK]
  have e : (us.drop k).getD 0 Cn.zero = us[k] := by simp [List.getD, List.getElem?_eq_getElem h']
  rw [e, List.drop_drop]
mutual
theorem Cn.sam_eq : ∀ a b : Cn, a.sam b = true ↔ a = b
  | .mk op n ks, b => by
    have h := samK_eq ks b.kids
    rw [Cn.sam]
    obtain ⟨op', n', ks'⟩ := b
    rw [Bool.and_eq_true, Bool.and_eq_true, Bool.and_eq_true, decide_eq_true_eq, decide_eq_true_eq, decide_eq_true_eq, Cn.mk.injEq]
    replace h : ks.length = ks'.length → (samK ks ks' = true ↔ ks = ks') := h
    show op = op' ∧ n = n' ∧ ks.length = ks'.length ∧ samK ks ks' = true ↔ op = op' ∧ n = n' ∧ ks = ks'
    constructor
    · rintro ⟨h1, h2, h3, h4⟩; exact ⟨h1, h2, (h h3).1 h4⟩
    · rintro ⟨h1, h2, h3⟩
      have h4 : ks.length = ks'.length := by rw [h3]
      exact ⟨h1, h2, h4, (h h4).2 h3⟩
theorem samK_eq : ∀ ts us : List Cn, ts.length = us.length → (samK ts us = true ↔ ts = us)
  | [], us, hl => by
    rw [samK]
    cases us with
    | nil => simp
    | cons u us => simp at hl
  | t :: ts, us, hl => by
    cases us with
    | nil => simp at hl
    | cons u us =>
      have h1 := Cn.sam_eq t u
      have h2 := samK_eq ts us (by simpa using hl)
      rw [samK, Bool.and_eq_true]
      simp only [List.getD, List.getElem?_cons_zero, Option.getD_some, List.drop_succ_cons, List.drop_zero, List.cons.injEq]
      rw [h1, h2]
end

def SamP (a b : Cn) (bk M : Nat) (w : World) (r : Ending) (w' : World) : Prop :=
  r = .returned (.bool (a.sam b)) ∧ Kb bk w w' ∧ ∃ m' d' : Nat, m' ≤ M ∧ d' ≤ 1000 ∧ w'.heap[bk]? = some (wrow m' d')
def SamC (a : Cn) : Prop := ∀ (b : Cn) (va vb : Value) (bk B m d e : Nat) (w : World), B ≤ bk → bk < w.heap.size → 0 < B → w.heap[bk]? = some (wrow m d) → KL w B va a.kids → KL w B vb b.kids → m + a.cnt ≤ 100000 → d ≤ 1000 → e + a.dep ≤ 1000 →
  Calls Tryd.prog 63 #[.pointer (some ⟨bk, 0, none⟩), .agg #[.int .i64 a.op, .int .i64 a.n, va], .agg #[.int .i64 b.op, .int .i64 b.n, vb], .int .i64 (e : Int)] w (SamP a b bk (m + a.cnt) w)

set_option maxRecDepth 100000 in
set_option maxHeartbeats 12800000 in
theorem psam_step (a : Cn) (ih : ∀ a' : Cn, a'.dep < a.dep → SamC a') : SamC a := by
  intro b va vb bk B m d e w hBb hbs hB0 hrow hka hkb hm hd he
  have IH := Lib.hid ih
  clear ih
  have hkd := dep_kids a
  have hkc := cnt_kids a
  have HSA := Lib.hid (sam_parts a b)
  obtain ⟨A1, c1, rfl, h11, h12, h13⟩ := hka
  obtain ⟨A2, c2, rfl, h21, h22, h23⟩ := hkb
  unfold maxLen at h12 h22
  have hb0 := alloc2_below w (bx a.op a.n A1 a.kids.length c1) (bx b.op b.n A2 b.kids.length c2)
  have hr0 := (hb0.block bk hbs).trans hrow
  have hsz0 : ((w.alloc (bx a.op a.n A1 a.kids.length c1)).alloc (bx b.op b.n A2 b.kids.length c2)).heap.size = w.heap.size + 2 := by rw [alloc_size, alloc_size]
  have hn0 := (Below.heap_alloc (w.alloc (bx a.op a.n A1 a.kids.length c1)) (bx b.op b.n A2 b.kids.length c2) w.heap.size (by rw [alloc_size]; omega)).trans (heap_alloc_new w (bx a.op a.n A1 a.kids.length c1))
  have hn1 := heap_alloc_new (w.alloc (bx a.op a.n A1 a.kids.length c1)) (bx b.op b.n A2 b.kids.length c2)
  rw [alloc_size w] at hn1
  have HEN := Lib.hid (penter_any bk m d e _ hr0 (by omega) (by omega) (by omega))
  have HB0 := Lib.hid hb0
  have HSZ := Lib.hid hsz0
  have HN0 := Lib.hid hn0
  have HN1 := Lib.hid hn1
  clear hb0 hr0 hsz0 hn0 hn1 hrow
  generalize a.op = ao at *
  generalize a.n = an at *
  generalize a.kids = ats at *
  generalize b.op = bo at *
  generalize b.n = bn at *
  generalize b.kids = bts at *
  go_enter Tryd.func63, Tryd.ntmps63
  go_wp2_with fail
  refine HEN.out.mono ?_
  rintro r w1 ⟨rfl, hk1, hr1⟩
  have hk01 := (Kb.of_below (b := bk) HB0.out).trans hk1
  have hs1 : w.heap.size + 2 ≤ w1.heap.size := by have := hk1.size; rw [HSZ.out] at this; exact this
  have k0 := (hk1.block w.heap.size (by rw [HSZ.out]; omega) (by omega)).trans HN0.out
  have k1 := (hk1.block (w.heap.size + 1) (by rw [HSZ.out]; omega) (by omega)).trans HN1.out
  have p0 := cell_of_row _ _ 0 _ _ _ k0
  have p1 := cell_of_row _ _ 1 _ _ _ k0
  have p2 := cell_of_row _ _ 2 _ _ _ k0
  have q0 := cell_of_row _ _ 0 _ _ _ k1
  have q1 := cell_of_row _ _ 1 _ _ _ k1
  have q2 := cell_of_row _ _ 2 _ _ _ k1
  have HK01 := Lib.hid hk01
  have HR1 : Hid (w1.heap[bk]? = some (wrow (m + 1) (max d e))) := hr1
  have K1 := Lib.hid k1
  clear hk1 hk01 hr1 k0 k1
  by_cases e1 : ao = bo
  · by_cases e2 : an = bn
    · by_cases e3 : ats.length = bts.length
      · have HSM : Hid (a.sam b = samK ats bts) := by show _ = _; rw [HSA.out, decide_eq_true e1, decide_eq_true e2, decide_eq_true e3]; simp
        subst e1 e2
        have E3 := Lib.hid e3
        have x1 : (ats.length : Int) = (bts.length : Int) := by omega
        have x2 : ((ats.length : Int) == (bts.length : Int)) = true := beq_iff_eq.2 x1
        have x3 : decide ((ats.length : Int) = (bts.length : Int)) = true := decide_eq_true x1
        have x4 : decide (ats.length = bts.length) = true := decide_eq_true e3
        clear HSA e3 x1
        go_wp2_with fail
        clear x2 x3 x4
        go_loopw [37] (fun i wr => ∃ (k M D : Nat), k ≤ ats.length ∧ i = .int .i64 k ∧ M + cntK (ats.drop k) ≤ m + a.cnt ∧ D ≤ 1000 ∧ Hid (a.sam b = samK (ats.drop k) (bts.drop k)) ∧ Hid (Kb bk w1 wr) ∧ Hid (wr.heap[bk]? = some (wrow M D))) (fun i _ => ats.length - (intOf i).toNat)
        case atStart => exact ⟨0, m + 1, max d e, Nat.zero_le _, rfl, by rw [List.drop_zero]; omega, by omega, HSM, Kb.refl _ _, HR1⟩
        case round =>
          obtain ⟨k, M, D, hkl, rfl, hM, hD, HS, HK, HR⟩ := hrel
          have HKW := Lib.hid (HK01.out.trans HK.out)
          by_cases hlt : k < ats.length
          · have hlt2 : k < bts.length := by have := E3.out; omega
            obtain ⟨b1, o1, rfl, hb1, hts1⟩ := h13.out (by omega)
            obtain ⟨b2, o2, rfl, hb2, hts2⟩ := h23.out (by omega)
            have hta := CnsAt.get hts1 hlt
            have htb := CnsAt.get hts2 hlt2
            have hdp := depK_get ats k hlt
            have hcd := cntK_drop ats k hlt
            have hsd := samK_drop ats bts k hlt hlt2
            obtain ⟨t, ht⟩ : ∃ t, t = ats[k] := ⟨_, rfl⟩
            obtain ⟨u, hu⟩ : ∃ u, u = bts[k] := ⟨_, rfl⟩
            rw [← ht] at hta hdp hcd hsd
            rw [← hu] at htb hsd
            have hkt := dep_kids t
            have hta' := CnAt.keep (Nat.le_refl B) (fun p hp => HKW.out.cell (by omega) (by omega)) t b1 _ hb1 hta
            have htb' := CnAt.keep (Nat.le_refl B) (fun p hp => HKW.out.cell (by omega) (by omega)) u b2 _ hb2 htb
            obtain ⟨A3, c3, g1, g2, g3, hu1⟩ := hta'.cells
            obtain ⟨A4, c4, f1, f2, f3, hu2⟩ := htb'.cells
            have hsr := HK.out.size
            have hba := alloc_below wr (Obj.cells #[Value.int IntKind.i64 t.op, Value.int IntKind.i64 t.n, Value.slice A3 t.kids.length c3] 24)
            have hza := alloc_size wr (Obj.cells #[Value.int IntKind.i64 t.op, Value.int IntKind.i64 t.n, Value.slice A3 t.kids.length c3] 24)
            have hna := heap_alloc_new wr (Obj.cells #[Value.int IntKind.i64 t.op, Value.int IntKind.i64 t.n, Value.slice A3 t.kids.length c3] 24)
            have kk := (HK.out.block (w.heap.size + 1) (by omega) (by omega)).trans K1.out
            have HV : Hid (∀ W, Below (wr.alloc (Obj.cells #[Value.int IntKind.i64 t.op, Value.int IntKind.i64 t.n, Value.slice A3 t.kids.length c3] 24)).heap.size (wr.alloc (Obj.cells #[Value.int IntKind.i64 t.op, Value.int IntKind.i64 t.n, Value.slice A3 t.kids.length c3] 24)) W → Calls Tryd.prog 63 #[.pointer (some ⟨bk, 0, none⟩), .agg #[.int .i64 t.op, .int .i64 t.n, .slice A3 t.kids.length c3], .agg #[.int .i64 u.op, .int .i64 u.n, .slice A4 u.kids.length c4], .int .i64 ((e : Int) + 1)] W (SamP t u bk (M + t.cnt) W)) := fun W hW => by
              have hbw := hba.trans (hW.mono hba.size)
              have hz := hW.size
              have := IH.out t (by omega) u (.slice A3 t.kids.length c3) (.slice A4 u.kids.length c4) bk B M D (e + 1) W hBb (by omega) hB0 ((hbw.block bk (by omega)).trans HR.out) (hu1.keep (Nat.le_refl B) fun p hp => hbw.cell (by omega)) (hu2.keep (Nat.le_refl B) fun p hp => hbw.cell (by omega)) (by omega) (by omega) (by omega)
              rw [show ((e + 1 : Nat) : Int) = (e : Int) + 1 by omega] at this
              exact this
            have HS0 : Hid (∀ W, Below (wr.alloc (Obj.cells #[Value.int IntKind.i64 t.op, Value.int IntKind.i64 t.n, Value.slice A3 t.kids.length c3] 24)).heap.size (wr.alloc (Obj.cells #[Value.int IntKind.i64 t.op, Value.int IntKind.i64 t.n, Value.slice A3 t.kids.length c3] 24)) W → ∀ W', Kb bk W W' → W'.cell? ⟨wr.heap.size, 0, none⟩ = some (.int .i64 t.op) ∧ W'.cell? ⟨wr.heap.size, 1, none⟩ = some (.int .i64 t.n) ∧ W'.cell? ⟨wr.heap.size, 2, none⟩ = some (.slice A3 t.kids.length c3) ∧ W'.cell? ⟨w.heap.size + 1, 2, none⟩ = some (.slice (some ⟨b2, o2, none⟩) bts.length c2) ∧ W'.cell? ⟨b2, o2 + k * 3, none⟩ = some (.int .i64 u.op) ∧ W'.cell? ⟨b2, o2 + k * 3 + 1, none⟩ = some (.int .i64 u.n) ∧ W'.cell? ⟨b2, o2 + k * 3 + 2, none⟩ = some (.slice A4 u.kids.length c4)) := fun W hW W' hK => by
              have hz := hW.size
              rw [hza] at hz
              have y0 := (hK.block wr.heap.size (by omega) (by omega)).trans ((hW.block wr.heap.size (by rw [hza]; omega)).trans hna)
              have y1 := (hK.block (w.heap.size + 1) (by omega) (by omega)).trans ((hW.block (w.heap.size + 1) (by rw [hza]; omega)).trans ((hba.block (w.heap.size + 1) (by omega)).trans kk))
              have yc := fun (p : Addr) (hp : p.block < B) => (hK.cell (p := p) (by omega) (by omega)).trans ((hW.cell (p := p) (by rw [hza]; omega)).trans (hba.cell (p := p) (by omega)))
              exact ⟨cell_of_row _ _ 0 _ _ _ y0, cell_of_row _ _ 1 _ _ _ y0, cell_of_row _ _ 2 _ _ _ y0, cell_of_row _ _ 2 _ _ _ y1, (yc ⟨b2, o2 + k * 3, none⟩ hb2).trans f1, (yc ⟨b2, o2 + k * 3 + 1, none⟩ hb2).trans f2, (yc ⟨b2, o2 + k * 3 + 2, none⟩ hb2).trans f3⟩
            have hbd := Lib.hid ((Below.refl (wr.alloc (Obj.cells #[Value.int IntKind.i64 t.op, Value.int IntKind.i64 t.n, Value.slice A3 t.kids.length c3] 24)).heap.size (wr.alloc (Obj.cells #[Value.int IntKind.i64 t.op, Value.int IntKind.i64 t.n, Value.slice A3 t.kids.length c3] 24))).drew)
            have HEN2 : Hid (∀ w', Kb bk (wr.alloc (Obj.cells #[Value.int IntKind.i64 t.op, Value.int IntKind.i64 t.n, Value.slice A3 t.kids.length c3] 24)).drew w' → Kb bk w1 w') := fun w' h => HK.out.trans (((Kb.of_below (b := bk) hba).trans (Kb.of_below hbd.out)).trans h)
            have HSD := Lib.hid hsd
            have i1 : (0 : Int) ≤ (k : Int) := by omega
            have i2 : (k : Int) < (bts.length : Int) := by omega
            have i3 : (e : Int) + 1 ≤ 1001 := by omega
            have hM2 : M + t.cnt + cntK (ats.drop (k + 1)) ≤ m + a.cnt := by omega
            clear hta hta' htb htb' hts1 hts2 ht hu hcd hsd hba hza hna kk hu1 hu2 p0 p1 p2 q0 q1 q2 f1 f2 f3 hM
            obtain ⟨X, hX⟩ : ∃ X, X = t.sam u := ⟨_, rfl⟩
            have HX := Lib.hid hX
            clear hX
            have w9 : IntKind.i64.wrap ((e : Int) + 1) = (e : Int) + 1 := IntWalk.i64_in _ (by omega)
            go_wp2_with fail
            go_region_held3 (fun w' => w'.cell? ⟨wr.heap.size, 0, none⟩ = some (.int .i64 t.op) ∧ w'.cell? ⟨wr.heap.size, 1, none⟩ = some (.int .i64 t.n) ∧ w'.cell? ⟨wr.heap.size, 2, none⟩ = some (.slice A3 t.kids.length c3) ∧ w'.cell? ⟨w.heap.size + 1, 2, none⟩ = some (.slice (some ⟨b2, o2, none⟩) bts.length c2) ∧ w'.cell? ⟨b2, o2 + k * 3, none⟩ = some (.int .i64 u.op) ∧ w'.cell? ⟨b2, o2 + k * 3 + 1, none⟩ = some (.int .i64 u.n) ∧ w'.cell? ⟨b2, o2 + k * 3 + 2, none⟩ = some (.slice A4 u.kids.length c4))
              (first
                | (go_keep; done)
                | exact HS0.out _ hbd.out _ (Kb.refl _ _)
                | exact HS0.out _ hbd.out _ hkx)
              (first
                | (go_at_call 63; (with_reducible refine (HV.out _ hbd.out).mono ?_); rintro e9 wx ⟨rfl, hkx, m9, d9, hm9, hd9, hrx⟩))
            have HKX := Lib.hid (HEN2.out _ hkx)
            have HRX := Lib.hid hrx
            clear hkx hrx w9
            rw [← HX.out]
            cases X with
            | false =>
              go_wp2_with fail
              go_ret
              refine ⟨ret_bool (by rw [HS.out, HSD.out, ← HX.out]; rfl), HK01.out.trans HKX.out, m9, d9, by omega, hd9, HRX.out⟩
            | true =>
              go_wp2_with fail
              go_roundw
              case rel => exact ⟨k + 1, m9, d9, by omega, by go_num, by omega, hd9, by show _ = _; rw [HS.out, HSD.out, ← HX.out, Bool.true_and], HKX, HRX⟩
              case measure => simp [intOf]; omega
          · have HS2 : Hid (a.sam b = true) := by show _ = _; rw [HS.out, show k = ats.length by omega, List.drop_length, samK]
            have hM2 : M ≤ m + a.cnt := by omega
            go_wp2_with fail
            go_ret
            exact ⟨ret_bool HS2.out.symm, HK01.out.trans HK.out, M, D, hM2, hD, HR.out⟩
      · have HSM : Hid (a.sam b = false) := by show _ = _; rw [HSA.out, decide_eq_false e3]; simp
        subst e1 e2
        have x1 : ¬ (ats.length : Int) = (bts.length : Int) := by omega
        have x2 : ((ats.length : Int) == (bts.length : Int)) = false := beq_eq_false_iff_ne.2 x1
        have x3 : decide ((ats.length : Int) = (bts.length : Int)) = false := decide_eq_false x1
        have x4 : decide (ats.length = bts.length) = false := decide_eq_false e3
        clear HSA
        go_wp2_with fail
        go_ret
        exact ⟨ret_bool HSM.out.symm, HK01.out, m + 1, max d e, by omega, by omega, HR1.out⟩
    · have HSM : Hid (a.sam b = false) := by show _ = _; rw [HSA.out, decide_eq_false e2]; simp
      subst e1
      have x2 : (an == bn) = false := beq_eq_false_iff_ne.2 e2
      have x3 : decide (an = bn) = false := decide_eq_false e2
      clear HSA
      go_wp2_with fail
      go_ret
      exact ⟨ret_bool HSM.out.symm, HK01.out, m + 1, max d e, by omega, by omega, HR1.out⟩
  · have HSM : Hid (a.sam b = false) := by show _ = _; rw [HSA.out, decide_eq_false e1]; simp
    have x2 : (ao == bo) = false := beq_eq_false_iff_ne.2 e1
    have x3 : decide (ao = bo) = false := decide_eq_false e1
    clear HSA
    go_wp2_with fail
    go_ret
    exact ⟨ret_bool HSM.out.symm, HK01.out, m + 1, max d e, by omega, by omega, HR1.out⟩
theorem psam_any : ∀ (n : Nat) (c : Cn), c.dep < n → SamC c
  | 0, c, h => absurd h (by omega)
  | n + 1, c, h => psam_step c fun c' h' => psam_any n c' (by omega)
end Go.Proofs.YtjkbfogjfgnhiaaDoor
