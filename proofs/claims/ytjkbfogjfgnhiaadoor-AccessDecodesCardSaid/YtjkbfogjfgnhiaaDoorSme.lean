/-
  Equal rules: the closure of Same, EqualFunc with it, Same.
-/
import Derived.Test.YtjkbfogjfgnhiaaDoorSmr
namespace Go.Proofs.YtjkbfogjfgnhiaaDoor
set_option linter.unusedVariables false
set_option linter.unusedSimpArgs false
open Go.RowKit

def Rl.sam (r q : Rl) : Bool := decide (r.ops = q.ops) && r.cond.sam q.cond
def samL : List Rl → List Rl → Bool
  | [], _ => true
  | r :: rs, us => r.sam (us.getD 0 Rl.zero) && samL rs (us.drop 1)
def samR (rs us : List Rl) : Bool := decide (rs.length = us.length) && samL rs us
def cntR : List Rl → Nat | [] => 0 | r :: rs => r.cond.cnt + cntR rs
theorem cntR_drop (rs : List Rl) (k : Nat) (h : k < rs.length) : cntR (rs.drop k) = (rs[k]).cond.cnt + cntR (rs.drop (k + 1)) := by rw [List.drop_eq_getElem_cons h, cntR]
theorem samL_drop (ts us : List Rl) (k : Nat) (h : k < ts.length) (h' : k < us.length) : samL (ts.drop k) (us.drop k) = ((ts[k]).sam us[k] && samL (ts.drop (k + 1)) (us.drop (k + 1))) := by
  rw [List.drop_eq_getElem_cons h, samL]
  have e : (us.drop k).getD 0 Rl.zero = us[k] := by simp [List.getD, List.getElem?_eq_getElem h']
  rw [e, List.drop_drop]
theorem samL_self : ∀ rs : List Rl, samL rs rs = true
  | [] => rfl
  | r :: rs => by
    rw [samL]
    simp only [List.getD, List.getElem?_cons_zero, Option.getD_some, List.drop_succ_cons, List.drop_zero]
    rw [samL_self rs, Rl.sam, (Cn.sam_eq r.cond r.cond).2 rfl]
    simp
theorem samR_self (rs : List Rl) : samR rs rs = true := by rw [samR, samL_self]; simp

set_option maxRecDepth 100000 in
set_option maxHeartbeats 1600000 in
theorem psm1_any (r q : Rl) (va vb : Value) (bk B m d : Nat) (w : World) (hBb : B ≤ bk) (hbs : bk < w.heap.size) (hB0 : 0 < B) (hrow : w.heap[bk]? = some (wrow m d)) (hka : KL w B va r.cond.kids) (hkb : KL w B vb q.cond.kids) (hm : m + r.cond.cnt ≤ 100000) (hd : d ≤ 1000) (he : r.cond.dep ≤ 900) :
    Calls Tryd.prog 62 #[.agg #[.int .i64 r.ops, .int .i64 r.cond.op, .int .i64 r.cond.n, va], .agg #[.int .i64 q.ops, .int .i64 q.cond.op, .int .i64 q.cond.n, vb], .pointer (some ⟨bk, 0, none⟩)] w fun e w' => e = .returned (.bool (r.sam q)) ∧ Kb bk w w' ∧ ∃ m' d' : Nat, m' ≤ m + r.cond.cnt ∧ d' ≤ 1000 ∧ w'.heap[bk]? = some (wrow m' d') := by
  obtain ⟨ro, c⟩ := r
  obtain ⟨qo, u⟩ := q
  simp only at hka hkb hm he ⊢
  obtain ⟨A1, c1, rfl, h11, h12, h13⟩ := id hka
  obtain ⟨A2, c2, rfl, h21, h22, h23⟩ := id hkb
  have hb0 := alloc2_below w (Obj.cells #[Value.int IntKind.i64 ro, Value.int IntKind.i64 c.op, Value.int IntKind.i64 c.n, Value.slice A1 c.kids.length c1] 53) (Obj.cells #[Value.int IntKind.i64 qo, Value.int IntKind.i64 u.op, Value.int IntKind.i64 u.n, Value.slice A2 u.kids.length c2] 53)
  have hC := psam_any (c.dep + 1) c (by omega) u _ _ bk B m d 1 _ hBb (Nat.lt_of_lt_of_le hbs hb0.size) hB0 ((hb0.block bk hbs).trans hrow) (hka.keep (Nat.le_refl B) fun p hp => hb0.cell (by omega)) (hkb.keep (Nat.le_refl B) fun p hp => hb0.cell (by omega)) hm hd (by omega)
  have HC := Lib.hid hC
  have HB0 := Lib.hid hb0
  have HR := Lib.hid ((hb0.block bk hbs).trans hrow)
  have HS : Hid (Rl.sam ⟨ro, c⟩ ⟨qo, u⟩ = (decide (ro = qo) && c.sam u)) := rfl
  clear hC hb0 hrow hka hkb h13 h23
  unfold SamP at HC
  generalize c.sam u = X at *
  go_enter Tryd.func62, Tryd.ntmps62
  by_cases e1 : ro = qo
  · subst e1
    go_wp2_with fail
    refine HC.out.mono ?_
    rintro e w1 ⟨rfl, hk1, m', d', hm', hd', hr'⟩
    go_wp2_with fail
    go_ret
    exact ⟨ret_bool (by rw [HS.out]; simp), (Kb.of_below HB0.out).trans hk1, m', d', hm', hd', hr'⟩
  · have x2 : (ro == qo) = false := beq_eq_false_iff_ne.2 e1
    have x3 : decide (ro = qo) = false := decide_eq_false e1
    go_wp2_with fail
    go_ret
    exact ⟨ret_bool (by rw [HS.out, x3]; rfl), Kb.of_below HB0.out, m, d, by omega, hd, HR.out⟩

set_option maxRecDepth 100000 in
set_option maxHeartbeats 6400000 in
theorem peqf_any (rs us : List Rl) (va vb : Value) (bk B m d : Nat) (w : World) (hBb : B ≤ bk) (hbs : bk < w.heap.size) (hB0 : 0 < B) (hrow : w.heap[bk]? = some (wrow m d)) (hka : RL w B va rs) (hkb : RL w B vb us) (hm : m + cntR rs ≤ 100000) (hd : d ≤ 1000) (hc : ∀ (k : Nat) (h : k < rs.length), rs[k].cond.cnt ≤ 400) :
    Calls Tryd.prog 61 #[va, vb, .func (.func 62) #[] #[.pointer (some ⟨bk, 0, none⟩)]] w fun e w' => e = .returned (.bool (samR rs us)) ∧ Kb bk w w' := by
  obtain ⟨A1, c1, rfl, h11, h12, h13⟩ := hka
  obtain ⟨A2, c2, rfl, h21, h22, h23⟩ := hkb
  unfold maxLen at h12 h22
  have HC := Lib.hid hc
  have HR0 : Hid (w.heap[bk]? = some (wrow m d)) := hrow
  clear hc hrow
  have HS : Hid (samR rs us = (decide (rs.length = us.length) && samL rs us)) := rfl
  go_enter Tryd.func61, Tryd.ntmps61
  by_cases e3 : rs.length = us.length
  · have HSM : Hid (samR rs us = samL rs us) := by show _ = _; rw [HS.out, decide_eq_true e3]; rfl
    have x1 : (rs.length : Int) = (us.length : Int) := by omega
    have x2 : ((rs.length : Int) == (us.length : Int)) = true := beq_iff_eq.2 x1
    have x3 : decide ((rs.length : Int) = (us.length : Int)) = true := decide_eq_true x1
    have x4 : decide (rs.length = us.length) = true := decide_eq_true e3
    have x5 : ((rs.length : Int) != (us.length : Int)) = false := by rw [bne, x2]; rfl
    have E3 := Lib.hid e3
    clear e3 x1
    go_wp2_with fail
    clear x2 x3 x4 x5
    go_loopw [17] (fun i wr => ∃ (k M D : Nat), k ≤ rs.length ∧ i = .int .i64 k ∧ M + cntR (rs.drop k) ≤ 100000 ∧ D ≤ 1000 ∧ Hid (samR rs us = samL (rs.drop k) (us.drop k)) ∧ Hid (Kb bk w wr) ∧ Hid (wr.heap[bk]? = some (wrow M D))) (fun i _ => rs.length - (intOf i).toNat)
    case atStart => exact ⟨0, m, d, Nat.zero_le _, rfl, by rw [List.drop_zero]; omega, hd, by show _ = _; rw [List.drop_zero, List.drop_zero]; exact HSM.out, Kb.refl _ _, HR0⟩
    case round =>
      obtain ⟨k, M, D, hkl, rfl, hM, hD, HSS, HK, HR⟩ := hrel
      by_cases hlt : k < rs.length
      · have hlt2 : k < us.length := by have := E3.out; omega
        obtain ⟨b1, o1, rfl, hb1, hts1⟩ := h13.out (by omega)
        obtain ⟨b2, o2, rfl, hb2, hts2⟩ := h23.out (by omega)
        have hta := (hts1 k hlt).keep hb1 (Nat.le_refl B) (fun p hp => HK.out.cell (by omega) (by omega))
        have htb := (hts2 k hlt2).keep hb2 (Nat.le_refl B) (fun p hp => HK.out.cell (by omega) (by omega))
        have hcd := cntR_drop rs k hlt
        have hsd := samL_drop rs us k hlt hlt2
        have hcc := HC.out k hlt
        obtain ⟨r, hr⟩ : ∃ r, r = rs[k] := ⟨_, rfl⟩
        obtain ⟨q, hq⟩ : ∃ q, q = us[k] := ⟨_, rfl⟩
        rw [← hr] at hta hcd hsd hcc
        rw [← hq] at htb hsd
        obtain ⟨ro, c⟩ := r
        obtain ⟨qo, u⟩ := q
        obtain ⟨g0, hca⟩ := hta
        obtain ⟨f0, hcb⟩ := htb
        obtain ⟨A3, c3, g1, g2, g3, hu1⟩ := hca.cells
        obtain ⟨A4, c4, f1, f2, f3, hu2⟩ := hcb.cells
        simp only at g0 g1 g2 g3 f0 f1 f2 f3 hu1 hu2 hcd hcc hsd
        have hsr := HK.out.size
        have hdc := c.dep_cnt
        have hba := alloc2_below wr (Obj.cells #[Value.int IntKind.i64 ro, Value.int IntKind.i64 c.op, Value.int IntKind.i64 c.n, Value.slice A3 c.kids.length c3] 53) (Obj.cells #[Value.int IntKind.i64 qo, Value.int IntKind.i64 u.op, Value.int IntKind.i64 u.n, Value.slice A4 u.kids.length c4] 53)
        have HQ := Lib.hid (psm1_any ⟨ro, c⟩ ⟨qo, u⟩ (.slice A3 c.kids.length c3) (.slice A4 u.kids.length c4) bk B M D _ hBb (Nat.lt_of_lt_of_le hbs (Nat.le_trans hsr hba.size)) hB0 ((hba.block bk (by omega)).trans HR.out) (hu1.keep (Nat.le_refl B) fun p hp => hba.cell (by omega)) (hu2.keep (Nat.le_refl B) fun p hp => hba.cell (by omega)) (by show _ + c.cnt ≤ _; omega) hD (by show c.dep ≤ _; omega))
        have HBA := Lib.hid hba
        have HSD := Lib.hid hsd
        have hbb2 : b2 < wr.heap.size := by omega
        have hbb3 : b2 ≠ wr.heap.size := by omega
        have hb1a := alloc_below wr (Obj.cells #[Value.int IntKind.i64 ro, Value.int IntKind.i64 c.op, Value.int IntKind.i64 c.n, Value.slice A3 c.kids.length c3] 53)
        have y0 := (hb1a.cell (p := ⟨b2, o2 + k * 4, none⟩) hbb2).trans f0
        have y1 := (hb1a.cell (p := ⟨b2, o2 + k * 4 + 1, none⟩) hbb2).trans f1
        have y2 := (hb1a.cell (p := ⟨b2, o2 + k * 4 + 1 + 1, none⟩) hbb2).trans f2
        have y3 := (hb1a.cell (p := ⟨b2, o2 + k * 4 + 1 + 2, none⟩) hbb2).trans f3
        clear hb1a
        have i1 : (0 : Int) ≤ (k : Int) := by omega
        have i2 : (k : Int) < (us.length : Int) := by omega
        have i3 : (k : Int) < (rs.length : Int) := by omega
        have hM2 : M + c.cnt + cntR (rs.drop (k + 1)) ≤ 100000 := by omega
        clear hca hcb hts1 hts2 hr hq hcd hcc hsd hu1 hu2 hba hM hdc
        generalize Rl.sam ⟨ro, c⟩ ⟨qo, u⟩ = X at HQ HSD
        go_wp2_with fail
        refine HQ.out.mono ?_
        rintro e w2 ⟨rfl, hk2, m9, d9, hm9, hd9, hr9⟩
        have HK2 := Lib.hid (HK.out.trans ((Kb.of_below HBA.out).trans hk2))
        have HR9 := Lib.hid hr9
        have hm8 : m9 ≤ M + c.cnt := hm9
        clear hk2 hr9 hm9
        cases X with
        | false =>
          go_wp2_with fail
          go_ret
          exact ⟨ret_bool (by rw [HSS.out, HSD.out]; rfl), HK2.out⟩
        | true =>
          go_wp2_with fail
          go_roundw
          case rel => exact ⟨k + 1, m9, d9, by omega, by go_num, by omega, hd9, by show _ = _; rw [HSS.out, HSD.out, Bool.true_and], HK2, HR9⟩
          case measure => simp [intOf]; omega
      · have HS2 : Hid (samR rs us = true) := by show _ = _; rw [HSS.out, show k = rs.length by omega, List.drop_length, samL]
        go_wp2_with fail
        go_ret
        exact ⟨ret_bool HS2.out.symm, HK.out⟩
  · have HSM : Hid (samR rs us = false) := by show _ = _; rw [HS.out, decide_eq_false e3]; rfl
    have x1 : ¬ (rs.length : Int) = (us.length : Int) := by omega
    have x2 : ((rs.length : Int) == (us.length : Int)) = false := beq_eq_false_iff_ne.2 x1
    have x3 : decide ((rs.length : Int) = (us.length : Int)) = false := decide_eq_false x1
    have x4 : decide (rs.length = us.length) = false := decide_eq_false e3
    have x5 : ((rs.length : Int) != (us.length : Int)) = true := by rw [bne, x2]; rfl
    go_wp2_with fail
    go_ret
    exact ⟨ret_bool HSM.out.symm, Kb.refl _ _⟩

set_option maxRecDepth 100000 in
set_option maxHeartbeats 1600000 in
theorem psmr_any (rs us : List Rl) (va vb : Value) (w : World) (hka : RL w w.heap.size va rs) (hkb : RL w w.heap.size vb us) (h0 : 0 < w.heap.size) (hm : cntR rs ≤ 90000) (hc : ∀ (k : Nat) (h : k < rs.length), rs[k].cond.cnt ≤ 400) :
    Calls Tryd.prog 34 #[va, vb] w fun e w' => e = .returned (.bool (samR rs us)) ∧ Below w.heap.size w w' := by
  have ha := alloc_below w (wrow 0 0)
  have hn := heap_alloc_new w (wrow 0 0)
  have HQ := Lib.hid (peqf_any rs us va vb w.heap.size w.heap.size 0 0 _ (Nat.le_refl _) (by rw [alloc_size]; omega) h0 hn (hka.keep (Nat.le_refl _) fun p hp => ha.cell hp) (hkb.keep (Nat.le_refl _) fun p hp => ha.cell hp) (by omega) (by omega) hc)
  have HA := Lib.hid ha
  obtain ⟨A1, c1, rfl, h11, h12, h13⟩ := hka
  obtain ⟨A2, c2, rfl, h21, h22, h23⟩ := hkb
  clear ha hn hc h13 h23
  go_enter Tryd.func34, Tryd.ntmps34
  go_wp2_with fail
  refine HQ.out.mono ?_
  rintro e w1 ⟨rfl, hk1⟩
  go_wp2_with fail
  go_ret
  exact ⟨rfl, HA.out.trans (hk1.below (Nat.le_refl _) (by rw [alloc_size]; omega))⟩
end Go.Proofs.YtjkbfogjfgnhiaaDoor
