/-
  last and group of the reference: the walks.
-/
import Derived.Test.YtnbggokmiokhlaaDoorAwb
import Derived.Test.YtnbggokmiokhlaaDoorAvs
namespace Go.Proofs.YtnbggokmiokhlaaDoor
set_option linter.unusedVariables false
set_option linter.unusedSimpArgs false
open Go.RowKit

def lastN (a : At) (k : Nat) : Int := if k = 0 then 1 else (a.ibs.getD (k - 1) Ib.zero).g
theorem lastN_s (a : At) (k : Nat) : lastN a (k + 1) = (a.ibs.getD k Ib.zero).g := by simp [lastN]
theorem lastN_b {a : At} (h : Valid a) (hl : a.ibs.length ≤ 200) (k : Nat) (hk : k ≤ a.ibs.length) : 1 ≤ lastN a k ∧ lastN a k ≤ 203 := by
  rcases k with _ | k
  · simp [lastN]
  · rw [lastN_s]
    have := (ib_facts (chnB_at a.prs a.ibs Ib.zero h.chn k (by omega)).ib).1
    have := val_bound h.chn k (by omega)
    omega
theorem cnt1_ref (a : At) (h : Valid a) : cnt1 a = if a.prs.getD 0 0 = 1 ∧ lastN a a.ibs.length < 2 then 2 else lastN a a.ibs.length := by
  unfold cnt1 cnt0 lastN
  by_cases h0 : 0 < a.ibs.length
  · have e0 : (if a.ibs.length = 0 then (1 : Int) else (a.ibs.getD (a.ibs.length - 1) Ib.zero).g) = (a.ibs.getD (a.ibs.length - 1) Ib.zero).g := if_neg (by omega)
    rw [if_pos h0, e0]
    have := (ib_facts (chnB_at a.prs a.ibs Ib.zero h.chn (a.ibs.length - 1) (by omega)).ib).1
    by_cases hq : a.prs.getD 0 0 = 1
    · simp only [hq, if_true, true_and]; split <;> omega
    · simp only [hq, if_false, false_and]; omega
  · have e : a.ibs.length = 0 := by omega
    rw [if_neg h0, e]
    by_cases hq : a.prs.getD 0 0 = 1
    · simp [hq]
    · simp [hq]
theorem any_take (l : List Ib) (k : Nat) (hk : k < l.length) : (l.take (k + 1)).any ownB = ((l.take k).any ownB || ownB (l.getD k Ib.zero)) := by
  rw [List.take_succ_eq_append_getElem hk, List.any_append, gD_ib l k hk]
  simp

set_option maxRecDepth 100000 in
set_option maxHeartbeats 3200000 in
theorem rlast_any (a : At) (v : Value) (w : World) (h : AT w v a) (hv : Valid a) (hl : a.ibs.length ≤ 200) :
    Calls Tryd.prog 86 #[v] w fun e w' => e = .returned (.int .i64 (cntV a)) ∧ Below w.heap.size w w' := by
  have HV : Hid (cntV a = if a.prs.length = 2 ∧ a.ibs.any ownB = false then max (cnt1 a + 1) 3 else cnt1 a) := rfl
  have HC := Lib.hid (cnt1_ref a hv)
  have HLB := Lib.hid (lastN_b hv hl)
  have HLS := Lib.hid (lastN_s a)
  have HAT := Lib.hid (any_take a.ibs)
  obtain ⟨v1, v2, v3, rfl, h1, h2, h3⟩ := h
  obtain ⟨A1, c1, rfl, a1, b1, d1⟩ := h1
  obtain ⟨A2, c2, rfl, a2, b2, d2⟩ := h2
  obtain ⟨A3, c3, rfl, a3, b3, d3⟩ := h3
  unfold maxLen at b1 b2 b3
  have D1 := Lib.hid d1
  obtain ⟨bp, op, rfl, hbp, hcp⟩ := d2 hv.pos
  have gq := hcp 0 hv.pos
  simp only [Nat.add_zero] at gq
  have hP' : (0 : Int) < (a.prs.length : Int) := by have := hv.pos; omega
  clear d1 d2 d3 hcp hv
  generalize a.prs.getD 0 0 = q at *
  have hal := Lib.hid (alloc_below w (.cells #[.bool a.inv, .slice A1 a.ibs.length c1, .slice (some ⟨bp, op, none⟩) a.prs.length c2, .slice A3 a.his.length c3] 26))
  have hrow := Lib.hid (heap_alloc_new w (.cells #[.bool a.inv, .slice A1 a.ibs.length c1, .slice (some ⟨bp, op, none⟩) a.prs.length c2, .slice A3 a.his.length c3] 26))
  go_enter Tryd.func86, Tryd.ntmps86
  go_wp2_with fail
  generalize w.alloc (.cells #[.bool a.inv, .slice A1 a.ibs.length c1, .slice (some ⟨bp, op, none⟩) a.prs.length c2, .slice A3 a.his.length c3] 26) = w1 at *
  go_loopw [3, 4, 5] (fun s3 s4 i wr => ∃ (k : Nat), k ≤ a.ibs.length ∧ i = .int .i64 k ∧ s3 = .int .i64 (lastN a k) ∧ s4 = .bool ((a.ibs.take k).any ownB) ∧ Hid (Below w1.heap.size w1 wr)) (fun _ _ i _ => a.ibs.length - (intOf i).toNat)
  case atStart => exact ⟨0, Nat.zero_le _, rfl, rfl, rfl, Below.refl _ _⟩
  case round =>
    obtain ⟨k, hk, rfl, rfl, rfl, HB⟩ := hrel
    obtain ⟨r0, r1, r2, r3⟩ := cellsA ((HB.out.block _ (row_lt hrow.out)).trans hrow.out)
    have HBW := Lib.hid (hal.out.trans (HB.out.mono hal.out.size))
    by_cases hlt : k < a.ibs.length
    · obtain ⟨b', o', rfl, hb', hc'⟩ := D1.out (by omega)
      have hi := (hc' k hlt).keep hb' (fun p hp => HBW.out.cell hp)
      have HAK := Lib.hid (HAT.out k hlt)
      have HLK := Lib.hid (HLS.out k)
      have hbx := alloc_below wr (.cells #[.int .i64 (a.ibs.getD k Ib.zero).g, .int .i64 (a.ibs.getD k Ib.zero).k, .int .i64 (a.ibs.getD k Ib.zero).v, .int .i64 (a.ibs.getD k Ib.zero).p] 60)
      clear hc'
      generalize a.ibs.getD k Ib.zero = x at *
      generalize (a.ibs.take k).any ownB = sec at *
      generalize lastN a k = ln at *
      obtain ⟨xg, xk, xv, xp⟩ := x
      obtain ⟨g1, g2, g3, g4⟩ := hi
      simp only at g1 g2 g3 g4 hbx
      have HBX := Lib.hid (HB.out.trans (hbx.mono HB.out.size))
      clear hbx
      cases sec with
      | true =>
        have HAF : Hid ((a.ibs.take (k + 1)).any ownB = true) := by show _ = _; rw [HAK.out]; rfl
        go_wp2_with fail
        go_roundw
        case rel => exact ⟨k + 1, by omega, by go_num, by rw [HLK.out], by rw [HAF.out], HBX⟩
        case measure => simp [intOf]; omega
      | false =>
        by_cases x1 : 3 ≤ xg
        · by_cases x2 : xp = 1
          · have HAF : Hid ((a.ibs.take (k + 1)).any ownB = true) := by show _ = _; rw [HAK.out]; simp [ownB, x1, x2]
            subst x2
            go_wp2_with fail
            go_roundw
            case rel => exact ⟨k + 1, by omega, by go_num, by rw [HLK.out], by rw [HAF.out], HBX⟩
            case measure => simp [intOf]; omega
          · have HAF : Hid ((a.ibs.take (k + 1)).any ownB = false) := by show _ = _; rw [HAK.out]; simp [ownB, x1, x2]
            have x2b : (xp == 1) = false := by rw [beq_eq_false_iff_ne]; exact x2
            go_wp2_with fail
            go_roundw
            case rel => exact ⟨k + 1, by omega, by go_num, by rw [HLK.out], by rw [HAF.out], HBX⟩
            case measure => simp [intOf]; omega
        · have HAF : Hid ((a.ibs.take (k + 1)).any ownB = false) := by show _ = _; rw [HAK.out]; simp [ownB]; intros; omega
          go_wp2_with fail
          go_roundw
          case rel => exact ⟨k + 1, by omega, by go_num, by rw [HLK.out], by rw [HAF.out], HBX⟩
          case measure => simp [intOf]; omega
    · obtain rfl : a.ibs.length = k := by omega
      have gq1 := (HBW.out.cell (p := ⟨bp, op, none⟩) hbp).trans gq
      have hlb := HLB.out a.ibs.length (Nat.le_refl _)
      rw [List.take_length]
      generalize lastN a a.ibs.length = N at *
      generalize a.ibs.any ownB = sec at *
      obtain ⟨n1, n2⟩ := hlb
      have HVV : Hid (∀ z : Int, z = (if a.prs.length = 2 ∧ sec = false then max ((if q = 1 ∧ N < 2 then 2 else N) + 1) 3 else (if q = 1 ∧ N < 2 then 2 else N)) → Ending.returned (.int .i64 z) = .returned (.int .i64 (cntV a))) := fun z hz => ret_int (by rw [HV.out, HC.out]; exact hz)
      generalize hPL : a.prs.length = PL at *
      by_cases y1 : q = 1
      · subst y1
        by_cases y2 : N < 2
        · by_cases y3 : PL = 2
          · subst y3
            cases sec with
            | true => (go_wp2_with fail; go_ret; exact ⟨HVV.out _ (by (repeat' split) <;> first | omega | (simp_all; done) | (simp_all; omega)), HBW.out⟩)
            | false => (go_wp2_with fail; go_ret; exact ⟨HVV.out _ (by (repeat' split) <;> first | omega | (simp_all; done) | (simp_all; omega)), HBW.out⟩)
          · have y3b : ((PL : Int) == 2) = false := by rw [beq_eq_false_iff_ne]; omega
            go_wp2_with fail
            go_ret
            exact ⟨HVV.out _ (by (repeat' split) <;> first | omega | (simp_all; done) | (simp_all; omega)), HBW.out⟩
        · by_cases y3 : PL = 2
          · subst y3
            cases sec with
            | true => (go_wp2_with fail; go_ret; exact ⟨HVV.out _ (by (repeat' split) <;> first | omega | (simp_all; done) | (simp_all; omega)), HBW.out⟩)
            | false =>
              by_cases y4 : N + 1 < 3
              · (exfalso; omega)
              · (go_wp2_with fail; go_ret; exact ⟨HVV.out _ (by (repeat' split) <;> first | omega | (simp_all; done) | (simp_all; omega)), HBW.out⟩)
          · have y3b : ((PL : Int) == 2) = false := by rw [beq_eq_false_iff_ne]; omega
            go_wp2_with fail
            go_ret
            exact ⟨HVV.out _ (by (repeat' split) <;> first | omega | (simp_all; done) | (simp_all; omega)), HBW.out⟩
      · have y1b : (q == 1) = false := by rw [beq_eq_false_iff_ne]; exact y1
        by_cases y3 : PL = 2
        · subst y3
          cases sec with
          | true => (go_wp2_with fail; go_ret; exact ⟨HVV.out _ (by (repeat' split) <;> first | omega | (simp_all; done) | (simp_all; omega)), HBW.out⟩)
          | false =>
            by_cases y4 : N + 1 < 3
            · (go_wp2_with fail; go_ret; exact ⟨HVV.out _ (by (repeat' split) <;> first | omega | (simp_all; done) | (simp_all; omega)), HBW.out⟩)
            · (go_wp2_with fail; go_ret; exact ⟨HVV.out _ (by (repeat' split) <;> first | omega | (simp_all; done) | (simp_all; omega)), HBW.out⟩)
        · have y3b : ((PL : Int) == 2) = false := by rw [beq_eq_false_iff_ne]; omega
          go_wp2_with fail
          go_ret
          exact ⟨HVV.out _ (by (repeat' split) <;> first | omega | (simp_all; done) | (simp_all; omega)), HBW.out⟩


theorem rg_pr_le {a : At} (h : Valid a) (g : Int) : ∀ k, k ≤ a.ibs.length → 0 ≤ (rgF a g k).pr ∧ (rgF a g k).pr ≤ 64 * (k : Int)
  | 0, _ => by simp [rgF_zero, rg0]
  | k + 1, hk => by
    have ih := rg_pr_le h g k (by omega)
    rw [rgF_succ a g k (by omega), rgS]
    split
    · have : 0 ≤ bitI (a.ibs.getD k Ib.zero).k ∧ bitI (a.ibs.getD k Ib.zero).k ≤ 64 := by unfold bitI; split <;> (try split) <;> omega
      simp only
      omega
    · omega
theorem rg_vs_len (a : At) (g : Int) : ∀ k, k ≤ a.ibs.length → (rgF a g k).vs.length ≤ k
  | 0, _ => Nat.le_refl _
  | k + 1, hk => by
    have ih := rg_vs_len a g k (by omega)
    rw [rgF_succ a g k (by omega), rgS]
    split
    · simp; omega
    · omega
/-- One byte appended in a plain region: what else is in memory is kept. -/
theorem wpList_app1G {ops : Array Oper} {rest : List Oper} {o : Oper} {a : Act} {W : World} {Q : Exit → Act → World → Prop} (hgd : o.guard = none) (s x : Operand)
    (ho : o.op = .call { callee := .builtin .append, args := #[s, x], argTypes := #[24, 24] }) (base : Nat) (v : Value) (l : List UInt8) (y : UInt8) (z : Int) (B : Nat)
    (hs : a.eval s = v) (hx : a.eval x = .slice (some ⟨B, 0, none⟩) 1 1) (hown : OB W base v l) (hB : W.heap[B]? = some (.cells #[.int .u8 z] 5 (0, 0)))
    (hz : z = (y.toNat : Int)) (hlen : l.length ≤ 10000000) (hbase : base ≤ W.heap.size)
    (h : ∀ g cap w', OB w' base (.slice (some ⟨g, 0, none⟩) (l.length + 1) cap) (l ++ [y]) → W.grownBy w' v.ownBlock → wpList Tryd.prog ops Q rest (a.put o.dst (.slice (some ⟨g, 0, none⟩) (l.length + 1) cap)) w') : wpList Tryd.prog ops Q (o :: rest) a W :=
  wpList_plain hgd fun K hK => by
    have := step_app1G (ops := #[]) (o := o) (a := a) (W := W) (K := K) (Q := Q) (E := True) hgd s x ho base v l y z B hs hx hown hB hz hlen hbase (fun g cap w' h1 h2 => hK _ _ (h g cap w' h1 h2))
    have hw : Region.wanted o (yielded #[] a.tmps) = true := by simp [Region.wanted, hgd]
    rw [if_pos hw] at this
    exact this
theorem app_keep0 {we w5 : World} {base : Nat} {v : Value} {l : List UInt8} (h : base ≤ we.heap.size) (o : Obj) (hO : OB we base v l) (hg : (we.alloc o).grownBy w5 v.ownBlock) :
    Below base we w5 ∧ ∀ k, k < we.heap.size → v.ownBlock ≠ some k → w5.heap[k]? = we.heap[k]? := by
  have hb0 : Below base we (we.alloc o) := (alloc_below we o).mono h
  have hb : Below base we w5 := hb0.grown hg (by rw [alloc_size]; omega) (fun k hk => (World.ownsRow.lt hO k hk).1)
  refine ⟨hb, fun k hk hne => ?_⟩
  exact (hg.block k (by rw [alloc_size]; omega) (fun e => hne e.symm)).trans ((alloc_below we o).block k hk)

theorem OB.lower {w : World} {base base' : Nat} {v : Value} {l : List UInt8} (h : OB w base v l) (hb : base' ≤ base) : OB w base' v l := by
  obtain ⟨h1, h2⟩ := h
  refine ⟨h1, ?_⟩
  rcases h2 with h2 | ⟨g, cap, cur, hv, hg, r⟩
  · exact .inl h2
  · exact .inr ⟨g, cap, cur, hv, Nat.le_trans hb hg, r⟩
def GrpR (a : At) (g n : Int) (w : World) (e : Ending) (w' : World) : Prop :=
  ∃ v', e = .returned (.tuple #[v', .int .i64 ((rgF a g a.ibs.length).pr + if g < n then 128 else 0), .int .i64 (rgF a g a.ibs.length).p]) ∧ OB w' w.heap.size v' (rgF a g a.ibs.length).vs ∧ Below w.heap.size w w'
set_option maxRecDepth 100000 in
set_option maxHeartbeats 3200000 in
theorem rgrp_any (a : At) (g n : Int) (v : Value) (w : World) (h : AT w v a) (hv : Valid a) (hl : a.ibs.length ≤ 200) :
    Calls Tryd.prog 87 #[v, .int .i64 g, .int .i64 n] w (GrpR a g n w) := by
  have HPR := Lib.hid (rg_pr_le hv g)
  have HVL := Lib.hid (rg_vs_len a g)
  have HSU := Lib.hid (rgF_succ a g)
  have HVA := Lib.hid (fun k hk => chnB_at a.prs a.ibs Ib.zero hv.chn k hk)
  have H0 : Hid (rgF a g 0 = ⟨[], 0, if g = 2 then a.prs.getD 0 0 else 1⟩) := rfl
  obtain ⟨v1, v2, v3, rfl, h1, h2, h3⟩ := h
  obtain ⟨A1, c1, rfl, a1, b1, d1⟩ := h1
  obtain ⟨A2, c2, rfl, a2, b2, d2⟩ := h2
  obtain ⟨A3, c3, rfl, a3, b3, d3⟩ := h3
  unfold maxLen at b1 b2 b3
  have D1 := Lib.hid d1
  obtain ⟨bp, op, rfl, hbp, hcp⟩ := d2 hv.pos
  have gq := hcp 0 hv.pos
  simp only [Nat.add_zero] at gq
  have hP' : (0 : Int) < (a.prs.length : Int) := by have := hv.pos; omega
  clear d1 d2 d3 hcp hv
  generalize a.prs.getD 0 0 = q at *
  have hal := Lib.hid (two_alloc w (.cells #[.bool a.inv, .slice A1 a.ibs.length c1, .slice (some ⟨bp, op, none⟩) a.prs.length c2, .slice A3 a.his.length c3] 26) (.cells #[.int .i64 16, .int .i64 32, .int .i64 64] 3))
  have hrow := Lib.hid (heap_alloc2_old w (.cells #[.bool a.inv, .slice A1 a.ibs.length c1, .slice (some ⟨bp, op, none⟩) a.prs.length c2, .slice A3 a.his.length c3] 26) (.cells #[.int .i64 16, .int .i64 32, .int .i64 64] 3))
  have hrowb := Lib.hid (heap_alloc2_new w (.cells #[.bool a.inv, .slice A1 a.ibs.length c1, .slice (some ⟨bp, op, none⟩) a.prs.length c2, .slice A3 a.his.length c3] 26) (.cells #[.int .i64 16, .int .i64 32, .int .i64 64] 3))
  have HG2 : Hid (g = 2 ∨ (g == 2) = false) := by
    by_cases e : g = 2
    · exact .inl e
    · exact .inr (by rw [beq_eq_false_iff_ne]; exact e)
  rcases HG2.out with hg2 | hg2
  · subst hg2
    have H0' : Hid (rgF a 2 0 = ⟨[], 0, q⟩) := by show _ = _; rw [H0.out, if_pos (by first | exact trivial | rfl)]
    have gq0 := (hal.out.cell (p := ⟨bp, op, none⟩) hbp).trans gq
    obtain ⟨r0, r1, r2, r3⟩ := cellsA hrow.out
    clear HG2
    go_enter Tryd.func87, Tryd.ntmps87
    go_wp2_with fail
    clear r0 r1 r2 r3 gq0
    generalize (w.alloc (.cells #[.bool a.inv, .slice A1 a.ibs.length c1, .slice (some ⟨bp, op, none⟩) a.prs.length c2, .slice A3 a.his.length c3] 26)).alloc (.cells #[.int .i64 16, .int .i64 32, .int .i64 64] 3) = W0 at *
    go_loopw [9, 10, 11, 13] (fun s9 s10 s11 i wr => ∃ k : Nat, k ≤ a.ibs.length ∧ i = .int .i64 k ∧ s10 = .int .i64 (rgF a 2 k).pr ∧ s11 = .int .i64 (rgF a 2 k).p ∧ Hid (OB wr W0.heap.size s9 (rgF a 2 k).vs) ∧ Hid (Below W0.heap.size W0 wr)) (fun _ _ _ i _ => a.ibs.length - (intOf i).toNat)
    case atStart => exact ⟨0, Nat.zero_le _, rfl, by rw [H0'.out], by rw [H0'.out], by show OB _ _ _ _; rw [H0'.out]; exact OB.nil _ _, Below.refl _ _⟩
    case round =>
      obtain ⟨k, hk, rfl, rfl, rfl, HO, HB⟩ := hrel
      obtain ⟨r0, r1, r2, r3⟩ := cellsA ((HB.out.block _ (row_lt hrow.out)).trans hrow.out)
      have HBW := Lib.hid (hal.out.trans (HB.out.mono hal.out.size))
      by_cases hlt : k < a.ibs.length
      · obtain ⟨b', o', rfl, hb', hc'⟩ := D1.out (by omega)
        have hi := (hc' k hlt).keep hb' (fun p hp => HBW.out.cell hp)
        have HSK := Lib.hid (HSU.out k hlt)
        have hib := ib_facts (HVA.out k hlt).ib
        have hpr := HPR.out k hk
        have HVK : Hid ((rgF a 2 k).vs.length ≤ 10000000) := Nat.le_trans (HVL.out k hk) (by omega)
        clear hc'
        generalize a.ibs.getD k Ib.zero = x at *
        generalize rgF a 2 k = S at *
        obtain ⟨vs, pr, pp⟩ := S
        obtain ⟨xg, xk, xv, xp⟩ := x
        obtain ⟨g1, g2, g3, g4⟩ := hi
        simp only at g1 g2 g3 g4 hib hpr HO HVK
        obtain ⟨kk, hkk⟩ : ∃ kk : Nat, xk = (kk : Int) := ⟨xk.toNat, by omega⟩
        subst hkk
        obtain ⟨q1, q2, q3, q4, q5⟩ := hib
        obtain ⟨q6, q7⟩ := hpr
        have hbx := alloc_below wr (.cells #[.int .i64 xg, .int .i64 kk, .int .i64 xv, .int .i64 xp] 60)
        have HXR := Lib.hid (heap_alloc_new wr (.cells #[.int .i64 xg, .int .i64 kk, .int .i64 xv, .int .i64 xp] 60))
        have HBX := Lib.hid (HB.out.trans (hbx.mono HB.out.size))
        have HOX := Lib.hid (HO.out.later hbx)
        obtain ⟨Au, cu, hu⟩ := HO.out.value
        have HXO : Hid (u9.ownBlock ≠ some wr.heap.size) := fun e => by have := (World.ownsRow.lt HO.out _ e).2; omega
        subst hu
        clear hbx HO
        by_cases hx : xg = 2
        · have HSF : Hid (rgF a 2 (k + 1) = ⟨vs ++ [pb xv], pr + bitI kk, xp⟩) := by show _ = _; rw [HSK.out]; simp [rgS, hx]
          have hxb : (xg == 2) = true := by rw [beq_iff_eq]; exact hx
          have hbb : 0 ≤ bitI (kk : Int) ∧ bitI (kk : Int) ≤ 64 := by unfold bitI; split <;> (try split) <;> omega
          have hbc : ∀ W, Below W0.heap.size W0 W → W.cell? ⟨w.heap.size + 1, kk, none⟩ = some (.int .i64 (bitI kk)) := fun W hW => by
            have e := cell_of_row _ _ kk _ _ _ ((hW.block _ (row_lt hrowb.out)).trans hrowb.out)
            rw [e]
            have hk3 : kk = 0 ∨ kk = 1 ∨ kk = 2 := by omega
            rcases hk3 with rfl | rfl | rfl <;> rfl
          have HBC := Lib.hid hbc
          have hwv : IntKind.u8.wrap xv = xv := by rw [IntKind.wrap_u8']; omega
          obtain ⟨b1, b2⟩ := hbb
          clear hbc
          have HX := Lib.hid hx
          clear hx
          generalize bitI (kk : Int) = bi at *
          go_wp2_with (first
            | (at_builtin; refine wpList_app1G rfl (.tmp 38) (.tmp 42) rfl W0.heap.size (.slice Au vs.length cu) vs (pb xv) xv _ rfl rfl (HOX.out.later (alloc_below ..)) (heap_alloc2_new _ _ _) (pb_nat q4 q5).symm HVK.out (by rw [alloc_size]; exact Nat.le_succ_of_le HBX.out.size) ?_; intro gg cap w5 hO5 hg5; have hap := app_keep0 HBX.out.size _ HOX.out hg5; have hB5 := HBX.out.trans hap.1; have hrx := (hap.2 _ (by rw [alloc_size]; exact Nat.lt_succ_self _) HXO.out).trans HXR.out; obtain ⟨p0, p1, p2, p3⟩ := cellsA hrx; have hc5 := HBC.out _ hB5; have HO5 := Lib.hid hO5; have HB5 := Lib.hid hB5; clear hO5 hg5 hap hB5 hrx))
          go_roundw
          case rel => exact ⟨k + 1, by omega, by go_num, by rw [HSF.out], by rw [HSF.out], by show OB _ _ _ _; rw [HSF.out]; exact HO5.out, HB5⟩
          case measure => simp [intOf]; omega
        · have HSF : Hid (rgF a 2 (k + 1) = ⟨vs, pr, pp⟩) := by show _ = _; rw [HSK.out]; simp [rgS, hx]
          have hxb : (xg == 2) = false := by rw [beq_eq_false_iff_ne]; exact hx
          go_wp2_with fail
          go_roundw
          case rel => exact ⟨k + 1, by omega, by go_num, by rw [HSF.out], by rw [HSF.out], by show OB _ _ _ _; rw [HSF.out]; exact HOX.out, HBX⟩
          case measure => simp [intOf]; omega
      · obtain rfl : a.ibs.length = k := by omega
        have hpr := HPR.out a.ibs.length (Nat.le_refl _)
        obtain ⟨q6, q7⟩ := hpr
        have HGR : Hid (∀ e w', (∃ v', e = .returned (.tuple #[v', .int .i64 ((rgF a 2 a.ibs.length).pr + if 2 < n then 128 else 0), .int .i64 (rgF a 2 a.ibs.length).p]) ∧ OB w' w.heap.size v' (rgF a 2 a.ibs.length).vs ∧ Below w.heap.size w w') → GrpR a 2 n w e w') := fun _ _ h => h
        have HO2 : Hid (OB wr w.heap.size u9 (rgF a 2 a.ibs.length).vs) := HO.out.lower hal.out.size
        clear HO
        generalize rgF a 2 a.ibs.length = S at *
        obtain ⟨vs, pr, pp⟩ := S
        simp only at q6 q7 HO2
        obtain ⟨Au, cu, hu⟩ := HO2.out.value
        subst hu
        by_cases hn : 2 < n
        · go_wp2_with fail
          go_ret3
          exact HGR.out _ _ ⟨.slice Au vs.length cu, by rw [if_pos (by omega)]; rfl, HO2.out, HBW.out⟩
        · go_wp2_with fail
          go_ret3
          exact HGR.out _ _ ⟨.slice Au vs.length cu, by rw [if_neg (by omega), Int.add_zero]; rfl, HO2.out, HBW.out⟩
  · have H0' : Hid (rgF a g 0 = ⟨[], 0, 1⟩) := by show _ = _; rw [H0.out, if_neg (by simpa using hg2)]
    clear HG2
    go_enter Tryd.func87, Tryd.ntmps87
    go_wp2_with fail
    generalize (w.alloc (.cells #[.bool a.inv, .slice A1 a.ibs.length c1, .slice (some ⟨bp, op, none⟩) a.prs.length c2, .slice A3 a.his.length c3] 26)).alloc (.cells #[.int .i64 16, .int .i64 32, .int .i64 64] 3) = W0 at *
    go_loopw [9, 10, 11, 13] (fun s9 s10 s11 i wr => ∃ k : Nat, k ≤ a.ibs.length ∧ i = .int .i64 k ∧ s10 = .int .i64 (rgF a g k).pr ∧ s11 = .int .i64 (rgF a g k).p ∧ Hid (OB wr W0.heap.size s9 (rgF a g k).vs) ∧ Hid (Below W0.heap.size W0 wr)) (fun _ _ _ i _ => a.ibs.length - (intOf i).toNat)
    case atStart => exact ⟨0, Nat.zero_le _, rfl, by rw [H0'.out], by rw [H0'.out], by show OB _ _ _ _; rw [H0'.out]; exact OB.nil _ _, Below.refl _ _⟩
    case round =>
      obtain ⟨k, hk, rfl, rfl, rfl, HO, HB⟩ := hrel
      obtain ⟨r0, r1, r2, r3⟩ := cellsA ((HB.out.block _ (row_lt hrow.out)).trans hrow.out)
      have HBW := Lib.hid (hal.out.trans (HB.out.mono hal.out.size))
      by_cases hlt : k < a.ibs.length
      · obtain ⟨b', o', rfl, hb', hc'⟩ := D1.out (by omega)
        have hi := (hc' k hlt).keep hb' (fun p hp => HBW.out.cell hp)
        have HSK := Lib.hid (HSU.out k hlt)
        have hib := ib_facts (HVA.out k hlt).ib
        have hpr := HPR.out k hk
        have HVK : Hid ((rgF a g k).vs.length ≤ 10000000) := Nat.le_trans (HVL.out k hk) (by omega)
        clear hc'
        generalize a.ibs.getD k Ib.zero = x at *
        generalize rgF a g k = S at *
        obtain ⟨vs, pr, pp⟩ := S
        obtain ⟨xg, xk, xv, xp⟩ := x
        obtain ⟨g1, g2, g3, g4⟩ := hi
        simp only at g1 g2 g3 g4 hib hpr HO HVK
        obtain ⟨kk, hkk⟩ : ∃ kk : Nat, xk = (kk : Int) := ⟨xk.toNat, by omega⟩
        subst hkk
        obtain ⟨q1, q2, q3, q4, q5⟩ := hib
        obtain ⟨q6, q7⟩ := hpr
        have hbx := alloc_below wr (.cells #[.int .i64 xg, .int .i64 kk, .int .i64 xv, .int .i64 xp] 60)
        have HXR := Lib.hid (heap_alloc_new wr (.cells #[.int .i64 xg, .int .i64 kk, .int .i64 xv, .int .i64 xp] 60))
        have HBX := Lib.hid (HB.out.trans (hbx.mono HB.out.size))
        have HOX := Lib.hid (HO.out.later hbx)
        obtain ⟨Au, cu, hu⟩ := HO.out.value
        have HXO : Hid (u9.ownBlock ≠ some wr.heap.size) := fun e => by have := (World.ownsRow.lt HO.out _ e).2; omega
        subst hu
        clear hbx HO
        by_cases hx : xg = g
        · have HSF : Hid (rgF a g (k + 1) = ⟨vs ++ [pb xv], pr + bitI kk, xp⟩) := by show _ = _; rw [HSK.out]; simp [rgS, hx]
          have hxb : (xg == g) = true := by rw [beq_iff_eq]; exact hx
          have hbb : 0 ≤ bitI (kk : Int) ∧ bitI (kk : Int) ≤ 64 := by unfold bitI; split <;> (try split) <;> omega
          have hbc : ∀ W, Below W0.heap.size W0 W → W.cell? ⟨w.heap.size + 1, kk, none⟩ = some (.int .i64 (bitI kk)) := fun W hW => by
            have e := cell_of_row _ _ kk _ _ _ ((hW.block _ (row_lt hrowb.out)).trans hrowb.out)
            rw [e]
            have hk3 : kk = 0 ∨ kk = 1 ∨ kk = 2 := by omega
            rcases hk3 with rfl | rfl | rfl <;> rfl
          have HBC := Lib.hid hbc
          have hwv : IntKind.u8.wrap xv = xv := by rw [IntKind.wrap_u8']; omega
          obtain ⟨b1, b2⟩ := hbb
          clear hbc
          have HX := Lib.hid hx
          clear hx
          generalize bitI (kk : Int) = bi at *
          go_wp2_with (first
            | (at_builtin; refine wpList_app1G rfl (.tmp 38) (.tmp 42) rfl W0.heap.size (.slice Au vs.length cu) vs (pb xv) xv _ rfl rfl (HOX.out.later (alloc_below ..)) (heap_alloc2_new _ _ _) (pb_nat q4 q5).symm HVK.out (by rw [alloc_size]; exact Nat.le_succ_of_le HBX.out.size) ?_; intro gg cap w5 hO5 hg5; have hap := app_keep0 HBX.out.size _ HOX.out hg5; have hB5 := HBX.out.trans hap.1; have hrx := (hap.2 _ (by rw [alloc_size]; exact Nat.lt_succ_self _) HXO.out).trans HXR.out; obtain ⟨p0, p1, p2, p3⟩ := cellsA hrx; have hc5 := HBC.out _ hB5; have HO5 := Lib.hid hO5; have HB5 := Lib.hid hB5; clear hO5 hg5 hap hB5 hrx))
          go_roundw
          case rel => exact ⟨k + 1, by omega, by go_num, by rw [HSF.out], by rw [HSF.out], by show OB _ _ _ _; rw [HSF.out]; exact HO5.out, HB5⟩
          case measure => simp [intOf]; omega
        · have HSF : Hid (rgF a g (k + 1) = ⟨vs, pr, pp⟩) := by show _ = _; rw [HSK.out]; simp [rgS, hx]
          have hxb : (xg == g) = false := by rw [beq_eq_false_iff_ne]; exact hx
          go_wp2_with fail
          go_roundw
          case rel => exact ⟨k + 1, by omega, by go_num, by rw [HSF.out], by rw [HSF.out], by show OB _ _ _ _; rw [HSF.out]; exact HOX.out, HBX⟩
          case measure => simp [intOf]; omega
      · obtain rfl : a.ibs.length = k := by omega
        have hpr := HPR.out a.ibs.length (Nat.le_refl _)
        obtain ⟨q6, q7⟩ := hpr
        have HGR : Hid (∀ e w', (∃ v', e = .returned (.tuple #[v', .int .i64 ((rgF a g a.ibs.length).pr + if g < n then 128 else 0), .int .i64 (rgF a g a.ibs.length).p]) ∧ OB w' w.heap.size v' (rgF a g a.ibs.length).vs ∧ Below w.heap.size w w') → GrpR a g n w e w') := fun _ _ h => h
        have HO2 : Hid (OB wr w.heap.size u9 (rgF a g a.ibs.length).vs) := HO.out.lower hal.out.size
        clear HO
        generalize rgF a g a.ibs.length = S at *
        obtain ⟨vs, pr, pp⟩ := S
        simp only at q6 q7 HO2
        obtain ⟨Au, cu, hu⟩ := HO2.out.value
        subst hu
        by_cases hn : g < n
        · go_wp2_with fail
          go_ret3
          exact HGR.out _ _ ⟨.slice Au vs.length cu, by rw [if_pos (by omega)]; rfl, HO2.out, HBW.out⟩
        · go_wp2_with fail
          go_ret3
          exact HGR.out _ _ ⟨.slice Au vs.length cu, by rw [if_neg (by omega), Int.add_zero]; rfl, HO2.out, HBW.out⟩
end Go.Proofs.YtnbggokmiokhlaaDoor
