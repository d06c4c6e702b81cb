/-
  Two valid headers with the same encoding are equal: mathematics.
-/
import Derived.Test.YtkjcafhaenkpbaaDoorEnw
import Derived.Test.YtkjcafhaenkpbaaDoorRoa
import Derived.Test.YtkjcafhaenkpbaaDoorSnb
namespace Go.Proofs.YtkjcafhaenkpbaaDoor
set_option linter.unusedVariables false
set_option linter.unusedSimpArgs false
open Go.RowKit

theorem u8_inj {a b : Nat} (ha : a < 256) (hb : b < 256) (h : UInt8.ofNat a = UInt8.ofNat b) : a = b := by
  have := congrArg UInt8.toNat h
  simp [Nat.mod_eq_of_lt ha, Nat.mod_eq_of_lt hb] at this
  exact this
theorem app_inj {A B X Y : List UInt8} (hl : A.length = B.length) (h : A ++ X = B ++ Y) : A = B ∧ X = Y := List.append_inj h hl
theorem lenF_inj {a b : Nat} {X Y : List UInt8} (ha : a < 65536) (hb : b < 65536) (h : lenF a ++ X = lenF b ++ Y) : a = b ∧ X = Y := by
  unfold lenF at h
  by_cases a1 : a < 128 <;> by_cases b1 : b < 128
  · rw [if_pos a1, if_pos b1] at h
    simp only [List.cons_append, List.nil_append, List.cons.injEq] at h
    exact ⟨u8_inj (by omega) (by omega) h.1, h.2⟩
  · rw [if_pos a1, if_neg b1] at h
    exfalso
    by_cases b2 : b ≤ 255
    · rw [if_pos b2] at h
      simp only [List.cons_append, List.nil_append, List.cons.injEq] at h
      have := u8_inj (a := a) (b := 129) (by omega) (by omega) h.1
      omega
    · rw [if_neg b2] at h
      simp only [List.cons_append, List.nil_append, List.cons.injEq] at h
      have := u8_inj (a := a) (b := 130) (by omega) (by omega) h.1
      omega
  · rw [if_neg a1, if_pos b1] at h
    exfalso
    by_cases a2 : a ≤ 255
    · rw [if_pos a2] at h
      simp only [List.cons_append, List.nil_append, List.cons.injEq] at h
      have := u8_inj (a := 129) (b := b) (by omega) (by omega) h.1
      omega
    · rw [if_neg a2] at h
      simp only [List.cons_append, List.nil_append, List.cons.injEq] at h
      have := u8_inj (a := 130) (b := b) (by omega) (by omega) h.1
      omega
  · rw [if_neg a1, if_neg b1] at h
    by_cases a2 : a ≤ 255 <;> by_cases b2 : b ≤ 255
    · rw [if_pos a2, if_pos b2] at h
      simp only [List.cons_append, List.nil_append, List.cons.injEq, true_and] at h
      exact ⟨u8_inj (by omega) (by omega) h.1, h.2⟩
    · rw [if_pos a2, if_neg b2] at h
      simp only [List.cons_append, List.nil_append, List.cons.injEq] at h
      exact absurd h.1 (by decide)
    · rw [if_neg a2, if_pos b2] at h
      simp only [List.cons_append, List.nil_append, List.cons.injEq] at h
      exact absurd h.1 (by decide)
    · rw [if_neg a2, if_neg b2] at h
      simp only [List.cons_append, List.nil_append, List.cons.injEq, true_and] at h
      have e1 := u8_inj (by omega) (by omega) h.1
      have e2 : a % 256 = b % 256 := by
        have := congrArg UInt8.toNat h.2.1
        simpa using this
      exact ⟨by omega, h.2.2⟩
/-- Rows of objects with tags of one byte are told by their bytes. -/
theorem encG_inj : ∀ (l m : List (Int × List UInt8)), (∀ x ∈ l, (1 ≤ x.1 ∧ x.1 ≤ 255) ∧ x.2.length < 65536) → (∀ x ∈ m, (1 ≤ x.1 ∧ x.1 ≤ 255) ∧ x.2.length < 65536) → encL (l.map gObj) = encL (m.map gObj) → l = m
  | [], [], _, _, _ => rfl
  | [], y :: m, _, _, h => by
    exfalso
    have h2 := congrArg List.length h
    rw [List.map_cons, encL, gObj, T.enc] at h2
    have h3 := lenF_pos (y.2 ++ encL []).length
    simp only [List.map_nil, encL, List.length_nil, List.length_append, List.append_nil] at h2 h3
    omega
  | x :: l, [], _, _, h => by
    exfalso
    have h2 := congrArg List.length h
    rw [List.map_cons, encL, gObj, T.enc] at h2
    have h3 := lenF_pos (x.2 ++ encL []).length
    simp only [List.map_nil, encL, List.length_nil, List.length_append, List.append_nil] at h2 h3
    omega
  | (t, v) :: l, (s, u) :: m, hl, hm, h => by
    have hx := hl _ (List.mem_cons_self ..)
    have hy := hm _ (List.mem_cons_self ..)
    simp only at hx hy
    rw [List.map_cons, List.map_cons, encL, encL, gObj, gObj, T.enc, T.enc] at h
    simp only [encL, List.append_nil] at h
    have ht : tagF t = [UInt8.ofNat t.toNat] := by unfold tagF; rw [if_neg (by omega)]; simp [putL]
    have hs : tagF s = [UInt8.ofNat s.toNat] := by unfold tagF; rw [if_neg (by omega)]; simp [putL]
    rw [ht, hs] at h
    simp only [List.append_assoc, List.cons_append, List.nil_append, List.cons.injEq] at h
    have e1 := u8_inj (by omega) (by omega) h.1
    obtain ⟨e2, h2⟩ := lenF_inj hx.2 hy.2 h.2
    obtain ⟨e3, h3⟩ := app_inj e2 h2
    have e4 := encG_inj l m (fun z hz => hl z (List.mem_cons_of_mem _ hz)) (fun z hz => hm z (List.mem_cons_of_mem _ hz)) h3
    have e5 : t = s := by omega
    rw [e5, e3, e4]

theorem hdF_cons (op n : Int) (k : Nat) : ∃ tl, hdF op n k = UInt8.ofNat op.toNat :: tl := by
  unfold hdF
  split
  · exact ⟨_, rfl⟩
  · split <;> exact ⟨_, rfl⟩
theorem hdF_num (op n : Int) (k : Nat) (h : op = 2 ∨ op = 3 ∨ op = 4 ∨ op = 5) : hdF op n k = [UInt8.ofNat op.toNat, UInt8.ofNat n.toNat] := by
  rcases h with rfl | rfl | rfl | rfl <;> rfl
theorem hdF_kids (op n : Int) (k : Nat) (h : op = 6 ∨ op = 7) : hdF op n k = [UInt8.ofNat op.toNat, UInt8.ofNat k] := by
  rcases h with rfl | rfl <;> rfl
mutual
theorem cenc_inj : ∀ (c d : Cn), c.ok = true → d.ok = true → c.cnt ≤ 200 → d.cnt ≤ 200 → ∀ X Y : List UInt8, c.enc ++ X = d.enc ++ Y → c = d ∧ X = Y
  | .mk op n ks, .mk op' n' ks', hc, hd, hn, hn', X, Y, h => by
    rw [Cn.ok, Bool.and_eq_true] at hc hd
    obtain ⟨o1, o2, o3, o4, o5, o6, o7⟩ := okN_op hc.1
    obtain ⟨p1, p2, p3, p4, p5, p6, p7⟩ := okN_op hd.1
    rw [Cn.cnt] at hn hn'
    have hk1 := cntK_len ks
    have hk2 := cntK_len ks'
    rw [Cn.enc, Cn.enc] at h
    simp only [List.append_assoc] at h
    have he : op = op' := by
      obtain ⟨t1, e1⟩ := hdF_cons op n ks.length
      obtain ⟨t2, e2⟩ := hdF_cons op' n' ks'.length
      rw [e1, e2] at h
      simp only [List.cons_append, List.cons.injEq] at h
      have := u8_inj (by omega) (by omega) h.1
      omega
    subst he
    by_cases hA : op = 2 ∨ op = 3 ∨ op = 4 ∨ op = 5
    · rw [hdF_num _ _ _ hA, hdF_num _ _ _ hA] at h
      have z1 : ks = [] := List.length_eq_zero_iff.1 (o6 (by omega))
      have z2 : ks' = [] := List.length_eq_zero_iff.1 (p6 (by omega))
      subst z1 z2
      simp only [List.cons_append, List.nil_append, List.cons.injEq, true_and, encS] at h
      have b1 : 1 ≤ n ∧ n ≤ 51 := by omega
      have b2 : 1 ≤ n' ∧ n' ≤ 51 := by omega
      have e2 := u8_inj (by omega) (by omega) h.1
      have e3 : n = n' := by omega
      exact ⟨by rw [e3], h.2⟩
    · by_cases hB : op = 6 ∨ op = 7
      · rw [hdF_kids _ _ _ hB, hdF_kids _ _ _ hB] at h
        simp only [List.cons_append, List.nil_append, List.cons.injEq, true_and] at h
        have e2 := u8_inj (by omega) (by omega) h.1
        obtain ⟨e3, e4⟩ := encS_inj ks ks' hc.2 hd.2 (by omega) (by omega) e2 X Y h.2
        have n0 := (o5 hB).1
        have m0 := (p5 hB).1
        exact ⟨by rw [e3, n0, m0], e4⟩
      · have hC : op = 0 ∨ op = 1 := by omega
        have z1 : ks = [] := List.length_eq_zero_iff.1 (o6 (by omega))
        have z2 : ks' = [] := List.length_eq_zero_iff.1 (p6 (by omega))
        subst z1 z2
        have n0 := o7 (by omega)
        have m0 := p7 (by omega)
        subst n0 m0
        exact ⟨rfl, by simpa using h⟩
theorem encS_inj : ∀ (ks us : List Cn), okK ks = true → okK us = true → cntK ks ≤ 200 → cntK us ≤ 200 → ks.length = us.length → ∀ X Y : List UInt8, encS ks ++ X = encS us ++ Y → ks = us ∧ X = Y
  | [], [], _, _, _, _, _, X, Y, h => ⟨rfl, by simpa [encS] using h⟩
  | [], u :: us, _, _, _, _, hl, _, _, _ => by simp at hl
  | k :: ks, [], _, _, _, _, hl, _, _, _ => by simp at hl
  | k :: ks, u :: us, hc, hd, hn, hn', hl, X, Y, h => by
    rw [okK, Bool.and_eq_true] at hc hd
    rw [cntK] at hn hn'
    rw [encS, encS, List.append_assoc, List.append_assoc] at h
    obtain ⟨e1, h1⟩ := cenc_inj k u hc.1 hd.1 (by omega) (by omega) _ _ h
    obtain ⟨e2, h2⟩ := encS_inj ks us hc.2 hd.2 (by omega) (by omega) (by simpa using hl) X Y h1
    exact ⟨by rw [e1, e2], h2⟩
end
theorem rts_g (rs : List Rl) : rts rs = (rs.map fun r => ((128 : Int), rby r)).map gObj := by
  unfold rts
  rw [List.map_map]
  rfl
theorem chk_okc {c : Cn} (h : chkC 1 3 c = 0) : c.ok = true ∧ c.cnt ≤ 16 := ⟨chk_ok h, (chk_len h).1⟩
theorem rM_eq (rs : List Rl) (h : chkR rs = 0) : rM rs = encL (rts rs) := by
  have h1 : rs.length ≤ 8 := (chkR_cnt rs h).1
  have h3 := rts_len rs (chkR_cnt rs h).2
  unfold rM encM
  rw [if_pos h, if_pos (rts_ok rs).2, if_neg (by omega)]
theorem rby_len (r : Rl) (h : r.cond.cnt ≤ 16) : (rby r).length ≤ 33 := by
  have := Cn.enc_cnt r.cond
  unfold rby
  rw [List.length_cons]
  omega
theorem rM_inj (rs us : List Rl) (h1 : chkR rs = 0) (h2 : chkR us = 0) (h : rM rs = rM us) : rs = us := by
  have f1 : chkS rs = 0 := by have := (chkR_cnt rs h1).1; unfold chkR at h1; rw [if_neg (by omega)] at h1; exact h1
  have f2 : chkS us = 0 := by have := (chkR_cnt us h2).1; unfold chkR at h2; rw [if_neg (by omega)] at h2; exact h2
  rw [rM_eq rs h1, rM_eq us h2, rts_g, rts_g] at h
  have e := encG_inj _ _ (fun x hx => by
    obtain ⟨r, hr, rfl⟩ := List.mem_map.1 hx
    obtain ⟨k, hk, rfl⟩ := List.getElem_of_mem hr
    have := rby_len rs[k] ((chkR_cnt rs h1).2 k hk)
    exact ⟨⟨by simp, by simp⟩, by simp only; omega⟩) (fun x hx => by
    obtain ⟨r, hr, rfl⟩ := List.mem_map.1 hx
    obtain ⟨k, hk, rfl⟩ := List.getElem_of_mem hr
    have := rby_len us[k] ((chkR_cnt us h2).2 k hk)
    exact ⟨⟨by simp, by simp⟩, by simp only; omega⟩) h
  have hl : rs.length = us.length := by simpa using congrArg List.length e
  refine List.ext_getElem hl fun k hk hk' => ?_
  have e2 : rby rs[k] = rby us[k] := by
    have := congrArg (fun l => (l[k]?).map Prod.snd) e
    simpa [List.getElem?_eq_getElem hk, List.getElem?_eq_getElem hk'] using this
  obtain ⟨g1, g2⟩ := chkS_get rs k hk f1
  obtain ⟨g3, g4⟩ := chkS_get us k hk' f2
  obtain ⟨c1, c2⟩ := chk_okc g2
  obtain ⟨c3, c4⟩ := chk_okc g4
  unfold rby at e2
  simp only [List.cons.injEq] at e2
  unfold opsB at g1 g3
  have b1 : 1 ≤ rs[k].ops ∧ rs[k].ops ≤ 255 := by simpa using g1
  have b2 : 1 ≤ us[k].ops ∧ us[k].ops ≤ 255 := by simpa using g3
  have e3 := u8_inj (by omega) (by omega) e2.1
  have e4 := (cenc_inj rs[k].cond us[k].cond c1 c3 (by omega) (by omega) [] [] (by rw [List.append_nil, List.append_nil]; exact e2.2)).1
  have e5 : rs[k].ops = us[k].ops := by omega
  revert e4 e5
  generalize rs[k] = r
  generalize us[k] = u
  intro e4 e5
  obtain ⟨a, b⟩ := r
  obtain ⟨c, d⟩ := u
  simp only at e4 e5
  rw [e4, e5]
/-- The value of a tag. -/
def lookV (l : List (Int × List UInt8)) (t : Int) : List UInt8 := ((l.find? fun x => decide (x.1 = t)).map Prod.snd).getD []
theorem lookV_cons (x : Int × List UInt8) (l : List (Int × List UInt8)) (t : Int) : lookV (x :: l) t = if x.1 = t then x.2 else lookV l t := by
  unfold lookV
  rw [List.find?_cons]
  by_cases h : x.1 = t <;> simp [h]
theorem lookV_filter : ∀ (l : List (Int × List UInt8)) (t : Int), (l.map Prod.fst).Nodup → lookV (l.filter fun x => decide (0 < x.2.length)) t = lookV l t
  | [], _, _ => rfl
  | x :: l, t, h => by
    rw [List.map_cons, List.nodup_cons] at h
    have ih := lookV_filter l t h.2
    rw [List.filter_cons, lookV_cons]
    by_cases hx : 0 < x.2.length
    · rw [if_pos (by simpa using hx), lookV_cons, ih]
    · rw [if_neg (by simpa using hx), ih]
      by_cases ht : x.1 = t
      · rw [if_pos ht]
        have hz : x.2 = [] := List.length_eq_zero_iff.1 (by omega)
        rw [hz]
        unfold lookV
        have hn : l.find? (fun x => decide (x.1 = t)) = none := by
          rw [List.find?_eq_none]
          intro y hy hyt
          have : y.1 = t := by simpa using hyt
          exact h.1 (List.mem_map.2 ⟨y, hy, by rw [this, ht]⟩)
        rw [hn]
        rfl
      · rw [if_neg ht]
theorem pts_nodup (f : Fl) : ((pts f).map Prod.fst).Nodup := by
  show ([130, 131, 132, 128, 136, 138, 134] : List Int).Nodup
  decide
theorem look_out (f : Fl) (t : Int) : lookV (outP (pts f) 7) t = lookV (pts f) t := by
  unfold outP
  rw [List.take_of_length_le (show (pts f).length ≤ 7 by unfold pts; simp)]
  exact lookV_filter _ _ (pts_nodup f)
theorem outP_mem {f : Fl} (h : chkF f = 0) : ∀ x ∈ outP (pts f) 7, (1 ≤ x.1 ∧ x.1 ≤ 255) ∧ x.2.length < 65536 := by
  intro x hx
  have hm : x ∈ pts f := List.mem_of_mem_take (List.mem_filter.1 hx).1
  have hv := pts_val f h
  have hb : ∀ (l : List (Int × List UInt8)) (y : Int × List UInt8), y ∈ l → y.2.length ≤ valN l := by
    intro l
    induction l with
    | nil => intro y hy; cases hy
    | cons z l ih =>
      intro y hy
      rw [valN]
      rcases List.mem_cons.1 hy with e | e
      · rw [e]; omega
      · have := ih y e; omega
  have h1 := hb _ x hm
  refine ⟨?_, by omega⟩
  have ht : x.1 ∈ (pts f).map Prod.fst := List.mem_map.2 ⟨x, hm, rfl⟩
  have ht2 : x.1 ∈ ([130, 131, 132, 128, 136, 138, 134] : List Int) := ht
  simp at ht2
  omega
theorem fT_encL (f : Fl) (h : encE [fT f] = 0) : encM [fT f] = encL [fT f] := by
  unfold encE at h
  unfold encM
  by_cases ho : okL 1 [fT f] = true
  · rw [if_pos ho] at h ⊢
    by_cases hl : 4096 < (encL [fT f]).length
    · rw [if_pos hl] at h; omega
    · rw [if_neg hl]
  · rw [if_neg ho] at h; omega
theorem fT_inj (f g : Fl) (hf : chkF f = 0) (hg : chkF g = 0) (h : encL [fT f] = encL [fT g]) : outP (pts f) 7 = outP (pts g) 7 := by
  refine encG_inj _ _ (outP_mem hf) (outP_mem hg) ?_
  have b : ∀ k : Fl, chkF k = 0 → (encL ((outP (pts k) 7).map gObj)).length < 65536 := by
    intro k hk
    have h1 := encL_g (outP (pts k) 7)
    have h2 := outP_len (pts k) 7
    have h3 := valN_out (pts k) 7
    have h4 := pts_val k hk
    omega
  unfold fT at h
  simp only [encL, T.enc, List.append_nil, List.nil_append] at h
  have h2 := (app_inj rfl h).2
  exact (lenF_inj (b f hf) (b g hg) h2).2
theorem kindB_inj (K L R K' L' R' : Nat) (hK : K ≤ 5) (hK' : K' ≤ 5) (hL : L < 256) (hL' : L' < 256) (hR : R < 256) (hR' : R' < 256) (h : kindB K L R = kindB K' L' R') : K = K' ∧ (recK (K : Int) = true → L = L' ∧ R = R') := by
  unfold kindB at h
  have hh : K = K' := by
    have e : (if recK (K : Int) then [UInt8.ofNat K, UInt8.ofNat L, UInt8.ofNat R] else [UInt8.ofNat K]).head? = some (UInt8.ofNat K) := by split <;> rfl
    have e' : (if recK (K' : Int) then [UInt8.ofNat K', UInt8.ofNat L', UInt8.ofNat R'] else [UInt8.ofNat K']).head? = some (UInt8.ofNat K') := by split <;> rfl
    rw [h, e'] at e
    exact (u8_inj (by omega) (by omega) (Option.some.inj e)).symm
  refine ⟨hh, fun hr => ?_⟩
  subst hh
  rw [if_pos hr, if_pos hr] at h
  simp only [List.cons.injEq, and_true] at h
  exact ⟨u8_inj hL hL' h.2.1, u8_inj hR hR' h.2.2⟩
theorem putL2_inj {a b : Nat} (ha : a < 65536) (hb : b < 65536) (h : putL a 2 = putL b 2) : a = b := by
  rw [putL_two, putL_two] at h
  simp only [List.cons.injEq, and_true] at h
  have e1 := u8_inj (by omega) (by omega) h.1
  have e2 : a % 256 = b % 256 := by
    have := congrArg UInt8.toNat h.2
    simpa using this
  omega
theorem keeps (f g : Fl) (hf : chkF f = 0) (hg : chkF g = 0) (h : encL [fT f] = encL [fT g]) : f = g := by
  have ho := fT_inj f g hf hg h
  have hv : ∀ t, lookV (pts f) t = lookV (pts g) t := fun t => by rw [← look_out f t, ← look_out g t, ho]
  obtain ⟨-, -, -, -, hsf, -, hrf⟩ := chkF_facts f hf
  obtain ⟨-, -, -, -, hsg, -, hrg⟩ := chkF_facts g hg
  obtain ⟨s1, s2, s3, s4, -⟩ := sizE_facts f hsf
  obtain ⟨t1, t2, t3, t4, -⟩ := sizE_facts g hsg
  obtain ⟨I, K, S, L, R, ST, Z, e1, e2, e3, e4, e5, e6, e7, b1, b2, b3, b4, b5, b6, b7⟩ := chkF_nat f hf
  obtain ⟨I', K', S', L', R', ST', Z', e1', e2', e3', e4', e5', e6', e7', b1', b2', b3', b4', b5', b6', b7'⟩ := chkF_nat g hg
  clear hf hg h ho hsf hsg
  obtain ⟨id, kind, short, size, len, recs, state, name, rules⟩ := f
  obtain ⟨id', kind', short', size', len', recs', state', name', rules'⟩ := g
  simp only at e1 e2 e3 e4 e5 e6 e7 e1' e2' e3' e4' e5' e6' e7' hrf hrg s1 s2 s3 s4 t1 t2 t3 t4
  subst e1 e2 e3 e4 e5 e6 e7 e1' e2' e3' e4' e5' e6' e7'
  rw [pts_nat, pts_nat] at hv
  have v0 := hv 130
  have v1 := hv 131
  have v2 := hv 132
  have v3 := hv 128
  have v4 := hv 136
  have v5 := hv 138
  have v6 := hv 134
  simp only [lookV_cons, Int.reduceEq, if_true, if_false, reduceIte] at v0 v1 v2 v3 v4 v5 v6
  obtain ⟨k1, k2⟩ := kindB_inj K L R K' L' R' (by omega) (by omega) (by omega) (by omega) (by omega) (by omega) v0
  subst k1
  have i1 := putL2_inj (by omega) (by omega) v1
  have st1 : ST = ST' := by
    simp only [List.cons.injEq, and_true] at v5
    exact u8_inj (by omega) (by omega) v5
  have sh : S = S' := by
    by_cases hS : (S : Int) = 0
    · by_cases hS' : (S' : Int) = 0
      · omega
      · rw [if_pos hS, if_neg hS'] at v4; simp at v4
    · by_cases hS' : (S' : Int) = 0
      · rw [if_neg hS, if_pos hS'] at v4; simp at v4
      · rw [if_neg hS, if_neg hS'] at v4
        simp only [List.cons.injEq, and_true] at v4
        exact u8_inj (by omega) (by omega) v4
  have sz : (Z : Int) = Z' := by
    by_cases hK : (K : Int) = 2
    · rw [if_pos hK, if_pos hK] at v3
      have := putL2_inj (a := Z) (b := Z') (by omega) (by omega) v3
      omega
    · rw [s2 hK, t2 hK]
  have lr : (L : Int) = L' ∧ (R : Int) = R' := by
    cases hr : recK (K : Int)
    · rw [(s4 hr).1, (s4 hr).2, (t4 hr).1, (t4 hr).2]; exact ⟨rfl, rfl⟩
    · have := k2 hr; omega
  have ru := rM_inj rules rules' hrf hrg v6
  subst i1 st1 sh
  rw [sz, lr.1, lr.2, v2, ru]
end Go.Proofs.YtkjcafhaenkpbaaDoor
