
/-
  What the decoding of rules gives, by the program and by the reference: mathematics.
-/
import Derived.Test.YtjkbfogjfgnhiaaDoorCig
namespace Go.Proofs.YtjkbfogjfgnhiaaDoor
set_option linter.unusedVariables false
set_option linter.unusedSimpArgs false
open Go.RowKit

theorem okN_cases {op n : Int} {k : Nat} (h : okN op n k = true) :
    (0 ≤ op ∧ op < 2 ∧ n = 0 ∧ k = 0) ∨ (2 ≤ op ∧ op < 6 ∧ 1 ≤ n ∧ n ≤ 255 ∧ k = 0) ∨ (6 ≤ op ∧ op < 8 ∧ n = 0 ∧ 0 < k) := by
  unfold okN at h
  split at h
  · simp at h; omega
  split at h
  · simp at h; omega
  split at h
  · simp at h; omega
  split at h
  · simp at h; omega
  split at h
  · simp at h; omega
  split at h
  · simp only [lvN, Bool.and_eq_true, Bool.or_eq_true, decide_eq_true_eq, beq_iff_eq] at h; omega
  split at h
  · simp at h; omega
  split at h
  · simp at h; omega
  · simp at h
theorem hdF_plain {op n : Int} {k : Nat} (h0 : 0 ≤ op) (h : op < 2) : hdF op n k = [UInt8.ofNat op.toNat] := by
  have : op = 0 ∨ op = 1 := by omega
  rcases this with rfl | rfl <;> rfl
theorem hdF_num {op n : Int} {k : Nat} (h0 : 2 ≤ op) (h : op < 6) : hdF op n k = [UInt8.ofNat op.toNat, UInt8.ofNat n.toNat] := by
  have : op = 2 ∨ op = 3 ∨ op = 4 ∨ op = 5 := by omega
  rcases this with rfl | rfl | rfl | rfl <;> rfl
theorem hdF_kids {op n : Int} {k : Nat} (h0 : 6 ≤ op) (h : op < 8) : hdF op n k = [UInt8.ofNat op.toNat, UInt8.ofNat k] := by
  have : op = 6 ∨ op = 7 := by omega
  rcases this with rfl | rfl <;> rfl
theorem encS_nil : encS [] = [] := by rw [encS]
theorem kids_len : ∀ ts : List Cn, ts.length ≤ cntK ts
  | [] => by simp [cntK]
  | t :: ts => by have := kids_len ts; have := Cn.dep_cnt t; have := dep_kids t; rw [cntK, List.length_cons]; omega
mutual
/-- What is encoded is read as it was. -/
theorem enc_rd : ∀ (c : Cn) (f : Nat) (x : List UInt8), c.ok = true → c.cnt ≤ 255 → c.dep ≤ f → rdF f (c.enc ++ x) = some (c, x)
  | .mk op n kids, 0, x, _, _, h => by rw [Cn.dep] at h; omega
  | .mk op n kids, f + 1, x, hok, hc, h => by
    rw [Cn.ok, Bool.and_eq_true] at hok
    rw [Cn.cnt] at hc
    rw [Cn.dep] at h
    rw [Cn.enc]
    rcases okN_cases hok.1 with ⟨h0, h1, rfl, h3⟩ | ⟨h0, h1, h2, h3, h4⟩ | ⟨h0, h1, rfl, h3⟩
    · have hk : kids = [] := List.eq_nil_of_length_eq_zero h3
      subst hk
      rw [hdF_plain h0 h1, encS_nil]
      have e : byN (([UInt8.ofNat op.toNat] ++ []) ++ x) 0 = op.toNat := by
        show (UInt8.ofNat op.toNat).toNat = _
        rw [of_toNat]; omega
      rw [rdF_plain f _ (by simp) (by rw [e]; omega), e, Int.toNat_of_nonneg h0]
      rfl
    · have hk : kids = [] := List.eq_nil_of_length_eq_zero h4
      subst hk
      rw [hdF_num h0 h1, encS_nil]
      have e : byN (([UInt8.ofNat op.toNat, UInt8.ofNat n.toNat] ++ []) ++ x) 0 = op.toNat := by
        show (UInt8.ofNat op.toNat).toNat = _
        rw [of_toNat]; omega
      have e1 : byN (([UInt8.ofNat op.toNat, UInt8.ofNat n.toNat] ++ []) ++ x) 1 = n.toNat := by
        show (UInt8.ofNat n.toNat).toNat = _
        rw [of_toNat]; omega
      rw [rdF_num f _ (by simp) (by rw [e]; omega) (by rw [e]; omega), e, e1, Int.toNat_of_nonneg (by omega), Int.toNat_of_nonneg (by omega)]
      rfl
    · rw [hdF_kids h0 h1]
      have hkl := kids_len kids
      have e : byN (([UInt8.ofNat op.toNat, UInt8.ofNat kids.length] ++ encS kids) ++ x) 0 = op.toNat := by
        show (UInt8.ofNat op.toNat).toNat = _
        rw [of_toNat]; omega
      have e1 : byN (([UInt8.ofNat op.toNat, UInt8.ofNat kids.length] ++ encS kids) ++ x) 1 = kids.length := by
        show (UInt8.ofNat kids.length).toNat = _
        rw [of_toNat]; omega
      have e2 : (([UInt8.ofNat op.toNat, UInt8.ofNat kids.length] ++ encS kids) ++ x).drop 2 = encS kids ++ x := rfl
      rw [rdF_kids f _ (by simp) (by rw [e]; omega) (by rw [e]; omega), e, e1, e2, encS_rd kids f x [] hok.2 (by omega) (by omega), Int.toNat_of_nonneg (by omega)]
      rfl
theorem encS_rd : ∀ (ks : List Cn) (f : Nat) (x : List UInt8) (acc : List Cn), okK ks = true → cntK ks ≤ 255 → depK ks ≤ f → rdS (rdF f) ks.length (encS ks ++ x) acc = some (acc ++ ks, x)
  | [], f, x, acc, _, _, _ => by simp [rdS, encS]
  | k :: ks, f, x, acc, hok, hc, h => by
    rw [okK, Bool.and_eq_true] at hok
    rw [cntK] at hc
    rw [depK] at h
    rw [encS, List.append_assoc, List.length_cons]
    simp only [rdS]
    rw [enc_rd k f (encS ks ++ x) hok.1 (by omega) (by omega)]
    show rdS (rdF f) ks.length (encS ks ++ x) (acc ++ [k]) = _
    rw [encS_rd ks f x (acc ++ [k]) hok.2 (by omega) (by omega), List.append_assoc]
    rfl
end
theorem head2 (b : List UInt8) (h : 2 ≤ b.length) : b = UInt8.ofNat (byN b 0) :: UInt8.ofNat (byN b 1) :: b.drop 2 := by
  match b, h with
  | x :: y :: l, _ => rw [byN_zero, byN_one, UInt8.ofNat_toNat, UInt8.ofNat_toNat]; rfl
theorem head1 (b : List UInt8) (h : b.length ≠ 0) : b = UInt8.ofNat (byN b 0) :: b.drop 1 := by
  match b, h with
  | x :: l, _ => rw [byN_zero, UInt8.ofNat_toNat]; rfl
mutual
/-- What was read, and is valid, is encoded as the bytes that it was read from. -/
theorem rd_enc : ∀ (f : Nat) (b : List UInt8) (c : Cn) (r : List UInt8), rdF f b = some (c, r) → c.ok = true → b = c.enc ++ r
  | 0, b, c, r, h, _ => by unfold rdF at h; cases h
  | f + 1, b, c, r, h, hok => by
    unfold rdF at h
    split at h
    · cases h
    rename_i hb0
    split at h
    · cases h
    rename_i hb7
    split at h
    · rename_i hb2
      simp only [Option.some.injEq, Prod.mk.injEq] at h
      rw [← h.1, ← h.2, Cn.enc, hdF_plain (by omega) (by omega), encS_nil]
      exact head1 b hb0
    rename_i hb2
    split at h
    · cases h
    rename_i hl
    split at h
    · rename_i hb6
      simp only [Option.some.injEq, Prod.mk.injEq] at h
      rw [← h.1, ← h.2, Cn.enc, hdF_num (by omega) (by omega), encS_nil]
      exact head2 b (by omega)
    · rename_i hb6
      cases e : rdS (rdF f) (byN b 1) (b.drop 2) [] with
      | none => rw [e] at h; cases h
      | some p =>
        obtain ⟨ks, r'⟩ := p
        rw [e] at h
        simp only [Option.some.injEq, Prod.mk.injEq] at h
        rw [← h.1, Cn.ok, Bool.and_eq_true] at hok
        obtain ⟨ks', hk, hn, hd⟩ := rdS_enc f (byN b 1) (b.drop 2) [] ks r' e hok.2
        rw [List.nil_append] at hk
        subst hk
        rw [← h.1, ← h.2, Cn.enc, hdF_kids (by omega) (by omega), hn, List.append_assoc, ← hd]
        exact head2 b (by omega)
theorem rdS_enc : ∀ (f n : Nat) (b : List UInt8) (acc ks : List Cn) (r : List UInt8), rdS (rdF f) n b acc = some (ks, r) → okK ks = true → ∃ ks', ks = acc ++ ks' ∧ ks'.length = n ∧ b = encS ks' ++ r
  | f, 0, b, acc, ks, r, h, _ => by
    simp only [rdS, Option.some.injEq, Prod.mk.injEq] at h
    exact ⟨[], by rw [List.append_nil]; exact h.1.symm, rfl, by rw [encS_nil]; exact h.2⟩
  | f, n + 1, b, acc, ks, r, h, hok => by
    simp only [rdS] at h
    cases e : rdF f b with
    | none => rw [e] at h; cases h
    | some p =>
      obtain ⟨t, r'⟩ := p
      rw [e] at h
      obtain ⟨ks', hk, hn, hd⟩ := rdS_enc f n r' (acc ++ [t]) ks r h hok
      subst hk
      have ht : t.ok = true := by
        have := okK_get (acc ++ [t] ++ ks') acc.length (by simp) hok
        simpa using this
      have h1 := rd_enc f b t r' e ht
      refine ⟨t :: ks', by simp, by rw [List.length_cons, hn], ?_⟩
      rw [encS, List.append_assoc, ← hd]
      exact h1
end

/-- The reference's reading, with a bound of the depth. -/
def rdR : Nat → List UInt8 → Option (Cn × List UInt8)
  | 0, _ => none
  | f + 1, b =>
    if b.length = 0 then none else
    if byN b 0 < 2 then some (.mk (byN b 0 : Int) 0 [], b.drop 1) else
    if b.length < 2 then none else
    if byN b 0 < 6 then some (.mk (byN b 0 : Int) (byN b 1 : Int) [], b.drop 2) else
    match rdS (rdR f) (byN b 1) (b.drop 2) [] with
    | none => none
    | some (ks, r) => some (.mk (byN b 0 : Int) 0 ks, r)
mutual
theorem rdF_rdR : ∀ (f : Nat) (b : List UInt8) (c : Cn) (r : List UInt8), rdF f b = some (c, r) → rdR f b = some (c, r)
  | 0, b, c, r, h => by unfold rdF at h; cases h
  | f + 1, b, c, r, h => by
    unfold rdF at h
    unfold rdR
    by_cases h0 : b.length = 0
    · rw [if_pos h0] at h; cases h
    rw [if_neg h0] at h ⊢
    by_cases h7 : 7 < byN b 0
    · rw [if_pos h7] at h; cases h
    rw [if_neg h7] at h
    by_cases h2 : byN b 0 < 2
    · rw [if_pos h2] at h ⊢; exact h
    rw [if_neg h2] at h ⊢
    by_cases hl : b.length < 2
    · rw [if_pos hl] at h; cases h
    rw [if_neg hl] at h ⊢
    by_cases h6 : byN b 0 < 6
    · rw [if_pos h6] at h ⊢; exact h
    rw [if_neg h6] at h ⊢
    cases e : rdS (rdF f) (byN b 1) (b.drop 2) [] with
    | none => rw [e] at h; cases h
    | some p =>
      rw [e] at h
      rw [rdS_rdR f (byN b 1) (b.drop 2) [] p e]
      exact h
theorem rdS_rdR : ∀ (f n : Nat) (b : List UInt8) (acc : List Cn) (p : List Cn × List UInt8), rdS (rdF f) n b acc = some p → rdS (rdR f) n b acc = some p
  | f, 0, b, acc, p, h => h
  | f, n + 1, b, acc, p, h => by
    simp only [rdS] at h ⊢
    cases e : rdF f b with
    | none => rw [e] at h; cases h
    | some q =>
      obtain ⟨t, r'⟩ := q
      rw [e] at h
      rw [rdF_rdR f b t r' e]
      exact rdS_rdR f n r' (acc ++ [t]) p h
end
theorem rdS_acc : ∀ (g : List UInt8 → Option (Cn × List UInt8)) (n : Nat) (b : List UInt8) (acc ks : List Cn) (r : List UInt8), rdS g n b acc = some (ks, r) → ∃ ks', ks = acc ++ ks'
  | g, 0, b, acc, ks, r, h => by
    simp only [rdS, Option.some.injEq, Prod.mk.injEq] at h
    exact ⟨[], by rw [List.append_nil]; exact h.1.symm⟩
  | g, n + 1, b, acc, ks, r, h => by
    simp only [rdS] at h
    cases e : g b with
    | none => rw [e] at h; cases h
    | some p =>
      obtain ⟨t, r'⟩ := p
      rw [e] at h
      obtain ⟨ks', hk⟩ := rdS_acc g n r' (acc ++ [t]) ks r h
      exact ⟨t :: ks', by rw [hk]; simp⟩
mutual
theorem rdR_rdF : ∀ (f : Nat) (b : List UInt8) (c : Cn) (r : List UInt8), rdR f b = some (c, r) → c.ok = true → rdF f b = some (c, r)
  | 0, b, c, r, h, _ => by unfold rdR at h; cases h
  | f + 1, b, c, r, h, hok => by
    unfold rdR at h
    unfold rdF
    by_cases h0 : b.length = 0
    · rw [if_pos h0] at h; cases h
    rw [if_neg h0] at h ⊢
    have h7 : ¬ 7 < byN b 0 := by
      intro h7
      rw [if_neg (by omega)] at h
      by_cases hl : b.length < 2
      · rw [if_pos hl] at h; cases h
      rw [if_neg hl, if_neg (by omega)] at h
      cases e : rdS (rdR f) (byN b 1) (b.drop 2) [] with
      | none => rw [e] at h; cases h
      | some p =>
        obtain ⟨ks, r'⟩ := p
        rw [e] at h
        simp only [Option.some.injEq, Prod.mk.injEq] at h
        rw [← h.1, Cn.ok, Bool.and_eq_true] at hok
        rcases okN_cases hok.1 with h | h | h <;> omega
    rw [if_neg h7]
    by_cases h2 : byN b 0 < 2
    · rw [if_pos h2] at h ⊢; exact h
    rw [if_neg h2] at h ⊢
    by_cases hl : b.length < 2
    · rw [if_pos hl] at h; cases h
    rw [if_neg hl] at h ⊢
    by_cases h6 : byN b 0 < 6
    · rw [if_pos h6] at h ⊢; exact h
    rw [if_neg h6] at h ⊢
    cases e : rdS (rdR f) (byN b 1) (b.drop 2) [] with
    | none => rw [e] at h; cases h
    | some p =>
      obtain ⟨ks, r'⟩ := p
      rw [e] at h
      have h' := h
      simp only [Option.some.injEq, Prod.mk.injEq] at h'
      rw [← h'.1, Cn.ok, Bool.and_eq_true] at hok
      rw [rdSR_rdF f (byN b 1) (b.drop 2) [] ks r' e hok.2]
      exact h
theorem rdSR_rdF : ∀ (f n : Nat) (b : List UInt8) (acc ks : List Cn) (r : List UInt8), rdS (rdR f) n b acc = some (ks, r) → okK ks = true → rdS (rdF f) n b acc = some (ks, r)
  | f, 0, b, acc, ks, r, h, _ => h
  | f, n + 1, b, acc, ks, r, h, hok => by
    simp only [rdS] at h ⊢
    cases e : rdR f b with
    | none => rw [e] at h; cases h
    | some q =>
      obtain ⟨t, r'⟩ := q
      rw [e] at h
      obtain ⟨ks', hk⟩ := rdS_acc _ _ _ _ _ _ h
      have ht : t.ok = true := by
        rw [hk] at hok
        have := okK_get (acc ++ [t] ++ ks') acc.length (by simp) hok
        simpa using this
      rw [rdR_rdF f b t r' e ht]
      exact rdSR_rdF f n r' (acc ++ [t]) ks r h hok
end

/-- The rule of a data object for the reference. -/
def rulFR (t : Int) (b : List UInt8) : Option (Nat × Cn) :=
  if t ≠ 128 ∨ b.length < 2 then none else match rdR 16 (b.drop 1) with
    | some (c, []) => some (byN b 0, c)
    | _ => none
def rulSR : List T → List Rl → Option (List Rl)
  | [], acc => some acc
  | t :: ts, acc => match rulFR t.tag t.val with
    | none => none
    | some (p, k) => rulSR ts (acc ++ [⟨(p : Int), k⟩])
theorem rulSR_drop (ts : List T) (k : Nat) (h : k < ts.length) (acc : List Rl) : rulSR (ts.drop k) acc = match rulFR ts[k].tag ts[k].val with
    | none => none
    | some (p, c) => rulSR (ts.drop (k + 1)) (acc ++ [⟨(p : Int), c⟩]) := by rw [List.drop_eq_getElem_cons h, rulSR]
theorem chk_parts {c : Cn} (h : chkC 1 3 c = 0) : c.ok = true ∧ c.cnt ≤ 16 ∧ c.dep ≤ 8 := ⟨chk_ok h, chk_len h⟩
theorem rulF_some {t : Int} {b : List UInt8} {p : Nat} {k : Cn} (h : rulF t b = some (p, k)) (hc : chkC 1 3 k = 0) : t = 128 ∧ b = UInt8.ofNat p :: k.enc ∧ p < 256 := by
  unfold rulF at h
  split at h
  · cases h
  rename_i hn
  have ht : t = 128 := by omega
  have hb : b.length ≠ 0 := by omega
  cases e : rdF b.length (b.drop 1) with
  | none => rw [e] at h; cases h
  | some q =>
    obtain ⟨c, r⟩ := q
    rw [e] at h
    cases r with
    | cons x xs => cases h
    | nil =>
      simp only [Option.some.injEq, Prod.mk.injEq] at h
      have := rd_enc _ _ _ _ e (by rw [h.2]; exact (chk_parts hc).1)
      rw [List.append_nil] at this
      refine ⟨ht, ?_, by rw [← h.1]; exact byN_lt _ _⟩
      rw [← h.1, ← h.2, ← this]
      exact head1 b hb
theorem rulF_make {p : Nat} {k : Cn} (hc : chkC 1 3 k = 0) (hp : p < 256) : rulF 128 (UInt8.ofNat p :: k.enc) = some (p, k) := by
  obtain ⟨h1, h2, h3⟩ := chk_parts hc
  have h4 := enc_rd k 8 [] h1 (by omega) h3
  have h5 := (rdF_cnt _ _ _ _ h4).2
  rw [List.append_nil] at h4 h5
  have h6 := enc_rd k (UInt8.ofNat p :: k.enc).length [] h1 (by omega) (by simp at h5 ⊢; omega)
  rw [List.append_nil] at h6
  have e : byN (UInt8.ofNat p :: k.enc) 0 = p := by rw [byN_zero, of_toNat]; omega
  unfold rulF
  rw [if_neg (by simp), e, List.drop_one, List.tail_cons, h6]
theorem rulFR_make {p : Nat} {k : Cn} (hc : chkC 1 3 k = 0) (hp : p < 256) : rulFR 128 (UInt8.ofNat p :: k.enc) = some (p, k) := by
  obtain ⟨h1, h2, h3⟩ := chk_parts hc
  have h4 := enc_rd k 8 [] h1 (by omega) h3
  have h5 := (rdF_cnt _ _ _ _ h4).1
  have hk : 1 ≤ k.cnt := by have := Cn.dep_cnt k; have := dep_kids k; omega
  rw [List.append_nil] at h5
  simp only [List.length_nil] at h5
  have h6 := rdF_rdR _ _ _ _ (enc_rd k 16 [] h1 (by omega) (by omega))
  rw [List.append_nil] at h6
  have e : byN (UInt8.ofNat p :: k.enc) 0 = p := by rw [byN_zero, of_toNat]; omega
  unfold rulFR
  rw [if_neg (by simp; omega), e, List.drop_one, List.tail_cons, h6]
theorem rulFR_some {t : Int} {b : List UInt8} {p : Nat} {k : Cn} (h : rulFR t b = some (p, k)) (hc : chkC 1 3 k = 0) : t = 128 ∧ b = UInt8.ofNat p :: k.enc ∧ p < 256 := by
  unfold rulFR at h
  split at h
  · cases h
  rename_i hn
  have ht : t = 128 := by omega
  have hb : b.length ≠ 0 := by omega
  cases e : rdR 16 (b.drop 1) with
  | none => rw [e] at h; cases h
  | some q =>
    obtain ⟨c, r⟩ := q
    rw [e] at h
    cases r with
    | cons x xs => cases h
    | nil =>
      simp only [Option.some.injEq, Prod.mk.injEq] at h
      have hok : c.ok = true := by rw [h.2]; exact (chk_parts hc).1
      have := rd_enc _ _ _ _ (rdR_rdF _ _ _ _ e hok) hok
      rw [List.append_nil] at this
      refine ⟨ht, ?_, by rw [← h.1]; exact byN_lt _ _⟩
      rw [← h.1, ← h.2, ← this]
      exact head1 b hb
theorem chkS_cons {r : Rl} {rs : List Rl} (h : chkS (r :: rs) = 0) : 1 ≤ r.ops ∧ r.ops ≤ 255 ∧ chkC 1 3 r.cond = 0 ∧ chkS rs = 0 := by
  rw [chkS] at h
  by_cases h1 : opsB r.ops = true
  · rw [if_pos h1] at h
    by_cases h2 : chkC 1 3 r.cond = 0
    · rw [if_pos h2] at h
      simp only [opsB, Bool.and_eq_true, decide_eq_true_eq] at h1
      exact ⟨h1.1, h1.2, h2, h⟩
    · rw [if_neg h2] at h; exact absurd h h2
  · rw [if_neg h1] at h; omega
theorem rulS_acc : ∀ (ts : List T) (acc : List Rl), rulS ts acc = (rulS ts []).map (acc ++ ·)
  | [], acc => by simp [rulS]
  | t :: ts, acc => by
    rw [rulS, rulS]
    cases rulF t.tag t.val with
    | none => rfl
    | some q =>
      obtain ⟨p, k⟩ := q
      show rulS ts (acc ++ _) = (rulS ts ([] ++ _)).map _
      rw [rulS_acc ts (acc ++ _), rulS_acc ts ([] ++ _)]
      cases rulS ts [] <;> simp
theorem rulSR_acc : ∀ (ts : List T) (acc : List Rl), rulSR ts acc = (rulSR ts []).map (acc ++ ·)
  | [], acc => by simp [rulSR]
  | t :: ts, acc => by
    rw [rulSR, rulSR]
    cases rulFR t.tag t.val with
    | none => rfl
    | some q =>
      obtain ⟨p, k⟩ := q
      show rulSR ts (acc ++ _) = (rulSR ts ([] ++ _)).map _
      rw [rulSR_acc ts (acc ++ _), rulSR_acc ts ([] ++ _)]
      cases rulSR ts [] <;> simp
theorem rby_eq {p : Nat} {k : Cn} : rby ⟨(p : Int), k⟩ = UInt8.ofNat p :: k.enc := rfl
theorem ok_flat {d : Int} {t : T} (h : t.ok d = true) (ht : t.tag = 128) : t = tObj t.val := by
  rw [tok_parts] at h
  simp only [Bool.and_eq_true] at h
  have h2 := h.1.2
  obtain ⟨tag, val, kids⟩ := t
  simp only [T.tag] at ht
  subst ht
  change (if consB 128 = true then decide (val.length = 0) else validB 128 && decide (kids.length = 0)) = true at h2
  rw [if_neg (by decide)] at h2
  simp only [Bool.and_eq_true, decide_eq_true_eq] at h2
  rw [List.eq_nil_of_length_eq_zero h2.2]
  rfl
theorem rulS_fwd : ∀ (ts : List T) (rs : List Rl), rulS ts [] = some rs → chkS rs = 0 → okL 1 ts = true → ts = rts rs
  | [], rs, h, _, _ => by
    simp only [rulS, Option.some.injEq] at h
    subst h; rfl
  | t :: ts, rs, h, hc, hok => by
    rw [rulS] at h
    rw [okL, Bool.and_eq_true] at hok
    cases e : rulF t.tag t.val with
    | none => rw [e] at h; cases h
    | some q =>
      obtain ⟨p, k⟩ := q
      rw [e] at h
      change rulS ts ([] ++ _) = _ at h
      rw [rulS_acc] at h
      cases e2 : rulS ts [] with
      | none => rw [e2] at h; cases h
      | some us =>
        rw [e2] at h
        simp only [Option.map_some, Option.some.injEq, List.nil_append, List.singleton_append] at h
        subst h
        obtain ⟨c1, c2, c3, c4⟩ := chkS_cons hc
        obtain ⟨g1, g2, g3⟩ := rulF_some e c3
        rw [ok_flat hok.1 g1, g2, rulS_fwd ts us e2 c4 hok.2]
        rfl
theorem rulSR_fwd : ∀ (ts : List T) (rs : List Rl), rulSR ts [] = some rs → chkS rs = 0 → okL 1 ts = true → ts = rts rs
  | [], rs, h, _, _ => by
    simp only [rulSR, Option.some.injEq] at h
    subst h; rfl
  | t :: ts, rs, h, hc, hok => by
    rw [rulSR] at h
    rw [okL, Bool.and_eq_true] at hok
    cases e : rulFR t.tag t.val with
    | none => rw [e] at h; cases h
    | some q =>
      obtain ⟨p, k⟩ := q
      rw [e] at h
      change rulSR ts ([] ++ _) = _ at h
      rw [rulSR_acc] at h
      cases e2 : rulSR ts [] with
      | none => rw [e2] at h; cases h
      | some us =>
        rw [e2] at h
        simp only [Option.map_some, Option.some.injEq, List.nil_append, List.singleton_append] at h
        subst h
        obtain ⟨c1, c2, c3, c4⟩ := chkS_cons hc
        obtain ⟨g1, g2, g3⟩ := rulFR_some e c3
        rw [ok_flat hok.1 g1, g2, rulSR_fwd ts us e2 c4 hok.2]
        rfl
theorem rulS_rts : ∀ (rs : List Rl), chkS rs = 0 → rulS (rts rs) [] = some rs
  | [], _ => rfl
  | r :: rs, h => by
    obtain ⟨c1, c2, c3, c4⟩ := chkS_cons h
    obtain ⟨ops, c⟩ := r
    obtain ⟨p, rfl⟩ := Int.eq_ofNat_of_zero_le (show 0 ≤ ops by simp at c1; omega)
    simp only at c1 c2 c3
    show rulS (tObj (rby ⟨(p : Int), c⟩) :: rts rs) [] = _
    rw [rulS]
    show (match rulF 128 (rby ⟨(p : Int), c⟩) with | none => none | some (p, k) => rulS (rts rs) ([] ++ [(⟨(p : Int), k⟩ : Rl)])) = _
    rw [rby_eq, rulF_make c3 (by omega)]
    show rulS (rts rs) ([] ++ _) = _
    rw [rulS_acc, rulS_rts rs c4]
    rfl
theorem rulSR_rts : ∀ (rs : List Rl), chkS rs = 0 → rulSR (rts rs) [] = some rs
  | [], _ => rfl
  | r :: rs, h => by
    obtain ⟨c1, c2, c3, c4⟩ := chkS_cons h
    obtain ⟨ops, c⟩ := r
    obtain ⟨p, rfl⟩ := Int.eq_ofNat_of_zero_le (show 0 ≤ ops by simp at c1; omega)
    simp only at c1 c2 c3
    show rulSR (tObj (rby ⟨(p : Int), c⟩) :: rts rs) [] = _
    rw [rulSR]
    show (match rulFR 128 (rby ⟨(p : Int), c⟩) with | none => none | some (p, k) => rulSR (rts rs) ([] ++ [(⟨(p : Int), k⟩ : Rl)])) = _
    rw [rby_eq, rulFR_make c3 (by omega)]
    show rulSR (rts rs) ([] ++ _) = _
    rw [rulSR_acc, rulSR_rts rs c4]
    rfl
theorem chkR_S {rs : List Rl} (h : chkR rs = 0) : chkS rs = 0 ∧ rs.length ≤ 8 := by
  unfold chkR at h
  split at h
  · omega
  · exact ⟨h, by omega⟩
theorem decR_ok {b : List UInt8} (h : (decR b).1 = 0) : b.length ≤ 4096 ∧ okL 1 (decR b).2 = true ∧ encL (decR b).2 = b := by
  unfold decR at h ⊢
  split at h
  · omega
  rename_i hl
  rw [if_neg hl]
  have := back_dec (b.length + 1) b 1 (by omega) h
  exact ⟨by omega, this⟩
/-- What the reference's Decode gives. -/
def decB (b : List UInt8) : Int × List Rl :=
  if (decR b).1 ≠ 0 then ((decR b).1, []) else match rulSR (decR b).2 [] with
    | none => (4, [])
    | some rs => if rE rs = 0 ∧ rM rs = b then (0, rs) else (4, [])
/-- What was decoded is encoded to the same bytes. -/
theorem decA_back {b : List UInt8} (h : (decA b).1 = 0) : chkR (decA b).2 = 0 ∧ rE (decA b).2 = 0 ∧ rM (decA b).2 = b := by
  unfold decA at h ⊢
  by_cases h0 : (decR b).1 = 0
  · rw [if_neg (by simp [h0])] at h ⊢
    obtain ⟨hl, hok, he⟩ := decR_ok h0
    cases e : rulS (decR b).2 [] with
    | none => rw [e] at h; exact absurd h (by decide)
    | some rs =>
      rw [e] at h
      by_cases hc : chkR rs = 0
      · simp only [if_pos hc]
        have ht := rulS_fwd _ _ e (chkR_S hc).1 hok
        unfold rE rM
        rw [if_pos hc, if_pos hc, ← ht]
        unfold encE encM
        rw [if_pos hok, if_pos hok, he, if_neg (by omega), if_neg (by omega)]
        exact ⟨hc, rfl, rfl⟩
      · simp only [if_neg hc] at h; exact absurd h (by decide)
  · rw [if_pos h0] at h; exact absurd h h0
/-- What was encoded is decoded as it was. -/
theorem decA_enc {rs : List Rl} (h : rE rs = 0) : decA (rM rs) = (0, rs) := by
  unfold rE at h
  by_cases hc : chkR rs = 0
  · rw [if_pos hc] at h
    unfold encE at h
    by_cases hok : okL 1 (rts rs) = true
    · rw [if_pos hok] at h
      by_cases hl : 4096 < (encL (rts rs)).length
      · rw [if_pos hl] at h; omega
      · have e : rM rs = encL (rts rs) := by unfold rM encM; rw [if_pos hc, if_pos hok, if_neg hl]
        have hd : decR (encL (rts rs)) = (0, rts rs) := by
          unfold decR
          rw [if_neg hl]
          exact back_enc _ _ 1 (Nat.lt_succ_self _) hok (by omega)
        unfold decA
        rw [e, hd, if_neg (by simp)]
        simp only [rulS_rts rs (chkR_S hc).1, if_pos hc]
    · rw [if_neg hok] at h; omega
  · rw [if_neg hc] at h; exact absurd h hc
theorem dec_same (b : List UInt8) : decB b = decA b := by
  by_cases h0 : (decR b).1 = 0
  · obtain ⟨hl, hok, he⟩ := decR_ok h0
    have key : ∀ rs, (rulSR (decR b).2 [] = some rs ∧ rE rs = 0 ∧ rM rs = b) ↔ (rulS (decR b).2 [] = some rs ∧ chkR rs = 0) := by
      intro rs
      constructor
      · rintro ⟨h1, h2, h3⟩
        have hc : chkR rs = 0 := by unfold rE at h2; by_cases hc : chkR rs = 0; exact hc; rw [if_neg hc] at h2; exact h2
        have := rulSR_fwd _ _ h1 (chkR_S hc).1 hok
        rw [this]
        exact ⟨rulS_rts rs (chkR_S hc).1, hc⟩
      · rintro ⟨h1, hc⟩
        have ht := rulS_fwd _ _ h1 (chkR_S hc).1 hok
        refine ⟨by rw [ht]; exact rulSR_rts rs (chkR_S hc).1, ?_⟩
        unfold rE rM
        rw [if_pos hc, if_pos hc, ← ht]
        unfold encE encM
        rw [if_pos hok, if_pos hok, he, if_neg (by omega), if_neg (by omega)]
        exact ⟨rfl, rfl⟩
    unfold decB decA
    rw [if_neg (by simp [h0]), if_neg (by simp [h0])]
    cases e1 : rulS (decR b).2 [] with
    | none =>
      cases e2 : rulSR (decR b).2 [] with
      | none => rfl
      | some rs =>
        show (if rE rs = 0 ∧ rM rs = b then (0, rs) else (4, [])) = ((4, []) : Int × List Rl)
        rw [if_neg]
        intro hh
        have := (key rs).1 ⟨e2, hh.1, hh.2⟩
        rw [e1] at this
        cases this.1
    | some us =>
      by_cases hc : chkR us = 0
      · have := (key us).2 ⟨e1, hc⟩
        rw [this.1]
        show (if rE us = 0 ∧ rM us = b then (0, us) else (4, [])) = (if chkR us = 0 then (0, us) else (4, []))
        rw [if_pos this.2, if_pos hc]
      · cases e2 : rulSR (decR b).2 [] with
        | none => 
          show ((4, []) : Int × List Rl) = if chkR us = 0 then (0, us) else (4, [])
          rw [if_neg hc]
        | some rs =>
          show (if rE rs = 0 ∧ rM rs = b then (0, rs) else (4, [])) = (if chkR us = 0 then (0, us) else (4, []))
          rw [if_neg hc, if_neg]
          intro hh
          have := (key rs).1 ⟨e2, hh.1, hh.2⟩
          rw [e1] at this
          have e3 := Option.some.inj this.1
          rw [e3] at hc
          exact hc this.2
  · unfold decB decA
    rw [if_pos h0, if_pos h0]
end Go.Proofs.YtjkbfogjfgnhiaaDoor
