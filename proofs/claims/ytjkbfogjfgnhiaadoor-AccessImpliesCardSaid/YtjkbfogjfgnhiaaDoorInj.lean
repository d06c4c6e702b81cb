/-
  Equal texts are of equal conditions: mathematics.
-/
import Derived.Test.YtjkbfogjfgnhiaaDoorRtx
namespace Go.Proofs.YtjkbfogjfgnhiaaDoor
set_option linter.unusedVariables false
set_option linter.unusedSimpArgs false
open Go.RowKit

def endB (s : List UInt8) : Prop := s = [] ∨ (∃ r, s = 44 :: r) ∨ (∃ r, s = 41 :: r)
theorem u8_inj {a b : Nat} (ha : a < 200) (hb : b < 200) (h : UInt8.ofNat a = UInt8.ofNat b) : a = b := by
  have := congrArg UInt8.toNat h
  rw [UInt8.toNat_ofNat', UInt8.toNat_ofNat'] at this
  omega
theorem end_digit {d : Nat} {s : List UInt8} (hd : d < 10) (h : endB (UInt8.ofNat (48 + d) :: s)) : False := by
  rcases h with h | ⟨r, h⟩ | ⟨r, h⟩
  · cases h
  · have h1 := (List.cons.inj h).1
    have := u8_inj (b := 44) (by omega) (by omega) h1
    omega
  · have h1 := (List.cons.inj h).1
    have := u8_inj (b := 41) (by omega) (by omega) h1
    omega
theorem dec_inj {n m : Nat} {s t : List UInt8} (hn : n < 100) (hm : m < 100) (hs : endB s) (ht : endB t) (h : decF n ++ s = decF m ++ t) : n = m ∧ s = t := by
  unfold decF at h
  by_cases h1 : n < 10
  · rw [if_pos h1] at h
    by_cases h2 : m < 10
    · rw [if_pos h2] at h
      obtain ⟨a, b⟩ := List.cons.inj h
      have := u8_inj (by omega) (by omega) a
      exact ⟨by omega, b⟩
    · rw [if_neg h2] at h
      obtain ⟨a, b⟩ := List.cons.inj h
      have b' : s = UInt8.ofNat (48 + m % 10) :: t := b
      rw [b'] at hs
      exact (end_digit (by omega) hs).elim
  · rw [if_neg h1] at h
    by_cases h2 : m < 10
    · rw [if_pos h2] at h
      obtain ⟨a, b⟩ := List.cons.inj h
      have b' : UInt8.ofNat (48 + n % 10) :: s = t := b
      rw [← b'] at ht
      exact (end_digit (by omega) ht).elim
    · rw [if_neg h2] at h
      obtain ⟨a, b⟩ := List.cons.inj h
      obtain ⟨c, d⟩ := List.cons.inj b
      have e1 := u8_inj (by omega) (by omega) a
      have e2 := u8_inj (by omega) (by omega) c
      exact ⟨by omega, d⟩

def pre : Nat → List UInt8
  | 0 => [110, 101, 118, 101, 114]
  | 1 => [97, 108, 119, 97, 121, 115]
  | 2 => [112, 105, 110, 32]
  | 3 => [107, 101, 121, 32]
  | 4 => [115, 116, 97, 116, 101, 32]
  | 5 => [108, 101, 118, 101, 108, 32]
  | 6 => [97, 110, 100, 40]
  | _ => [111, 114, 40]
theorem pre_len (o : Nat) : 2 ≤ (pre o).length := by
  match o with
  | 0 | 1 | 2 | 3 | 4 | 5 | 6 => decide
  | n + 7 => show 2 ≤ 3; decide
theorem pre_inj {o p : Nat} {x y : List UInt8} (ho : o < 8) (hp : p < 8) (h : pre o ++ x = pre p ++ y) : o = p ∧ x = y := by
  have h1 : (pre o).take 2 = (pre p).take 2 := by
    have := congrArg (List.take 2) h
    rwa [List.take_append_of_le_length (pre_len o), List.take_append_of_le_length (pre_len p)] at this
  have hq : ∀ a b : Fin 8, (pre a.val).take 2 = (pre b.val).take 2 → a = b := by decide
  have e : o = p := congrArg Fin.val (hq ⟨o, ho⟩ ⟨p, hp⟩ h1)
  subst e
  exact ⟨rfl, List.append_cancel_left h⟩
theorem txt_form (c : Cn) (hok : c.ok = true) : ∃ o : Nat, o < 8 ∧ c.op = (o : Int) ∧ ∃ x, c.txt = pre o ++ x ∧
    ((o < 2 ∧ c.n = 0 ∧ c.kids = [] ∧ x = []) ∨ (2 ≤ o ∧ o < 6 ∧ c.kids = [] ∧ ∃ m : Nat, m < 100 ∧ c.n = (m : Int) ∧ x = decF m) ∨ (6 ≤ o ∧ c.n = 0 ∧ 0 < c.kids.length ∧ okK c.kids = true ∧ x = jn (txtS c.kids) ++ [41])) := by
  have hp := ok_parts c
  rw [hok] at hp
  have hp' : okN c.op c.n c.kids.length = true ∧ okK c.kids = true := by simpa using hp.symm
  obtain ⟨hop, ho2, ho4, ho5, ho6, hok6, ho0⟩ := okN_op hp'.1
  have htx := txt_parts c
  have hnil : c.op < 6 → c.kids = [] := fun h => List.eq_nil_of_length_eq_zero (hok6 h)
  rcases hop with h | h | h | h | h | h | h | h <;> rw [h] at htx
  · exact ⟨0, by omega, h, [], htx, .inl ⟨by omega, ho0 (by omega), hnil (by omega), rfl⟩⟩
  · exact ⟨1, by omega, h, [], htx, .inl ⟨by omega, ho0 (by omega), hnil (by omega), rfl⟩⟩
  · obtain ⟨m, hm⟩ := Int.eq_ofNat_of_zero_le (show 0 ≤ c.n by omega)
    rw [hm] at htx
    exact ⟨2, by omega, h, decF m, htx, .inr (.inl ⟨by omega, by omega, hnil (by omega), m, by omega, hm, rfl⟩)⟩
  · obtain ⟨m, hm⟩ := Int.eq_ofNat_of_zero_le (show 0 ≤ c.n by omega)
    rw [hm] at htx
    exact ⟨3, by omega, h, decF m, htx, .inr (.inl ⟨by omega, by omega, hnil (by omega), m, by omega, hm, rfl⟩)⟩
  · obtain ⟨m, hm⟩ := Int.eq_ofNat_of_zero_le (show 0 ≤ c.n by omega)
    rw [hm] at htx
    exact ⟨4, by omega, h, decF m, htx, .inr (.inl ⟨by omega, by omega, hnil (by omega), m, by omega, hm, rfl⟩)⟩
  · obtain ⟨m, hm⟩ := Int.eq_ofNat_of_zero_le (show 0 ≤ c.n by omega)
    rw [hm] at htx
    exact ⟨5, by omega, h, decF m, htx, .inr (.inl ⟨by omega, by omega, hnil (by omega), m, by omega, hm, rfl⟩)⟩
  · exact ⟨6, by omega, h, jn (txtS c.kids) ++ [41], htx, .inr (.inr ⟨by omega, (ho6 (by omega)).1, (ho6 (by omega)).2, hp'.2, rfl⟩)⟩
  · exact ⟨7, by omega, h, jn (txtS c.kids) ++ [41], htx, .inr (.inr ⟨by omega, (ho6 (by omega)).1, (ho6 (by omega)).2, hp'.2, rfl⟩)⟩
theorem txt_ne {c : Cn} (hok : c.ok = true) : c.txt ≠ [] := by
  obtain ⟨o, _, _, x, h, _⟩ := txt_form c hok
  intro e
  have := congrArg List.length (h.symm.trans e)
  rw [List.length_append, List.length_nil] at this
  have := pre_len o
  omega
theorem rest_end (ls : List (List UInt8)) (s : List UInt8) : endB (rest ls ++ 41 :: s) := by
  cases ls with
  | nil => exact .inr (.inr ⟨s, rfl⟩)
  | cons x r => exact .inr (.inl ⟨_, rfl⟩)

theorem rest_cons (x : List UInt8) (r : List (List UInt8)) : rest (x :: r) = [44, 32] ++ (x ++ rest r) := by simp [rest]
mutual
theorem Cn.txt_inj : ∀ (a b : Cn), a.ok = true → b.ok = true → ∀ s t : List UInt8, endB s → endB t → a.txt ++ s = b.txt ++ t → a = b ∧ s = t
  | .mk op n ks, .mk op' n' ks', ha, hb, s, t, hs, ht, h => by
    have hK := kids_inj ks ks'
    obtain ⟨o, ho, e1, x, hx, hc⟩ := txt_form _ ha
    obtain ⟨p, hp, e2, y, hy, hd⟩ := txt_form _ hb
    rw [hx, hy, List.append_assoc, List.append_assoc] at h
    obtain ⟨rfl, hxy⟩ := pre_inj ho hp h
    clear hx hy h
    replace e1 : op = (o : Int) := e1
    replace e2 : op' = (o : Int) := e2
    rcases hc with ⟨c0, c1, c2, rfl⟩ | ⟨c0, c0', c2, m, hm, c1, rfl⟩ | ⟨c0, c1, cp, cK, rfl⟩
    · rcases hd with ⟨d0, d1, d2, rfl⟩ | ⟨d0, _⟩ | ⟨d0, _⟩
      · replace c1 : n = 0 := c1
        replace c2 : ks = [] := c2
        replace d1 : n' = 0 := d1
        replace d2 : ks' = [] := d2
        exact ⟨by rw [e1, e2, c1, c2, d1, d2], hxy⟩
      · omega
      · omega
    · rcases hd with ⟨d0, _⟩ | ⟨d0, d0', d2, q, hq, d1, rfl⟩ | ⟨d0, _⟩
      · omega
      · obtain ⟨rfl, hst⟩ := dec_inj hm hq hs ht hxy
        replace c1 : n = (m : Int) := c1
        replace c2 : ks = [] := c2
        replace d1 : n' = (m : Int) := d1
        replace d2 : ks' = [] := d2
        exact ⟨by rw [e1, e2, c1, c2, d1, d2], hst⟩
      · omega
    · rcases hd with ⟨d0, _⟩ | ⟨d0, d0', _⟩ | ⟨d0, d1, dp, dK, rfl⟩
      · omega
      · omega
      · replace c1 : n = 0 := c1
        replace d1 : n' = 0 := d1
        rw [List.append_assoc, List.append_assoc] at hxy
        obtain ⟨hk, hst⟩ := hK cK dK cp dp s t hxy
        exact ⟨by rw [e1, e2, c1, d1, hk], hst⟩
theorem kids_inj : ∀ (ts us : List Cn), okK ts = true → okK us = true → 0 < ts.length → 0 < us.length → ∀ s t : List UInt8, jn (txtS ts) ++ ([41] ++ s) = jn (txtS us) ++ ([41] ++ t) → ts = us ∧ s = t
  | [], us, _, _, h, _, _, _, _ => absurd h (by simp)
  | a :: ts, us, hts, hus, _, hup, s, t, h => by
    cases us with
    | nil => exact absurd hup (by simp)
    | cons b us =>
      have hA := Cn.txt_inj a b
      have hR := rest_inj ts us
      rw [okK, Bool.and_eq_true] at hts hus
      rw [txtS, txtS, jn_rest, jn_rest, List.append_assoc, List.append_assoc] at h
      obtain ⟨rfl, h2⟩ := hA hts.1 hus.1 _ _ (rest_end _ s) (rest_end _ t) h
      obtain ⟨rfl, h3⟩ := hR hts.2 hus.2 s t h2
      exact ⟨rfl, h3⟩
theorem rest_inj : ∀ (ts us : List Cn), okK ts = true → okK us = true → ∀ s t : List UInt8, rest (txtS ts) ++ ([41] ++ s) = rest (txtS us) ++ ([41] ++ t) → ts = us ∧ s = t
  | [], us, _, _, s, t, h => by
    cases us with
    | nil => exact ⟨rfl, (List.cons.inj h).2⟩
    | cons b us =>
      have h1 := (List.cons.inj h).1
      exact absurd h1 (by decide)
  | a :: ts, us, hts, hus, s, t, h => by
    cases us with
    | nil =>
      have h1 := (List.cons.inj h).1
      exact absurd h1 (by decide)
    | cons b us =>
      have hA := Cn.txt_inj a b
      have hR := rest_inj ts us
      rw [okK, Bool.and_eq_true] at hts hus
      have h' : a.txt ++ (rest (txtS ts) ++ ([41] ++ s)) = b.txt ++ (rest (txtS us) ++ ([41] ++ t)) := by
        rw [txtS, txtS, rest_cons, rest_cons, List.append_assoc, List.append_assoc, List.append_assoc, List.append_assoc] at h
        exact List.append_cancel_left h
      obtain ⟨rfl, h2⟩ := hA hts.1 hus.1 _ _ (rest_end _ s) (rest_end _ t) h'
      obtain ⟨rfl, h3⟩ := hR hts.2 hus.2 s t h2
      exact ⟨rfl, h3⟩
end
theorem txtM_ne {c : Cn} (h : txtM c ≠ []) : c.ok = true ∧ txtM c = c.txt := by
  unfold txtM at h ⊢
  by_cases h0 : chkC 1 3 c = 0
  · rw [if_pos h0]; exact ⟨chk_ok h0, rfl⟩
  · rw [if_neg h0] at h; exact absurd rfl h
theorem txtM_sam {a b : Cn} (ha : txtM a ≠ []) (hb : txtM b ≠ []) : decide (txtM a = txtM b) = a.sam b := by
  obtain ⟨a1, a2⟩ := txtM_ne ha
  obtain ⟨b1, b2⟩ := txtM_ne hb
  rw [Bool.eq_iff_iff, decide_eq_true_eq, Cn.sam_eq]
  constructor
  · intro h
    rw [a2, b2] at h
    exact (Cn.txt_inj a b a1 b1 [] [] (.inl rfl) (.inl rfl) (by rw [h])).1
  · intro h; rw [h]
end Go.Proofs.YtjkbfogjfgnhiaaDoor
