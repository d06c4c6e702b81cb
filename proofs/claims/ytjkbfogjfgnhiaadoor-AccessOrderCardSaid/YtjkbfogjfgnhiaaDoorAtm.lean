/-
  Atoms: what the statuses that are made of them tell (mathematics).
-/
import Derived.Test.YtjkbfogjfgnhiaaDoorIpm
namespace Go.Proofs.YtjkbfogjfgnhiaaDoor
set_option linter.unusedVariables false
set_option linter.unusedSimpArgs false
open Go.RowKit

structure Ato where
  (op n : Int)
def Ato.eqB (x : Ato) (o n : Int) : Bool := decide (x.op = o) && decide (x.n = n)
theorem Ato.eqB_iff (x : Ato) (o n : Int) : x.eqB o n = true ↔ x = ⟨o, n⟩ := by
  cases x
  simp only [Ato.eqB, Bool.and_eq_true, decide_eq_true_eq, Ato.mk.injEq]
def atAdd (l : List Ato) (o n : Int) : List Ato := if l.any (fun x => x.eqB o n) then l else l ++ [⟨o, n⟩]
def atBit (n b : Int) (l : List Ato) : List Ato := if lvB n b then atAdd l 5 b else l
def atLev (n : Int) (l : List Ato) : List Ato := atBit n 32 (atBit n 16 (atBit n 8 (atBit n 4 (atBit n 2 (atBit n 1 l)))))
def atOwn (op n : Int) (l : List Ato) : List Ato := if op = 5 then atLev n l else if op = 2 ∨ op = 3 ∨ op = 4 then atAdd l op n else l
mutual
/-- What atoms answers. -/
def Cn.atm : Cn → List Ato → List Ato
  | .mk op n kids, l => atOwn op n (atmK kids l)
def atmK : List Cn → List Ato → List Ato | [], l => l | t :: ts, l => atmK ts (t.atm l)
end
theorem atm_parts (t : Cn) (l : List Ato) : t.atm l = atOwn t.op t.n (atmK t.kids l) := by cases t; rw [Cn.atm]; rfl
theorem atmK_drop (ts : List Cn) (k : Nat) (h : k < ts.length) (l : List Ato) : atmK (ts.drop k) l = atmK (ts.drop (k + 1)) (ts[k].atm l) := by rw [List.drop_eq_getElem_cons h, atmK]
theorem atAdd_len (l : List Ato) (o n : Int) : (atAdd l o n).length ≤ l.length + 1 := by
  unfold atAdd; split
  · omega
  · simp
theorem atBit_len (n b : Int) (l : List Ato) : (atBit n b l).length ≤ l.length + 1 := by
  unfold atBit; split
  · exact atAdd_len _ _ _
  · omega
theorem atLev_len (n : Int) (l : List Ato) : (atLev n l).length ≤ l.length + 6 := by
  unfold atLev
  have h1 := atBit_len n 1 l
  have h2 := atBit_len n 2 (atBit n 1 l)
  have h3 := atBit_len n 4 (atBit n 2 (atBit n 1 l))
  have h4 := atBit_len n 8 (atBit n 4 (atBit n 2 (atBit n 1 l)))
  have h5 := atBit_len n 16 (atBit n 8 (atBit n 4 (atBit n 2 (atBit n 1 l))))
  have h6 := atBit_len n 32 (atBit n 16 (atBit n 8 (atBit n 4 (atBit n 2 (atBit n 1 l)))))
  omega
theorem atOwn_len (op n : Int) (l : List Ato) : (atOwn op n l).length ≤ l.length + 6 := by
  unfold atOwn; split
  · exact atLev_len _ _
  · split
    · have := atAdd_len l op n; omega
    · omega
mutual
theorem Cn.atm_len : ∀ (t : Cn) (l : List Ato), (t.atm l).length ≤ l.length + 6 * t.cnt
  | .mk op n kids, l => by
    have h1 := atmK_len kids l
    have h2 := atOwn_len op n (atmK kids l)
    rw [Cn.atm, Cn.cnt]; omega
theorem atmK_len : ∀ (ts : List Cn) (l : List Ato), (atmK ts l).length ≤ l.length + 6 * cntK ts
  | [], l => by rw [atmK, cntK]; omega
  | t :: ts, l => by
    have h1 := Cn.atm_len t l
    have h2 := atmK_len ts (t.atm l)
    rw [atmK, cntK]; omega
end

/-- With an atom. -/
def Sc.wit (s : Sc) (o n : Int) : Sc := if o = 2 then ⟨s.pins + 2 ^ n.toNat, s.keys, s.state, s.level⟩ else if o = 3 then ⟨s.pins, s.keys + 2 ^ n.toNat, s.state, s.level⟩ else if o = 4 then ⟨s.pins, s.keys, if s.state < n then n else s.state, s.level⟩ else if o = 5 then ⟨s.pins, s.keys, s.state, s.level + n⟩ else s
/-- What implied answers. -/
def impR (a b : Cn) : List Ato → Sc → Bool
  | [], s => !a.sat s || b.sat s
  | x :: l, s => impR a b l s && impR a b l (s.wit x.op x.n)

theorem impR_all {a b : Cn} (h : ∀ s, a.sat s = true → b.sat s = true) : ∀ (l : List Ato) (s : Sc), impR a b l s = true
  | [], s => by
    rw [impR]
    cases e : a.sat s with
    | false => rfl
    | true => rw [h s e]; rfl
  | x :: l, s => by rw [impR, impR_all h l, impR_all h l]; rfl

/-- Whether an atom is satisfied. -/
def Ato.sat (x : Ato) (s : Sc) : Bool := if x.op = 2 then tbI s.pins x.n.toNat else if x.op = 3 then tbI s.keys x.n.toNat else if x.op = 4 then decide (x.n ≤ s.state) else lvB s.level x.n
def bitN (n : Int) : Prop := n = 1 ∨ n = 2 ∨ n = 4 ∨ n = 8 ∨ n = 16 ∨ n = 32
def Ato.good (x : Ato) : Prop := (x.op = 2 ∧ 1 ≤ x.n ∧ x.n ≤ 8) ∨ (x.op = 3 ∧ 1 ≤ x.n ∧ x.n ≤ 8) ∨ (x.op = 4 ∧ 1 ≤ x.n ∧ x.n ≤ 5) ∨ (x.op = 5 ∧ bitN x.n)
theorem bit_log {n : Int} (h : bitN n) : ∃ j : Nat, j < 6 ∧ n = 2 ^ j := by
  rcases h with rfl | rfl | rfl | rfl | rfl | rfl
  · exact ⟨0, by omega, rfl⟩
  · exact ⟨1, by omega, rfl⟩
  · exact ⟨2, by omega, rfl⟩
  · exact ⟨3, by omega, rfl⟩
  · exact ⟨4, by omega, rfl⟩
  · exact ⟨5, by omega, rfl⟩
theorem lv_bit (x : Int) (j : Nat) (h : j < 6) : lvB x (2 ^ j) = tbI x j := bit_ref x j (by omega)
theorem pow_inj : ∀ i < 6, ∀ j < 6, (2 : Int) ^ i = 2 ^ j → i = j := by decide +kernel

/-- The status that is made of those atoms that are satisfied in S. -/
def Sc.fin (S : Sc) : List Ato → Sc → Sc
  | [], s => s
  | x :: l, s => if x.sat S then Sc.fin S l (s.wit x.op x.n) else Sc.fin S l s
theorem impR_fin {a b : Cn} (S : Sc) : ∀ (l : List Ato) (s : Sc), impR a b l s = true → a.sat (Sc.fin S l s) = true → b.sat (Sc.fin S l s) = true
  | [], s => by
    intro h h1
    rw [Sc.fin] at h1 ⊢
    rw [impR, h1] at h
    simpa using h
  | x :: l, s => by
    intro h
    rw [impR, Bool.and_eq_true] at h
    rw [Sc.fin]
    by_cases hx : x.sat S = true
    · rw [if_pos hx]; exact impR_fin S l _ h.2
    · rw [if_neg hx]; exact impR_fin S l _ h.1

/-- Adding an atom that is not yet satisfied. -/
theorem wit_bit {x y : Ato} (hx : x.good) (hy : y.good) (s : Sc) (h4 : x.op ≠ 4) (hs : x.sat s = false) : y.sat (s.wit x.op x.n) = (y.eqB x.op x.n || y.sat s) := by
  obtain ⟨xo, xn⟩ := x
  obtain ⟨yo, yn⟩ := y
  unfold Ato.good at hx hy
  unfold Ato.sat Sc.wit Ato.eqB at *
  simp only at *
  rcases hx with ⟨rfl, h1, h2⟩ | ⟨rfl, h1, h2⟩ | ⟨rfl, h1, h2⟩ | ⟨rfl, hb⟩
  · rcases hy with ⟨rfl, g1, g2⟩ | ⟨rfl, g1, g2⟩ | ⟨rfl, g1, g2⟩ | ⟨rfl, gb⟩
    · simp only [reduceIte] at hs ⊢
      rw [tbI_add _ _ _ (by omega) (by omega) hs]
      congr 1
      simp only [decide_true, Bool.true_and, decide_eq_decide]
      omega
    all_goals simp [Int.reduceEq]
  · rcases hy with ⟨rfl, g1, g2⟩ | ⟨rfl, g1, g2⟩ | ⟨rfl, g1, g2⟩ | ⟨rfl, gb⟩
    · simp [Int.reduceEq]
    · simp only [reduceIte, Int.reduceEq] at hs ⊢
      rw [tbI_add _ _ _ (by omega) (by omega) hs]
      congr 1
      simp only [decide_true, Bool.true_and, decide_eq_decide]
      omega
    all_goals simp [Int.reduceEq]
  · exact absurd rfl h4
  · rcases hy with ⟨rfl, g1, g2⟩ | ⟨rfl, g1, g2⟩ | ⟨rfl, g1, g2⟩ | ⟨rfl, gb⟩
    · simp [Int.reduceEq]
    · simp [Int.reduceEq]
    · simp [Int.reduceEq]
    · simp only [reduceIte, Int.reduceEq] at hs ⊢
      obtain ⟨i, hi, rfl⟩ := bit_log hb
      obtain ⟨j, hj, rfl⟩ := bit_log gb
      rw [lv_bit _ _ hi] at hs
      rw [lv_bit _ _ hj, lv_bit _ _ hj, tbI_add _ _ _ (by omega) (by omega) hs]
      congr 1
      simp only [decide_true, Bool.true_and, decide_eq_decide]
      exact ⟨fun h => by rw [h], fun h => (pow_inj j hj i hi h).symm⟩
theorem wit_state {x y : Ato} (hy : y.good) (s : Sc) (h4 : x.op = 4) : y.sat (s.wit x.op x.n) = ((decide (y.op = 4) && decide (y.n ≤ x.n)) || y.sat s) := by
  obtain ⟨xo, xn⟩ := x
  obtain ⟨yo, yn⟩ := y
  simp only at h4
  subst h4
  unfold Ato.good at hy
  unfold Ato.sat Sc.wit
  simp only [reduceIte, Int.reduceEq] at *
  rcases hy with ⟨rfl, g1, g2⟩ | ⟨rfl, g1, g2⟩ | ⟨rfl, g1, g2⟩ | ⟨rfl, gb⟩
  · simp [Int.reduceEq]
  · simp [Int.reduceEq]
  · simp only [reduceIte, Int.reduceEq, decide_true, Bool.true_and]
    rw [Bool.eq_iff_iff, Bool.or_eq_true, decide_eq_true_eq, decide_eq_true_eq, decide_eq_true_eq]
    split <;> omega
  · simp [Int.reduceEq]

theorem fin_sat (S : Sc) : ∀ (l : List Ato) (s : Sc), (∀ x ∈ l, x.good) → l.Nodup → (∀ x ∈ l, x.op ≠ 4 → x.sat s = false) → ∀ y : Ato, y.good →
    (y.sat (Sc.fin S l s) = true ↔ y.sat s = true ∨ (y.op ≠ 4 ∧ y ∈ l ∧ y.sat S = true) ∨ (y.op = 4 ∧ ∃ x ∈ l, x.op = 4 ∧ x.sat S = true ∧ y.n ≤ x.n))
  | [], s, _, _, _, y, hy => by
    rw [Sc.fin]
    simp
  | x :: l, s, hg, hn, hf, y, hy => by
    have hgx := hg x (by simp)
    have hgl : ∀ z ∈ l, z.good := fun z hz => hg z (by simp [hz])
    have hnl := (List.nodup_cons.1 hn).2
    have hxl := (List.nodup_cons.1 hn).1
    rw [Sc.fin]
    by_cases hx : x.sat S = true
    · rw [if_pos hx]
      by_cases h4 : x.op = 4
      · have hf' : ∀ z ∈ l, z.op ≠ 4 → z.sat (s.wit x.op x.n) = false := fun z hz h => by
          rw [wit_state (hgl z hz) s h4, hf z (by simp [hz]) h, decide_eq_false h]; rfl
        rw [fin_sat S l _ hgl hnl hf' y hy, wit_state hy s h4, Bool.or_eq_true, Bool.and_eq_true, decide_eq_true_eq, decide_eq_true_eq]
        constructor
        · rintro ((⟨a, b⟩ | h) | ⟨a, b, c⟩ | ⟨a, z, hz, b, c, d⟩)
          · exact .inr (.inr ⟨a, x, by simp, h4, hx, b⟩)
          · exact .inl h
          · exact .inr (.inl ⟨a, by simp [b], c⟩)
          · exact .inr (.inr ⟨a, z, by simp [hz], b, c, d⟩)
        · rintro (h | ⟨a, b, c⟩ | ⟨a, z, hz, b, c, d⟩)
          · exact .inl (.inr h)
          · rcases List.mem_cons.1 b with rfl | b
            · exact absurd h4 a
            · exact .inr (.inl ⟨a, b, c⟩)
          · rcases List.mem_cons.1 hz with rfl | hz
            · exact .inl (.inl ⟨a, d⟩)
            · exact .inr (.inr ⟨a, z, hz, b, c, d⟩)
      · have hxs := hf x (by simp) h4
        have hf' : ∀ z ∈ l, z.op ≠ 4 → z.sat (s.wit x.op x.n) = false := fun z hz h => by
          rw [wit_bit hgx (hgl z hz) s h4 hxs, hf z (by simp [hz]) h, Bool.or_false]
          cases e : z.eqB x.op x.n with
          | false => rfl
          | true =>
            have hzx : z = x := (z.eqB_iff x.op x.n).1 e
            rw [hzx] at hz
            exact absurd hz hxl
        rw [fin_sat S l _ hgl hnl hf' y hy, wit_bit hgx hy s h4 hxs, Bool.or_eq_true, y.eqB_iff]
        constructor
        · rintro ((rfl | h) | ⟨a, b, c⟩ | ⟨a, z, hz, b, c, d⟩)
          · exact .inr (.inl ⟨h4, by simp, hx⟩)
          · exact .inl h
          · exact .inr (.inl ⟨a, by simp [b], c⟩)
          · exact .inr (.inr ⟨a, z, by simp [hz], b, c, d⟩)
        · rintro (h | ⟨a, b, c⟩ | ⟨a, z, hz, b, c, d⟩)
          · exact .inl (.inr h)
          · rcases List.mem_cons.1 b with rfl | b
            · exact .inl (.inl rfl)
            · exact .inr (.inl ⟨a, b, c⟩)
          · rcases List.mem_cons.1 hz with rfl | hz
            · exact absurd b h4
            · exact .inr (.inr ⟨a, z, hz, b, c, d⟩)
    · rw [if_neg hx, fin_sat S l s hgl hnl (fun z hz h => hf z (by simp [hz]) h) y hy]
      constructor
      · rintro (h | ⟨a, b, c⟩ | ⟨a, z, hz, b, c, d⟩)
        · exact .inl h
        · exact .inr (.inl ⟨a, by simp [b], c⟩)
        · exact .inr (.inr ⟨a, z, by simp [hz], b, c, d⟩)
      · rintro (h | ⟨a, b, c⟩ | ⟨a, z, hz, b, c, d⟩)
        · exact .inl h
        · rcases List.mem_cons.1 b with rfl | b
          · exact absurd c hx
          · exact .inr (.inl ⟨a, b, c⟩)
        · rcases List.mem_cons.1 hz with rfl | hz
          · exact absurd c hx
          · exact .inr (.inr ⟨a, z, hz, b, c, d⟩)
theorem zero_sat {y : Ato} (hy : y.good) : y.sat Sc.zero = false := by
  obtain ⟨yo, yn⟩ := y
  unfold Ato.good at hy
  unfold Ato.sat Sc.zero
  simp only at *
  have h0 : ∀ k < 9, tbI 0 k = false := by decide +kernel
  rcases hy with ⟨rfl, g1, g2⟩ | ⟨rfl, g1, g2⟩ | ⟨rfl, g1, g2⟩ | ⟨rfl, gb⟩
  · simp only [reduceIte]; exact h0 _ (by omega)
  · simp only [reduceIte, Int.reduceEq]; exact h0 _ (by omega)
  · simp only [reduceIte, Int.reduceEq, decide_eq_false_iff_not]; omega
  · simp only [reduceIte, Int.reduceEq]
    obtain ⟨j, hj, rfl⟩ := bit_log gb
    rw [lv_bit _ _ hj]
    exact h0 _ (by omega)
theorem fin_agree (S : Sc) (l : List Ato) (hg : ∀ x ∈ l, x.good) (hn : l.Nodup) : ∀ y ∈ l, y.sat (Sc.fin S l Sc.zero) = y.sat S := by
  intro y hy
  rw [Bool.eq_iff_iff, fin_sat S l _ hg hn (fun x hx _ => zero_sat (hg x hx)) y (hg y hy), zero_sat (hg y hy)]
  constructor
  · rintro (h | ⟨_, _, h⟩ | ⟨a, z, hz, b, c, d⟩)
    · cases h
    · exact h
    · unfold Ato.sat at c ⊢
      rw [b] at c
      rw [a]
      simp only [reduceIte, Int.reduceEq, decide_eq_true_eq] at c ⊢
      omega
  · intro h
    by_cases h4 : y.op = 4
    · exact .inr (.inr ⟨h4, y, hy, h4, h, Int.le_refl _⟩)
    · exact .inr (.inl ⟨h4, hy, h⟩)

theorem atAdd_mem (l : List Ato) (o n : Int) (x : Ato) : x ∈ atAdd l o n ↔ x ∈ l ∨ x = ⟨o, n⟩ := by
  unfold atAdd
  split
  · rename_i h
    obtain ⟨y, hy, e⟩ := List.any_eq_true.1 h
    have e := (y.eqB_iff o n).1 e
    exact ⟨.inl, fun h => h.elim id fun h => by rw [h, ← e]; exact hy⟩
  · simp
theorem atAdd_nodup {l : List Ato} (o n : Int) (h : l.Nodup) : (atAdd l o n).Nodup := by
  unfold atAdd
  split
  · exact h
  · rename_i hh
    refine List.nodup_append.2 ⟨h, by simp, ?_⟩
    intro a ha b hb e
    obtain rfl : b = ⟨o, n⟩ := by simpa using hb
    exact hh (List.any_eq_true.2 ⟨a, ha, (a.eqB_iff o n).2 e⟩)
/-- A list of atoms without repetition, each as the conditions have them. -/
def AtOk (l : List Ato) : Prop := (∀ x ∈ l, x.good) ∧ l.Nodup
theorem atAdd_ok {l : List Ato} {o n : Int} (h : AtOk l) (hx : Ato.good ⟨o, n⟩) : AtOk (atAdd l o n) :=
  ⟨fun x hm => ((atAdd_mem l o n x).1 hm).elim (h.1 x) fun e => e ▸ hx, atAdd_nodup o n h.2⟩
theorem atBit_ok {l : List Ato} {n b : Int} (h : AtOk l) (hb : bitN b) : AtOk (atBit n b l) := by
  unfold atBit; split
  · exact atAdd_ok h (.inr (.inr (.inr ⟨rfl, hb⟩)))
  · exact h
theorem atBit_sub {l : List Ato} {n b : Int} {x : Ato} (h : x ∈ l) : x ∈ atBit n b l := by
  unfold atBit; split
  · exact (atAdd_mem _ _ _ _).2 (.inl h)
  · exact h
theorem atBit_new {l : List Ato} {n b : Int} (h : lvB n b = true) : (⟨5, b⟩ : Ato) ∈ atBit n b l := by
  unfold atBit; rw [if_pos h]; exact (atAdd_mem _ _ _ _).2 (.inr rfl)
theorem atLev_ok {l : List Ato} {n : Int} (h : AtOk l) : AtOk (atLev n l) := by
  unfold atLev
  exact atBit_ok (atBit_ok (atBit_ok (atBit_ok (atBit_ok (atBit_ok h (by unfold bitN; omega)) (by unfold bitN; omega)) (by unfold bitN; omega)) (by unfold bitN; omega)) (by unfold bitN; omega)) (by unfold bitN; omega)
theorem atLev_sub {l : List Ato} {n : Int} {x : Ato} (h : x ∈ l) : x ∈ atLev n l := by
  unfold atLev
  exact atBit_sub (atBit_sub (atBit_sub (atBit_sub (atBit_sub (atBit_sub h)))))
theorem atLev_new {l : List Ato} {n b : Int} (hb : bitN b) (h : lvB n b = true) : (⟨5, b⟩ : Ato) ∈ atLev n l := by
  unfold atLev
  rcases hb with rfl | rfl | rfl | rfl | rfl | rfl
  · exact atBit_sub (atBit_sub (atBit_sub (atBit_sub (atBit_sub (atBit_new h)))))
  · exact atBit_sub (atBit_sub (atBit_sub (atBit_sub (atBit_new h))))
  · exact atBit_sub (atBit_sub (atBit_sub (atBit_new h)))
  · exact atBit_sub (atBit_sub (atBit_new h))
  · exact atBit_sub (atBit_new h)
  · exact atBit_new h
theorem atOwn_sub {l : List Ato} {op n : Int} {x : Ato} (h : x ∈ l) : x ∈ atOwn op n l := by
  unfold atOwn; split
  · exact atLev_sub h
  · split
    · exact (atAdd_mem _ _ _ _).2 (.inl h)
    · exact h
mutual
theorem Cn.atm_sub : ∀ (t : Cn) (l : List Ato) (x : Ato), x ∈ l → x ∈ t.atm l
  | .mk op n kids, l, x, h => by rw [Cn.atm]; exact atOwn_sub (atmK_sub kids l x h)
theorem atmK_sub : ∀ (ts : List Cn) (l : List Ato) (x : Ato), x ∈ l → x ∈ atmK ts l
  | [], l, x, h => by rw [atmK]; exact h
  | t :: ts, l, x, h => by rw [atmK]; exact atmK_sub ts _ x (Cn.atm_sub t l x h)
end
theorem atOwn_ok {l : List Ato} {op n : Int} {k : Nat} (h : AtOk l) (hn : okN op n k = true) : AtOk (atOwn op n l) := by
  obtain ⟨h0, h1, h2, h3, h4, h5, h6⟩ := okN_op hn
  unfold atOwn
  split
  · exact atLev_ok h
  · split
    · rename_i hh
      refine atAdd_ok h ?_
      unfold Ato.good
      simp only
      rcases hh with rfl | rfl | rfl
      · exact .inl ⟨rfl, h1 (.inl rfl)⟩
      · exact .inr (.inl ⟨rfl, h1 (.inr rfl)⟩)
      · exact .inr (.inr (.inl ⟨rfl, h2 rfl⟩))
    · exact h
mutual
theorem Cn.atm_ok : ∀ (t : Cn) (l : List Ato), t.ok = true → AtOk l → AtOk (t.atm l)
  | .mk op n kids, l, hok, h => by
    rw [Cn.ok, Bool.and_eq_true] at hok
    rw [Cn.atm]
    exact atOwn_ok (atmK_ok kids l hok.2 h) hok.1
theorem atmK_ok : ∀ (ts : List Cn) (l : List Ato), okK ts = true → AtOk l → AtOk (atmK ts l)
  | [], l, _, h => by rw [atmK]; exact h
  | t :: ts, l, hok, h => by
    rw [okK, Bool.and_eq_true] at hok
    rw [atmK]
    exact atmK_ok ts _ hok.2 (Cn.atm_ok t l hok.1 h)
end
theorem lv_agree {n : Int} (h1 : 1 ≤ n) (h2 : n ≤ 51) (l l' : Int) (h : ∀ b, bitN b → lvB n b = true → lvB l b = lvB l' b) : lvB l n = lvB l' n := by
  have hs : ∀ k, 6 ≤ k → k < 9 → tbI n k = false := by
    intro k hk1 hk2
    have : k = 6 ∨ k = 7 ∨ k = 8 := by omega
    rcases this with rfl | rfl | rfl <;> (simp only [tbI, decide_eq_false_iff_not, Int.reducePow]; omega)
  have hk6 : ∀ k, k < 6 → bitN (2 ^ k) := by
    intro k hk
    unfold bitN
    match k, hk with
    | 0, _ => exact .inl rfl
    | 1, _ => exact .inr (.inl rfl)
    | 2, _ => exact .inr (.inr (.inl rfl))
    | 3, _ => exact .inr (.inr (.inr (.inl rfl)))
    | 4, _ => exact .inr (.inr (.inr (.inr (.inl rfl))))
    | 5, _ => exact .inr (.inr (.inr (.inr (.inr rfl))))
    | k + 6, h => exact absurd h (by omega)
  rw [lvB_sub _ _ h1 h2, lvB_sub _ _ h1 h2, Bool.eq_iff_iff, subB_iff, subB_iff]
  have key : ∀ k, k < 9 → tbI n k = true → tbI l k = tbI l' k := by
    intro k hk hb
    rcases Nat.lt_or_ge k 6 with h6 | h6
    · have := h _ (hk6 k h6) (by rw [lv_bit _ _ h6]; exact hb)
      rwa [lv_bit _ _ h6, lv_bit _ _ h6] at this
    · rw [hs k h6 hk] at hb; cases hb
  constructor
  · intro g k hk hb; rw [← key k hk hb]; exact g k hk hb
  · intro g k hk hb; rw [key k hk hb]; exact g k hk hb
theorem sat_leaf (s s' : Sc) (op n : Int) (kids : List Cn) (l : List Ato) (hok : okN op n kids.length = true) (h : ∀ x ∈ atOwn op n l, x.sat s = x.sat s') (hall : allS s kids = allS s' kids) (hany : anyS s kids = anyS s' kids) : (Cn.mk op n kids).sat s = (Cn.mk op n kids).sat s' := by
  obtain ⟨h0, h1, h2, h3, h4, h5, h6⟩ := okN_op hok
  rw [Cn.sat, Cn.sat]
  rcases h0 with rfl | rfl | rfl | rfl | rfl | rfl | rfl | rfl
  · simp only [reduceIte, Int.reduceEq]
  · simp only [reduceIte, Int.reduceEq]
  · have hh := h ⟨2, n⟩ (by unfold atOwn; rw [if_neg (by omega), if_pos (by omega)]; exact (atAdd_mem _ _ _ _).2 (.inr rfl))
    simp only [Ato.sat, reduceIte, Int.reduceEq] at hh ⊢
    exact hh
  · have hh := h ⟨3, n⟩ (by unfold atOwn; rw [if_neg (by omega), if_pos (by omega)]; exact (atAdd_mem _ _ _ _).2 (.inr rfl))
    simp only [Ato.sat, reduceIte, Int.reduceEq] at hh ⊢
    exact hh
  · have hh := h ⟨4, n⟩ (by unfold atOwn; rw [if_neg (by omega), if_pos (by omega)]; exact (atAdd_mem _ _ _ _).2 (.inr rfl))
    simp only [Ato.sat, reduceIte, Int.reduceEq] at hh ⊢
    exact hh
  · simp only [reduceIte, Int.reduceEq]
    refine lv_agree (h3 rfl).1 (h3 rfl).2 _ _ fun b hb hn => ?_
    have hh := h ⟨5, b⟩ (by unfold atOwn; rw [if_pos rfl]; exact atLev_new hb hn)
    simp only [Ato.sat, reduceIte, Int.reduceEq] at hh
    exact hh
  · simp only [reduceIte, Int.reduceEq]; exact hall
  · simp only [reduceIte, Int.reduceEq]; exact hany
mutual
theorem Cn.sat_agree (s s' : Sc) : ∀ (t : Cn) (l : List Ato), t.ok = true → (∀ x ∈ t.atm l, x.sat s = x.sat s') → t.sat s = t.sat s'
  | .mk op n kids, l, hok, h => by
    rw [Cn.ok, Bool.and_eq_true] at hok
    rw [Cn.atm] at h
    have hK : ∀ x ∈ atmK kids l, x.sat s = x.sat s' := fun x hx => h x (atOwn_sub hx)
    exact sat_leaf s s' op n kids _ hok.1 h (allS_agree s s' kids l hok.2 hK) (anyS_agree s s' kids l hok.2 hK)
theorem allS_agree (s s' : Sc) : ∀ (ts : List Cn) (l : List Ato), okK ts = true → (∀ x ∈ atmK ts l, x.sat s = x.sat s') → allS s ts = allS s' ts
  | [], l, _, _ => by rw [allS, allS]
  | t :: ts, l, hok, h => by
    rw [okK, Bool.and_eq_true] at hok
    rw [atmK] at h
    rw [allS, allS, Cn.sat_agree s s' t l hok.1 (fun x hx => h x (atmK_sub ts _ x hx)), allS_agree s s' ts _ hok.2 h]
theorem anyS_agree (s s' : Sc) : ∀ (ts : List Cn) (l : List Ato), okK ts = true → (∀ x ∈ atmK ts l, x.sat s = x.sat s') → anyS s ts = anyS s' ts
  | [], l, _, _ => by rw [anyS, anyS]
  | t :: ts, l, hok, h => by
    rw [okK, Bool.and_eq_true] at hok
    rw [atmK] at h
    rw [anyS, anyS, Cn.sat_agree s s' t l hok.1 (fun x hx => h x (atmK_sub ts _ x hx)), anyS_agree s s' ts _ hok.2 h]
end
/-- What the reference's Implies answers. -/
def impRef (a b : Cn) : Bool := decide (chkC 1 3 a = 0) && decide (chkC 1 3 b = 0) && impR a b (b.atm (a.atm [])) Sc.zero
theorem imp_ref (a b : Cn) : impB a b = impRef a b := by
  rw [Bool.eq_iff_iff, impB_iff]
  unfold impRef
  rw [Bool.and_eq_true, Bool.and_eq_true, decide_eq_true_eq, decide_eq_true_eq]
  constructor
  · rintro ⟨h1, h2, h3⟩
    exact ⟨⟨h1, h2⟩, impR_all h3 _ _⟩
  · rintro ⟨⟨h1, h2⟩, h3⟩
    refine ⟨h1, h2, fun S hS => ?_⟩
    have ha := chk_ok h1
    have hb := chk_ok h2
    have hl := Cn.atm_ok b _ hb (Cn.atm_ok a [] ha ⟨by simp, List.nodup_nil⟩)
    have hag := fin_agree S _ hl.1 hl.2
    have h := impR_fin S _ _ h3
    rw [Cn.sat_agree _ S a [] ha (fun x hx => hag x (Cn.atm_sub b _ x hx)), Cn.sat_agree _ S b _ hb hag] at h
    exact h hS
end Go.Proofs.YtjkbfogjfgnhiaaDoor
