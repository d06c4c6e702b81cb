
/-
  The code of one wrong bit: mathematics. Words as naturals below 2^32.
-/
import Derived.WalkKit
namespace Go.Proofs.YtiholfpcndjliaaDoor
set_option linter.unusedVariables false
set_option linter.unusedSimpArgs false

def b2n (b : Bool) : Nat := if b then 1 else 0
/-- The exclusive or of the positions below k with a 1. -/
def synT (w : Nat) : Nat → Nat
  | 0 => 0
  | k + 1 => synT w k ^^^ (if w.testBit k then k else 0)
/-- The number of ones below position k. -/
def cntT (w : Nat) : Nat → Nat
  | 0 => 0
  | k + 1 => cntT w k + b2n (w.testBit k)
def isC (w : Nat) : Bool := synT w 32 == 0 && cntT w 32 % 2 == 0 && !w.testBit 30 && !w.testBit 31

/-- The position of data bit i. -/
def plL : List Nat := [3, 5, 6, 7, 9, 10, 11, 12, 13, 14, 15, 17, 18, 19, 20, 21, 22, 23, 24, 25, 26, 27, 28, 29]
def pl (i : Nat) : Nat := plL.getD i 0
def grL : List Nat := [2863311530, 3435973836, 4042322160, 4278255360, 4294901760, 4294967295, 1073741824, 2147483648]
def gr (i : Nat) : Nat := grL.getD i 0

/-- The first k data bits of a word. -/
def datT (w : Nat) : Nat → Nat
  | 0 => 0
  | k + 1 => datT w k + b2n (w.testBit (pl k)) * 2 ^ k

def decF (w : Nat) : Option Nat := if isC w then some w else (List.range 32).findSome? fun p => if isC (w ^^^ 2 ^ p) then some (w ^^^ 2 ^ p) else none
def decD (w : Nat) : Nat := match decF w with | some x => datT x 24 | none => 0
def decH (w : Nat) : Nat := match decF w with | some _ => (if isC w then 0 else 1) | none => 2

theorem cntT_le (w : Nat) : ∀ k, cntT w k ≤ k
  | 0 => Nat.le_refl _
  | k + 1 => by have := cntT_le w k; simp only [cntT, b2n]; split <;> omega
theorem synT_lt (w : Nat) : ∀ k, k ≤ 32 → synT w k < 32
  | 0, _ => by simp [synT]
  | k + 1, h => by
    have := synT_lt w k (by omega)
    simp only [synT]
    refine Nat.xor_lt_two_pow (n := 5) this ?_
    split <;> omega
theorem datT_lt (w : Nat) : ∀ k, datT w k < 2 ^ k
  | 0 => by simp [datT]
  | k + 1 => by
    have := datT_lt w k
    simp only [datT, b2n]
    rw [Nat.pow_succ]
    split <;> omega

/-- A bit of the exclusive or of positions is the parity of the ones at the positions that have it. -/
theorem syn_bit (w j G : Nat) : ∀ k, (∀ p, p < k → G.testBit p = p.testBit j) → (synT w k).testBit j = (cntT (w &&& G) k % 2 == 1)
  | 0, _ => by simp [synT, cntT]
  | k + 1, h => by
    have ih := syn_bit w j G k (fun p hp => h p (by omega))
    have hk := h k (by omega)
    simp only [synT, cntT, Nat.testBit_xor, ih, Nat.testBit_and, hk, b2n]
    have h2 : cntT (w &&& G) k % 2 = 0 ∨ cntT (w &&& G) k % 2 = 1 := by omega
    by_cases hw : w.testBit k <;> by_cases hj : k.testBit j <;> rcases h2 with e | e <;> simp [hw, hj, e, Nat.add_mod]

theorem cnt_all (w : Nat) : ∀ k, k ≤ 32 → cntT (w &&& 4294967295) k = cntT w k
  | 0, _ => rfl
  | k + 1, h => by
    have ih := cnt_all w k (by omega)
    have e : (4294967295 : Nat) = 2 ^ 32 - 1 := by decide
    simp only [cntT, ih, Nat.testBit_and]
    rw [e, Nat.testBit_two_pow_sub_one]
    simp [show k < 32 from by omega]
theorem cnt_one (w q : Nat) : ∀ k, cntT (w &&& 2 ^ q) k = if q < k then b2n (w.testBit q) else 0
  | 0 => by simp [cntT]
  | k + 1 => by
    have ih := cnt_one w q k
    simp only [cntT, ih, Nat.testBit_and, Nat.testBit_two_pow]
    by_cases h1 : q < k
    · have : ¬ q = k := by omega
      simp [h1, this, show q < k + 1 from by omega, b2n]
    · by_cases h2 : q = k
      · subst h2; simp
      · simp [h1, h2, show ¬ q < k + 1 from by omega, b2n]

def oddG (w i : Nat) : Bool := cntT (w &&& gr i) 32 % 2 == 1

theorem grp_bit : ∀ j, j < 5 → ∀ p, p < 32 → (gr j).testBit p = p.testBit j := by decide +kernel
theorem syn_zero {s : Nat} (hs : s < 32) : s = 0 ↔ ∀ j, j < 5 → s.testBit j = false := by
  constructor
  · intro e j _; subst e; simp
  · intro h
    apply Nat.eq_of_testBit_eq
    intro i
    rw [Nat.zero_testBit]
    by_cases hi : i < 5
    · exact h i hi
    · exact Nat.testBit_lt_two_pow (Nat.lt_of_lt_of_le hs (by
        have : 2 ^ 5 ≤ 2 ^ i := Nat.pow_le_pow_right (by omega) (by omega)
        simpa using this))
/-- A word is a code word exactly if it has an even number of ones in each of the eight groups. -/
theorem isC_groups (w : Nat) : isC w = true ↔ ∀ i, i < 8 → oddG w i = false := by
  have h5 : ∀ i, i < 5 → (synT w 32).testBit i = oddG w i := fun i hi => syn_bit w i (gr i) 32 (fun p hp => grp_bit i hi p hp)
  have g5 : gr 5 = 4294967295 := by decide +kernel
  have e5 : oddG w 5 = (cntT w 32 % 2 == 1) := by unfold oddG; rw [g5, cnt_all w 32 (by omega)]
  have g6 : gr 6 = 2 ^ 30 := by decide +kernel
  have g7 : gr 7 = 2 ^ 31 := by decide +kernel
  have e6 : oddG w 6 = w.testBit 30 := by
    unfold oddG
    rw [g6, cnt_one, if_pos (by omega)]
    cases w.testBit 30 <;> rfl
  have e7 : oddG w 7 = w.testBit 31 := by
    unfold oddG
    rw [g7, cnt_one, if_pos (by omega)]
    cases w.testBit 31 <;> rfl
  have hz := syn_zero (synT_lt w 32 (by omega))
  have h2 : cntT w 32 % 2 = 0 ∨ cntT w 32 % 2 = 1 := by omega
  simp only [isC, Bool.and_eq_true, beq_iff_eq, Bool.not_eq_true']
  constructor
  · rintro ⟨⟨⟨h1, h2⟩, h3⟩, h4⟩ i hi
    by_cases hi5 : i < 5
    · rw [← h5 i hi5]; exact hz.1 h1 i hi5
    · have : i = 5 ∨ i = 6 ∨ i = 7 := by omega
      rcases this with rfl | rfl | rfl
      · rw [e5, h2]; rfl
      · rw [e6, h3]
      · rw [e7, h4]
  · intro h
    refine ⟨⟨⟨hz.2 fun j hj => by rw [h5 j hj]; exact h j (by omega), ?_⟩, ?_⟩, ?_⟩
    · have := h 5 (by omega)
      rw [e5] at this
      rcases h2 with e | e
      · exact e
      · rw [e] at this; cases this
    · rw [← e6]; exact h 6 (by omega)
    · rw [← e7]; exact h 7 (by omega)

/-! The linear view: the column of a position, the exclusive or of the columns of the ones. -/
def col (p : Nat) : Nat := p ^^^ 32 ^^^ (if p = 30 then 64 else 0) ^^^ (if p = 31 then 128 else 0)
def hT (w : Nat) : Nat → Nat
  | 0 => 0
  | k + 1 => hT w k ^^^ (if w.testBit k then col k else 0)
theorem col_facts : ∀ p, p < 32 → (col p % 32 = p ∧ (col p).testBit 5 = true ∧ (col p).testBit 6 = (p == 30) ∧ (col p).testBit 7 = (p == 31)) ∧ ∀ j, j < 5 → (col p).testBit j = p.testBit j := by decide +kernel
theorem xor_self_cancel (a b : Nat) : a ^^^ b ^^^ b = a := by rw [Nat.xor_assoc, Nat.xor_self, Nat.xor_zero]
theorem tb_flip (w p k : Nat) : (w ^^^ 2 ^ p).testBit k = (w.testBit k != (p == k)) := by
  rw [Nat.testBit_xor, Nat.testBit_two_pow]
  cases w.testBit k <;> by_cases h : p = k <;> simp [h]
theorem hT_flip (w p : Nat) : ∀ k, hT (w ^^^ 2 ^ p) k = hT w k ^^^ (if p < k then col p else 0)
  | 0 => by simp [hT]
  | k + 1 => by
    have ih := hT_flip w p k
    simp only [hT, ih, tb_flip]
    by_cases h : p = k
    · subst h
      rw [if_neg (Nat.lt_irrefl p), if_pos (Nat.lt_succ_self p)]
      cases w.testBit p <;> simp [xor_self_cancel]
    · have hb : (p == k) = false := beq_eq_false_iff_ne.2 h
      rw [hb]
      have e : (w.testBit k != false) = w.testBit k := by cases w.testBit k <;> rfl
      rw [e]
      by_cases hk : p < k
      · rw [if_pos hk, if_pos (show p < k + 1 by omega)]
        rw [Nat.xor_assoc, Nat.xor_assoc, Nat.xor_comm (col p)]
      · rw [if_neg hk, if_neg (show ¬ p < k + 1 by omega), Nat.xor_zero, Nat.xor_zero]
theorem hT_lt (w : Nat) : ∀ k, k ≤ 32 → hT w k < 256
  | 0, _ => by simp [hT]
  | k + 1, h => by
    have ih := hT_lt w k (by omega)
    simp only [hT]
    refine Nat.xor_lt_two_pow (n := 8) ih ?_
    split
    · have : ∀ p, p < 32 → col p < 256 := by decide +kernel
      exact this k (by omega)
    · decide
theorem hT_low (w j : Nat) (hj : j < 5) : ∀ k, k ≤ 32 → (hT w k).testBit j = (synT w k).testBit j
  | 0, _ => rfl
  | k + 1, h => by
    have ih := hT_low w j hj k (by omega)
    have hc := (col_facts k (by omega)).2 j hj
    simp only [hT, synT, Nat.testBit_xor, ih]
    cases w.testBit k <;> simp [hc]
theorem hT_par (w : Nat) : ∀ k, k ≤ 32 → (hT w k).testBit 5 = (cntT w k % 2 == 1)
  | 0, _ => by simp [hT, cntT]
  | k + 1, h => by
    have ih := hT_par w k (by omega)
    have hc := (col_facts k (by omega)).1.2.1
    have h2 : cntT w k % 2 = 0 ∨ cntT w k % 2 = 1 := by omega
    simp only [hT, cntT, Nat.testBit_xor, ih, b2n]
    cases w.testBit k <;> rcases h2 with e | e <;> simp [hc, e, Nat.add_mod]
theorem hT_free (w q : Nat) (hq : q = 6 ∨ q = 7) : ∀ k, k ≤ 32 → (hT w k).testBit q = (decide (q + 24 < k) && w.testBit (q + 24))
  | 0, _ => by simp [hT]
  | k + 1, h => by
    have ih := hT_free w q hq k (by omega)
    have hc := (col_facts k (by omega)).1.2.2
    have e : (col k).testBit q = (k == q + 24) := by rcases hq with rfl | rfl; exact hc.1; exact hc.2
    simp only [hT, Nat.testBit_xor, ih]
    by_cases hk : k = q + 24
    · subst hk
      cases w.testBit (q + 24) <;> simp [e]
    · have hb : (k == q + 24) = false := beq_eq_false_iff_ne.2 hk
      rw [hb] at e
      have hd : decide (q + 24 < k + 1) = decide (q + 24 < k) := by
        by_cases h1 : q + 24 < k
        · simp [h1, show q + 24 < k + 1 from by omega]
        · simp [h1, show ¬ q + 24 < k + 1 from by omega]
      rw [hd]
      cases w.testBit k <;> simp [e]
theorem byte_zero {s : Nat} (hs : s < 256) : s = 0 ↔ ∀ j, j < 8 → s.testBit j = false := by
  constructor
  · intro e j _; subst e; simp
  · intro h
    apply Nat.eq_of_testBit_eq
    intro i
    rw [Nat.zero_testBit]
    by_cases hi : i < 8
    · exact h i hi
    · exact Nat.testBit_lt_two_pow (Nat.lt_of_lt_of_le hs (by
        have : 2 ^ 8 ≤ 2 ^ i := Nat.pow_le_pow_right (by omega) (by omega)
        simpa using this))
theorem isC_iff (w : Nat) : isC w = true ↔ hT w 32 = 0 := by
  rw [byte_zero (hT_lt w 32 (by omega))]
  have hz := syn_zero (synT_lt w 32 (by omega))
  have hp := hT_par w 32 (by omega)
  have h6 := hT_free w 6 (.inl rfl) 32 (by omega)
  have h7 := hT_free w 7 (.inr rfl) 32 (by omega)
  have h2 : cntT w 32 % 2 = 0 ∨ cntT w 32 % 2 = 1 := by omega
  simp only [show decide (6 + 24 < 32) = true from rfl, show decide (7 + 24 < 32) = true from rfl, Bool.true_and] at h6 h7
  simp only [isC, Bool.and_eq_true, beq_iff_eq, Bool.not_eq_true']
  constructor
  · rintro ⟨⟨⟨h1, h2⟩, h3⟩, h4⟩ i hi
    by_cases hi5 : i < 5
    · rw [hT_low w i hi5 32 (by omega)]; exact hz.1 h1 i hi5
    · have : i = 5 ∨ i = 6 ∨ i = 7 := by omega
      rcases this with rfl | rfl | rfl
      · rw [hp, h2]; rfl
      · rw [h6]; exact h3
      · rw [h7]; exact h4
  · intro h
    refine ⟨⟨⟨hz.2 fun j hj => by rw [← hT_low w j hj 32 (by omega)]; exact h j (by omega), ?_⟩, ?_⟩, ?_⟩
    · have := h 5 (by omega)
      rw [hp] at this
      rcases h2 with e | e
      · exact e
      · rw [e] at this; cases this
    · exact h6.symm.trans (h 6 (by omega))
    · exact h7.symm.trans (h 7 (by omega))

/-! What becomes of a code word with one or two wrong bits. -/
theorem isC_flip1 {c i : Nat} (h : isC c = true) (hi : i < 32) : isC (c ^^^ 2 ^ i) = false := by
  rw [Bool.eq_false_iff]
  intro h2
  rw [isC_iff] at h h2
  rw [hT_flip, h, if_pos hi, Nat.zero_xor] at h2
  have := (col_facts i hi).1.2.1
  rw [h2] at this
  cases this
theorem isC_flip2 {c i k : Nat} (h : isC c = true) (hi : i < 32) (hk : k < 32) : isC (c ^^^ 2 ^ i ^^^ 2 ^ k) = decide (i = k) := by
  by_cases e : i = k
  · subst e; rw [xor_self_cancel, h]; simp
  · simp only [e, decide_false]
    rw [Bool.eq_false_iff]
    intro h2
    rw [isC_iff] at h h2
    rw [hT_flip, hT_flip, h, if_pos hi, if_pos hk, Nat.zero_xor] at h2
    have e2 : col i = col k := by
      have := congrArg (· ^^^ col k) h2
      simpa [xor_self_cancel] using this
    have := (col_facts i hi).1.1
    have := (col_facts k hk).1.1
    rw [e2] at *
    omega
theorem isC_flip3 {c i k p : Nat} (h : isC c = true) (hi : i < 32) (hk : k < 32) (hp : p < 32) : isC (c ^^^ 2 ^ i ^^^ 2 ^ k ^^^ 2 ^ p) = false := by
  rw [Bool.eq_false_iff]
  intro h2
  rw [isC_iff] at h h2
  rw [hT_flip, hT_flip, hT_flip, h, if_pos hi, if_pos hk, if_pos hp, Nat.zero_xor] at h2
  have := congrArg (fun n => n.testBit 5) h2
  simp only [Nat.testBit_xor, (col_facts i hi).1.2.1, (col_facts k hk).1.2.1, (col_facts p hp).1.2.1] at this
  cases this
theorem dec0 {c : Nat} (h : isC c = true) : decF c = some c := by simp [decF, h]
theorem findSome_one {α : Type} (f : Nat → Option α) (i : Nat) (y : α) (hy : f i = some y) (hn : ∀ p, p ≠ i → f p = none) : ∀ l : List Nat, i ∈ l → l.findSome? f = some y := by
  intro l
  induction l with
  | nil => intro h; cases h
  | cons x l ih =>
    intro h
    by_cases e : x = i
    · subst e; simp [List.findSome?, hy]
    · have : i ∈ l := by
        rcases List.mem_cons.1 h with h | h
        · exact absurd h.symm e
        · exact h
      simp [List.findSome?, hn x e, ih this]
theorem dec1 {c i : Nat} (h : isC c = true) (hi : i < 32) : decF (c ^^^ 2 ^ i) = some c := by
  unfold decF
  rw [isC_flip1 h hi]
  simp only [Bool.false_eq_true, if_false]
  have key : ∀ p, p < 32 → isC (c ^^^ 2 ^ i ^^^ 2 ^ p) = decide (i = p) := fun p hp => isC_flip2 h hi hp
  have : ∀ l : List Nat, (∀ p ∈ l, p < 32) → i ∈ l → l.findSome? (fun p => if isC (c ^^^ 2 ^ i ^^^ 2 ^ p) then some (c ^^^ 2 ^ i ^^^ 2 ^ p) else none) = some c := by
    intro l
    induction l with
    | nil => intro _ h; cases h
    | cons x l ih =>
      intro hl hm
      have hx := key x (hl x (by simp))
      by_cases e : i = x
      · subst e
        have : isC (c ^^^ 2 ^ i ^^^ 2 ^ i) = true := by rw [hx]; simp
        simp only [List.findSome?]
        rw [this, xor_self_cancel]
        rfl
      · have hm' : i ∈ l := by
          rcases List.mem_cons.1 hm with h | h
          · exact absurd h e
          · exact h
        simp only [List.findSome?]
        rw [hx]
        simp only [e, decide_false, Bool.false_eq_true, if_false]
        exact ih (fun p hp => hl p (by simp [hp])) hm'
  exact this _ (fun p hp => List.mem_range.1 hp) (List.mem_range.2 hi)
theorem dec2 {c i k : Nat} (h : isC c = true) (hi : i < 32) (hk : k < 32) (hik : i ≠ k) : decF (c ^^^ 2 ^ i ^^^ 2 ^ k) = none := by
  unfold decF
  rw [isC_flip2 h hi hk]
  simp only [hik, decide_false, Bool.false_eq_true, if_false]
  rw [List.findSome?_eq_none_iff]
  intro p hp
  rw [isC_flip3 h hi hk (List.mem_range.1 hp)]
  rfl

/-! The code word of data. -/
def spr (d : Nat) : Nat → Nat
  | 0 => 0
  | k + 1 => if d.testBit k then spr d k ||| 2 ^ pl k else spr d k
def synP (d : Nat) : Nat → Nat
  | 0 => 0
  | k + 1 => if d.testBit k then synP d k ^^^ pl k else synP d k
/-- The check bits of a syndrome laid into a word. -/
def chk (s w : Nat) : Nat → Nat
  | 0 => w
  | j + 1 => if s.testBit j then chk s w j ||| 2 ^ 2 ^ j else chk s w j
def encW (d : Nat) : Nat := let w := chk (synP d 24) (spr d 24) 5; if cntT w 32 % 2 = 1 then w ||| 1 else w

theorem pl_facts : ∀ i, i < 24 → pl i < 30 ∧ 2 < pl i ∧ (∀ j, j < 5 → pl i ≠ 2 ^ j) ∧ ∀ k, k < 24 → pl i = pl k → i = k := by decide +kernel
theorem or_flip {w p : Nat} (h : w.testBit p = false) : w ||| 2 ^ p = w ^^^ 2 ^ p := by
  apply Nat.eq_of_testBit_eq
  intro i
  rw [Nat.testBit_or, Nat.testBit_xor, Nat.testBit_two_pow]
  by_cases e : p = i
  · subst e; simp [h]
  · simp [e]
theorem spr_bit (d q : Nat) : ∀ k, k ≤ 24 → (spr d k).testBit q = decide (∃ i, i < k ∧ pl i = q ∧ d.testBit i = true)
  | 0, _ => by simp [spr]
  | k + 1, h => by
    have ih := spr_bit d q k (by omega)
    simp only [spr]
    have key : decide (∃ i, i < k + 1 ∧ pl i = q ∧ d.testBit i = true) = (decide (∃ i, i < k ∧ pl i = q ∧ d.testBit i = true) || decide (pl k = q ∧ d.testBit k = true)) := by
      rw [← Bool.decide_or]
      congr 1
      apply propext
      constructor
      · rintro ⟨i, h1, h2, h3⟩
        by_cases e : i = k
        · subst e; exact .inr ⟨h2, h3⟩
        · exact .inl ⟨i, by omega, h2, h3⟩
      · rintro (⟨i, h1, h2⟩ | h2)
        · exact ⟨i, by omega, h2⟩
        · exact ⟨k, by omega, h2⟩
    rw [key]
    by_cases hd : d.testBit k = true
    · rw [if_pos hd, Nat.testBit_or, ih, Nat.testBit_two_pow]
      simp [hd]
    · rw [if_neg hd, ih]
      simp [hd]
theorem spr_at (d i k : Nat) (hk : k ≤ 24) (hi : i < 24) : (spr d k).testBit (pl i) = (decide (i < k) && d.testBit i) := by
  rw [spr_bit d _ k hk]
  by_cases h : i < k ∧ d.testBit i = true
  · rw [decide_eq_true ⟨i, h.1, rfl, h.2⟩]; simp [h.1, h.2]
  · rw [decide_eq_false]
    · rw [eq_comm, Bool.and_eq_false_iff]
      by_cases h1 : i < k
      · right; simpa [h1] using h
      · left; simp [h1]
    · rintro ⟨j, h1, h2, h3⟩
      have := (pl_facts j (by omega)).2.2.2 i hi h2
      subst this
      exact h ⟨h1, h3⟩
theorem spr_off (d q k : Nat) (hk : k ≤ 24) (hq : ∀ i, i < 24 → pl i ≠ q) : (spr d k).testBit q = false := by
  rw [spr_bit d q k hk, decide_eq_false]
  rintro ⟨i, h1, h2, _⟩
  exact hq i (by omega) h2
theorem hT_zero : ∀ k, hT 0 k = 0
  | 0 => rfl
  | k + 1 => by simp [hT, hT_zero k]
theorem col_small (p : Nat) (h : p < 30) : col p = p ^^^ 32 := by
  unfold col
  rw [if_neg (by omega), if_neg (by omega), Nat.xor_zero, Nat.xor_zero]
/-- The columns of what was laid for the data: their syndrome in the low bits. -/
theorem hT_spr (d : Nat) : ∀ k, k ≤ 24 → ∃ c, hT (spr d k) 32 = synP d k ^^^ (if c % 2 = 1 then 32 else 0)
  | 0, _ => ⟨0, by simp [spr, synP, hT_zero]⟩
  | k + 1, h => by
    obtain ⟨c, ih⟩ := hT_spr d k (by omega)
    have hp := pl_facts k (by omega)
    simp only [spr, synP]
    by_cases hd : d.testBit k = true
    · rw [if_pos hd, if_pos hd]
      have hb : (spr d k).testBit (pl k) = false := by rw [spr_at d k k (by omega) (by omega)]; simp
      refine ⟨c + 1, ?_⟩
      rw [or_flip hb, hT_flip, if_pos (by omega), ih, col_small _ hp.1]
      have h2 : c % 2 = 0 ∨ c % 2 = 1 := by omega
      rcases h2 with e | e
      · rw [if_neg (by omega), if_pos (by omega), Nat.xor_zero, Nat.xor_assoc]
      · rw [if_pos e, if_neg (by omega), Nat.xor_zero, Nat.xor_assoc (synP d k), Nat.xor_comm (pl k) 32, ← Nat.xor_assoc 32, Nat.xor_self, Nat.zero_xor]
    · rw [if_neg hd, if_neg hd]
      exact ⟨c, ih⟩
theorem synP_lt (d : Nat) : ∀ k, k ≤ 24 → synP d k < 32
  | 0, _ => by simp [synP]
  | k + 1, h => by
    have ih := synP_lt d k (by omega)
    have hp := (pl_facts k (by omega)).1
    simp only [synP]
    split
    · exact Nat.xor_lt_two_pow (n := 5) ih (by omega)
    · exact ih
theorem two_two : ∀ j, j < 5 → 2 ^ j < 30 := by decide +kernel
theorem chk_off (s w q : Nat) : ∀ j, j ≤ 5 → (∀ i, i < j → 2 ^ i ≠ q) → (chk s w j).testBit q = w.testBit q
  | 0, _, _ => rfl
  | j + 1, h, hq => by
    have ih := chk_off s w q j (by omega) (fun i hi => hq i (by omega))
    simp only [chk]
    split
    · rw [Nat.testBit_or, ih, Nat.testBit_two_pow]; simp [hq j (by omega)]
    · exact ih
/-- The bits of s below j. -/
def lowS (s : Nat) : Nat → Nat
  | 0 => 0
  | j + 1 => lowS s j ^^^ (if s.testBit j then 2 ^ j else 0)
theorem lowS_bit (s i : Nat) : ∀ j, (lowS s j).testBit i = (decide (i < j) && s.testBit i)
  | 0 => by simp [lowS]
  | j + 1 => by
    have ih := lowS_bit s i j
    simp only [lowS, Nat.testBit_xor, ih]
    by_cases e : i = j
    · subst e
      cases hs : s.testBit i <;> simp [hs, Nat.testBit_two_pow]
    · have h1 : (if s.testBit j = true then 2 ^ j else 0).testBit i = false := by
        split
        · rw [Nat.testBit_two_pow]; simp; omega
        · simp
      have hd : decide (i < j + 1) = decide (i < j) := by
        by_cases h : i < j
        · simp [h, show i < j + 1 from by omega]
        · simp [h, show ¬ i < j + 1 from by omega]
      rw [h1, hd]
      simp
theorem lowS_all {s : Nat} (hs : s < 32) : lowS s 5 = s := by
  apply Nat.eq_of_testBit_eq
  intro i
  rw [lowS_bit]
  by_cases hi : i < 5
  · simp [hi]
  · have : s.testBit i = false := Nat.testBit_lt_two_pow (Nat.lt_of_lt_of_le hs (by
      have : 2 ^ 5 ≤ 2 ^ i := Nat.pow_le_pow_right (by omega) (by omega)
      simpa using this))
    simp [hi, this]
theorem hT_chk (s w : Nat) (hw : ∀ j, j < 5 → w.testBit (2 ^ j) = false) : ∀ j, j ≤ 5 → ∃ c, hT (chk s w j) 32 = hT w 32 ^^^ lowS s j ^^^ (if c % 2 = 1 then 32 else 0)
  | 0, _ => ⟨0, by simp [chk, lowS]⟩
  | j + 1, h => by
    obtain ⟨c, ih⟩ := hT_chk s w hw j (by omega)
    simp only [chk, lowS]
    by_cases hs : s.testBit j = true
    · rw [if_pos hs, if_pos hs]
      have hb : (chk s w j).testBit (2 ^ j) = false := by
        rw [chk_off s w (2 ^ j) j (by omega) (fun i hi e => by
          have := Nat.pow_lt_pow_right (a := 2) (by omega) hi
          omega)]
        exact hw j (by omega)
      have h30 := two_two j (by omega)
      refine ⟨c + 1, ?_⟩
      rw [or_flip hb, hT_flip, if_pos (by omega), ih, col_small _ h30]
      generalize hT w 32 = x
      generalize lowS s j = y
      generalize 2 ^ j = z
      have h2 : c % 2 = 0 ∨ c % 2 = 1 := by omega
      rcases h2 with e | e
      · rw [if_neg (by omega), if_pos (by omega), Nat.xor_zero]
        simp only [Nat.xor_assoc]
      · rw [if_pos e, if_neg (by omega), Nat.xor_zero]
        rw [Nat.xor_assoc (x ^^^ y), Nat.xor_comm z 32, ← Nat.xor_assoc 32, Nat.xor_self, Nat.zero_xor, Nat.xor_assoc]
    · rw [if_neg hs, if_neg hs]
      exact ⟨c, by rw [ih, Nat.xor_zero]⟩
theorem spr_chk0 (d j : Nat) (hj : j < 5) : (spr d 24).testBit (2 ^ j) = false := spr_off d _ 24 (by omega) (fun i hi => (pl_facts i hi).2.2.1 j hj)
theorem enc_zero (d : Nat) : (chk (synP d 24) (spr d 24) 5).testBit 0 = false := by
  rw [chk_off _ _ 0 5 (by omega) (fun i hi => by have := Nat.pow_pos (n := i) (show 0 < 2 by omega); omega)]
  exact spr_off d 0 24 (by omega) (fun i hi => by have := (pl_facts i hi).2.1; omega)
theorem encW_code (d : Nat) : isC (encW d) = true := by
  rw [isC_iff]
  obtain ⟨c, h1⟩ := hT_spr d 24 (by omega)
  obtain ⟨c', h2⟩ := hT_chk (synP d 24) (spr d 24) (spr_chk0 d) 5 (by omega)
  rw [lowS_all (synP_lt d 24 (by omega)), h1] at h2
  have h0 := enc_zero d
  unfold encW
  generalize chk (synP d 24) (spr d 24) 5 = w at *
  have hx : ∃ c, hT w 32 = if c % 2 = 1 then 32 else 0 := by
    refine ⟨c + c', ?_⟩
    rw [h2]
    generalize synP d 24 = s
    have e1 : c % 2 = 0 ∨ c % 2 = 1 := by omega
    have e2 : c' % 2 = 0 ∨ c' % 2 = 1 := by omega
    rcases e1 with e1 | e1 <;> rcases e2 with e2 | e2 <;> simp [e1, e2, Nat.add_mod, Nat.xor_comm s, xor_self_cancel]
  have hp := hT_par w 32 (by omega)
  obtain ⟨c, hx⟩ := hx
  show hT (if cntT w 32 % 2 = 1 then w ||| 1 else w) 32 = 0
  by_cases e : c % 2 = 1
  · rw [if_pos e] at hx
    rw [hx] at hp
    have hc : cntT w 32 % 2 = 1 := by
      have : (32 : Nat).testBit 5 = true := by decide +kernel
      rw [this] at hp
      exact beq_iff_eq.1 hp.symm
    rw [if_pos hc]
    have : w ||| 1 = w ^^^ 2 ^ 0 := or_flip (p := 0) h0
    rw [this, hT_flip, hx]
    decide
  · rw [if_neg e] at hx
    rw [hx] at hp
    have hc : ¬ cntT w 32 % 2 = 1 := by
      intro hc; rw [hc] at hp; cases hp
    rw [if_neg hc, hx]
theorem encW_at (d i : Nat) (hi : i < 24) : (encW d).testBit (pl i) = d.testBit i := by
  have hp := pl_facts i hi
  have h1 : (chk (synP d 24) (spr d 24) 5).testBit (pl i) = d.testBit i := by
    rw [chk_off _ _ _ 5 (by omega) (fun j hj => (hp.2.2.1 j hj).symm), spr_at d i 24 (by omega) hi]
    simp [hi]
  unfold encW
  simp only []
  split
  · have e1 : (1 : Nat).testBit (pl i) = false := by
      have := Nat.testBit_two_pow (n := 0) (m := pl i)
      rw [show (2 : Nat) ^ 0 = 1 from rfl] at this
      rw [this, decide_eq_false (by omega)]
    rw [Nat.testBit_or, h1, e1, Bool.or_false]
  · exact h1
theorem datT_bits (w d : Nat) : ∀ k, k ≤ 24 → (∀ i, i < k → w.testBit (pl i) = d.testBit i) → datT w k = d % 2 ^ k
  | 0, _, _ => by simp [datT, Nat.mod_one]
  | k + 1, h, hb => by
    have ih := datT_bits w d k (by omega) (fun i hi => hb i (by omega))
    simp only [datT, ih, hb k (by omega)]
    have e : d / 2 ^ k % 2 = b2n (d.testBit k) := by
      rw [← Nat.toNat_testBit]
      cases d.testBit k <;> rfl
    rw [Nat.mod_pow_succ, e, Nat.mul_comm]
theorem encW_dat (d : Nat) (h : d < 16777216) : datT (encW d) 24 = d := by
  rw [datT_bits (encW d) d 24 (by omega) (fun i hi => encW_at d i (by omega))]
  exact Nat.mod_eq_of_lt h
theorem spr_lt (d : Nat) : ∀ k, k ≤ 24 → spr d k < 2 ^ 32
  | 0, _ => by simp [spr]
  | k + 1, h => by
    have ih := spr_lt d k (by omega)
    have hp := (pl_facts k (by omega)).1
    simp only [spr]
    split
    · exact Nat.or_lt_two_pow ih (Nat.pow_lt_pow_right (by omega) (by omega))
    · exact ih
theorem chk_lt (s w : Nat) (hw : w < 2 ^ 32) : ∀ j, j ≤ 5 → chk s w j < 2 ^ 32
  | 0, _ => hw
  | j + 1, h => by
    have ih := chk_lt s w hw j (by omega)
    have hp := two_two j (by omega)
    simp only [chk]
    split
    · exact Nat.or_lt_two_pow ih (Nat.pow_lt_pow_right (by omega) (by omega))
    · exact ih
theorem encW_lt (d : Nat) : encW d < 2 ^ 32 := by
  have := chk_lt (synP d 24) (spr d 24) (spr_lt d 24 (by omega)) 5 (by omega)
  unfold encW
  simp only []
  split
  · exact Nat.or_lt_two_pow this (by decide)
  · exact this
end Go.Proofs.YtiholfpcndjliaaDoor
