/-
  Implication: the least statuses, and the atoms, tell the same as all statuses do (mathematics).
-/
import Derived.Test.YtjkbfogjfgnhiaaDoorLec
import Derived.Test.YtjkbfogjfgnhiaaDoorMor
namespace Go.Proofs.YtjkbfogjfgnhiaaDoor
set_option linter.unusedVariables false
set_option linter.unusedSimpArgs false
open Go.RowKit

theorem tbI_or (x y : Int) (k : Nat) (hk : k < 9) : tbI (bits .or .i64 x y) k = (tbI x k || tbI y k) := by
  rw [← tb_ofInt _ k hk, ofInt_or, BitVec.toNat_or, Nat.testBit_or, tb_ofInt x k hk, tb_ofInt y k hk]
theorem lt9 {P : Nat → Prop} (h0 : P 0) (h1 : P 1) (h2 : P 2) (h3 : P 3) (h4 : P 4) (h5 : P 5) (h6 : P 6) (h7 : P 7) (h8 : P 8) : ∀ n, n < 9 → P n := by
  intro n hn
  match n, hn with
  | 0, _ => exact h0
  | 1, _ => exact h1
  | 2, _ => exact h2
  | 3, _ => exact h3
  | 4, _ => exact h4
  | 5, _ => exact h5
  | 6, _ => exact h6
  | 7, _ => exact h7
  | 8, _ => exact h8
  | n + 9, h => exact absurd h (by omega)
theorem tbI_pow (n k : Nat) (hn : n < 9) (hk : k < 9) : tbI (2 ^ n) k = decide (n = k) := by
  have h : ∀ n < 9, ∀ k < 9, tbI (2 ^ n) k = decide (n = k) := by decide +kernel
  exact h n hn k hk
theorem tbI_add (x : Int) (n k : Nat) (hn : n < 9) (hk : k < 9) (h : tbI x n = false) : tbI (x + 2 ^ n) k = (decide (n = k) || tbI x k) := by
  revert h
  revert k
  revert n
  refine lt9 ?_ ?_ ?_ ?_ ?_ ?_ ?_ ?_ ?_
  all_goals
    refine lt9 ?_ ?_ ?_ ?_ ?_ ?_ ?_ ?_ ?_
    all_goals
      intro h
      simp only [tbI, decide_eq_false_iff_not, Int.reducePow, Nat.reducePow, decide_true, decide_false, Bool.true_or, Bool.false_or, Nat.reduceEqDiff, Bool.decide_eq_true, decide_eq_true_eq, decide_eq_decide] at h ⊢
      omega

def subB (a b : Int) : Bool := (List.range 9).all fun k => !tbI a k || tbI b k
theorem subB_iff (a b : Int) : subB a b = true ↔ ∀ k, k < 9 → tbI a k = true → tbI b k = true := by
  unfold subB
  rw [List.all_eq_true]
  constructor
  · intro h k hk ha
    have := h k (List.mem_range.2 hk)
    rw [ha] at this
    simpa using this
  · intro h k hk
    have := h k (List.mem_range.1 hk)
    cases ha : tbI a k with
    | false => rfl
    | true => rw [this ha]; rfl
theorem subB_refl (a : Int) : subB a a = true := (subB_iff a a).2 fun _ _ h => h
theorem subB_trans {a b c : Int} (h1 : subB a b = true) (h2 : subB b c = true) : subB a c = true :=
  (subB_iff a c).2 fun k hk h => (subB_iff b c).1 h2 k hk ((subB_iff a b).1 h1 k hk h)
theorem subB_zero (c : Int) : subB 0 c = true := by
  refine (subB_iff 0 c).2 fun k hk h => ?_
  exfalso
  revert h
  revert k
  refine lt9 ?_ ?_ ?_ ?_ ?_ ?_ ?_ ?_ ?_ <;> (intro h; exact absurd h (by decide))
theorem subB_or (a b c : Int) : subB (bits .or .i64 a b) c = (subB a c && subB b c) := by
  rw [Bool.eq_iff_iff, Bool.and_eq_true, subB_iff, subB_iff, subB_iff]
  constructor
  · intro h
    exact ⟨fun k hk ha => h k hk (by rw [tbI_or _ _ k hk, ha]; rfl), fun k hk hb => h k hk (by rw [tbI_or _ _ k hk, hb, Bool.or_true])⟩
  · intro h k hk ha
    rw [tbI_or _ _ k hk, Bool.or_eq_true] at ha
    rcases ha with ha | ha
    · exact h.1 k hk ha
    · exact h.2 k hk ha
theorem subB_pow (n : Nat) (hn : n < 9) (c : Int) : subB (2 ^ n) c = tbI c n := by
  rw [Bool.eq_iff_iff, subB_iff]
  constructor
  · intro h
    exact h n hn (by rw [tbI_pow n n hn hn]; simp)
  · intro h k hk hb
    rw [tbI_pow n k hn hk] at hb
    obtain rfl : n = k := of_decide_eq_true hb
    exact h
theorem lvB_sub (l n : Int) (h1 : 1 ≤ n) (h2 : n ≤ 51) : lvB l n = subB n l := by
  have hn := ofInt_nat n
  have hm : (BitVec.ofInt 64 n).toNat < 2 ^ 9 := by omega
  rw [Bool.eq_iff_iff, subB_iff]
  have e : lvB l n = true ↔ (BitVec.ofInt 64 l).toNat &&& (BitVec.ofInt 64 n).toNat = (BitVec.ofInt 64 n).toNat := by
    have hle : (BitVec.ofInt 64 l).toNat &&& (BitVec.ofInt 64 n).toNat ≤ (BitVec.ofInt 64 n).toNat := Nat.and_le_right
    have e1 : bits .and .i64 l n = (((BitVec.ofInt 64 l).toNat &&& (BitVec.ofInt 64 n).toNat : Nat) : Int) := by
      show IntKind.i64.wrap ((BitVec.ofInt 64 l &&& BitVec.ofInt 64 n).toNat : Int) = _
      rw [BitVec.toNat_and, IntWalk.i64_in _ (by omega)]
    unfold lvB
    rw [e1, beq_iff_eq]
    omega
  rw [e]
  constructor
  · intro h k hk hb
    rw [← tb_ofInt n k hk] at hb
    rw [← tb_ofInt l k hk]
    have := congrArg (fun z => z.testBit k) h
    simp only [Nat.testBit_and, hb, Bool.and_true] at this
    exact this
  · intro h
    apply Nat.eq_of_testBit_eq
    intro k
    rw [Nat.testBit_and]
    by_cases hk : k < 9
    · have h0 := h k hk
      rw [← tb_ofInt n k hk, ← tb_ofInt l k hk] at h0
      cases hx : (BitVec.ofInt 64 n).toNat.testBit k with
      | false => rw [Bool.and_false]
      | true => rw [h0 hx]; rfl
    · have : (BitVec.ofInt 64 n).toNat.testBit k = false := Nat.testBit_lt_two_pow (Nat.lt_of_lt_of_le hm (Nat.pow_le_pow_right (by omega) (by omega)))
      rw [this, Bool.and_false]

/-- A status has at least what another one has. -/
def leB (x s : Sc) : Bool := subB x.pins s.pins && subB x.keys s.keys && decide (x.state ≤ max s.state 0) && subB x.level s.level
theorem leB_iff (x s : Sc) : leB x s = true ↔ subB x.pins s.pins = true ∧ subB x.keys s.keys = true ∧ x.state ≤ max s.state 0 ∧ subB x.level s.level = true := by
  unfold leB
  rw [Bool.and_eq_true, Bool.and_eq_true, Bool.and_eq_true, decide_eq_true_eq]
  exact ⟨fun h => ⟨h.1.1.1, h.1.1.2, h.1.2, h.2⟩, fun h => ⟨⟨⟨h.1, h.2.1⟩, h.2.2.1⟩, h.2.2.2⟩⟩
theorem leB_refl (x : Sc) : leB x x = true := (leB_iff x x).2 ⟨subB_refl _, subB_refl _, by omega, subB_refl _⟩
theorem leB_trans {x y z : Sc} (h1 : leB x y = true) (h2 : leB y z = true) : leB x z = true := by
  rw [leB_iff] at *
  exact ⟨subB_trans h1.1 h2.1, subB_trans h1.2.1 h2.2.1, by omega, subB_trans h1.2.2.2 h2.2.2.2⟩
theorem leB_uni (x y s : Sc) : leB (uniS x y) s = (leB x s && leB y s) := by
  rw [Bool.eq_iff_iff, Bool.and_eq_true, leB_iff, leB_iff, leB_iff]
  unfold uniS
  simp only [subB_or, Bool.and_eq_true]
  constructor
  · rintro ⟨⟨a, b⟩, ⟨c, d⟩, e, f, g⟩
    exact ⟨⟨a, c, by omega, f⟩, b, d, by omega, g⟩
  · rintro ⟨⟨a, c, e, f⟩, b, d, e', g⟩
    exact ⟨⟨a, b⟩, ⟨c, d⟩, by omega, f, g⟩
theorem leB_zero (s : Sc) : leB Sc.zero s = true := (leB_iff _ s).2 ⟨subB_zero _, subB_zero _, by show (0 : Int) ≤ _; omega, subB_zero _⟩

theorem addS_any (f : Sc → Bool) (l : List Sc) (s : Sc) : (addS l s).any f = (l.any f || f s) := by
  unfold addS
  split
  · rename_i h
    obtain ⟨t, ht, e⟩ := List.any_eq_true.1 h
    obtain rfl := (Sc.eqB_iff s t).1 e
    cases hf : f s with
    | false => rw [Bool.or_false]
    | true => rw [Bool.or_true]; exact List.any_eq_true.2 ⟨s, ht, hf⟩
  · rw [List.any_append]; simp
theorem addL_any (f : Sc → Bool) : ∀ (more l : List Sc), (addL l more).any f = (l.any f || more.any f)
  | [], l => by simp [addL]
  | s :: more, l => by
    have e : addL l (s :: more) = addL (addS l s) more := rfl
    rw [e, addL_any f more, addS_any, List.any_cons, Bool.or_assoc]
theorem uniR_any (s : Sc) : ∀ (b l : List Sc) (x : Sc), (uniR l x b).any (fun y => leB y s) = (l.any (fun y => leB y s) || (leB x s && b.any (fun y => leB y s)))
  | [], l, x => by simp [uniR]
  | y :: b, l, x => by
    have e : uniR l x (y :: b) = uniR (addS l (uniS x y)) x b := rfl
    rw [e, uniR_any s b, addS_any, leB_uni, List.any_cons, Bool.or_assoc, ← Bool.and_or_distrib_left]
theorem unitF_any (s : Sc) (b : List Sc) : ∀ (a l : List Sc), (a.foldl (fun l x => uniR l x b) l).any (fun y => leB y s) = (l.any (fun y => leB y s) || (a.any (fun y => leB y s) && b.any (fun y => leB y s)))
  | [], l => by simp
  | x :: a, l => by
    rw [List.foldl_cons, unitF_any s b a, uniR_any, List.any_cons, Bool.and_or_distrib_right, Bool.or_assoc]
theorem unitL_any (s : Sc) (a b : List Sc) : (unitL a b).any (fun y => leB y s) = (a.any (fun y => leB y s) && b.any (fun y => leB y s)) := by
  unfold unitL
  rw [unitF_any]
  simp

theorem any_one (f : Sc → Bool) (x : Sc) : [x].any f = f x := by simp
mutual
theorem Cn.lea_sat (s : Sc) : ∀ c : Cn, c.ok = true → c.lea.any (fun x => leB x s) = c.sat s
  | .mk op n kids, h => by
    rw [Cn.ok, Bool.and_eq_true] at h
    have ho := okN_op h.1
    have hu := leaU_sat s kids [Sc.zero] h.2
    have hO := leaO_sat s kids [] h.2
    rw [any_one, leB_zero, Bool.true_and] at hu
    rw [List.any_nil, Bool.false_or] at hO
    rw [Cn.lea, Cn.sat]
    obtain ⟨h0, h1, h2, h3, h4, h5, h6⟩ := ho
    rcases h0 with rfl | rfl | rfl | rfl | rfl | rfl | rfl | rfl
    · have hk : kids = [] := List.eq_nil_of_length_eq_zero (h5 (by omega))
      subst hk
      simp only [reduceIte, Int.reduceEq, leaO, List.any_nil]
    · simp only [reduceIte, any_one, leB_zero]
    · simp only [reduceIte, Int.reduceEq, any_one]
      have hh := h1 (.inl rfl)
      have e : leB ⟨2 ^ n.toNat, 0, 0, 0⟩ s = tbI s.pins n.toNat := by
        rw [← subB_pow n.toNat (by omega), Bool.eq_iff_iff, leB_iff]
        exact ⟨fun h => h.1, fun h => ⟨h, subB_zero _, by show (0 : Int) ≤ _; omega, subB_zero _⟩⟩
      exact e
    · simp only [reduceIte, Int.reduceEq, any_one]
      have hh := h1 (.inr rfl)
      have e : leB ⟨0, 2 ^ n.toNat, 0, 0⟩ s = tbI s.keys n.toNat := by
        rw [← subB_pow n.toNat (by omega), Bool.eq_iff_iff, leB_iff]
        exact ⟨fun h => h.2.1, fun h => ⟨subB_zero _, h, by show (0 : Int) ≤ _; omega, subB_zero _⟩⟩
      exact e
    · simp only [reduceIte, Int.reduceEq, any_one]
      have hh := h2 rfl
      have e : leB ⟨0, 0, n, 0⟩ s = decide (n ≤ s.state) := by
        rw [Bool.eq_iff_iff, leB_iff, decide_eq_true_eq]
        exact ⟨fun h => by have : n ≤ max s.state 0 := h.2.2.1; omega, fun h => ⟨subB_zero _, subB_zero _, by show n ≤ _; omega, subB_zero _⟩⟩
      exact e
    · simp only [reduceIte, Int.reduceEq, any_one]
      have hh := h3 rfl
      have e : leB ⟨0, 0, 0, n⟩ s = lvB s.level n := by
        rw [lvB_sub _ _ hh.1 hh.2, Bool.eq_iff_iff, leB_iff]
        exact ⟨fun h => h.2.2.2, fun h => ⟨subB_zero _, subB_zero _, by show (0 : Int) ≤ _; omega, h⟩⟩
      exact e
    · simp only [reduceIte, Int.reduceEq]
      exact hu
    · simp only [reduceIte, Int.reduceEq]
      exact hO
theorem leaU_sat (s : Sc) : ∀ (ts : List Cn) (l : List Sc), okK ts = true → (leaU ts l).any (fun x => leB x s) = (l.any (fun x => leB x s) && allS s ts)
  | [], l, _ => by rw [leaU, allS, Bool.and_true]
  | t :: ts, l, h => by
    rw [okK, Bool.and_eq_true] at h
    rw [leaU, leaU_sat s ts _ h.2, unitL_any, Cn.lea_sat s t h.1, allS, Bool.and_assoc]
theorem leaO_sat (s : Sc) : ∀ (ts : List Cn) (l : List Sc), okK ts = true → (leaO ts l).any (fun x => leB x s) = (l.any (fun x => leB x s) || anyS s ts)
  | [], l, _ => by rw [leaO, anyS, Bool.or_false]
  | t :: ts, l, h => by
    rw [okK, Bool.and_eq_true] at h
    rw [leaO, leaO_sat s ts _ h.2, addL_any, Cn.lea_sat s t h.1, anyS, Bool.or_assoc]
end
theorem sat_mono {c : Cn} (hok : c.ok = true) {x s : Sc} (h : leB x s = true) (hs : c.sat x = true) : c.sat s = true := by
  rw [← Cn.lea_sat _ c hok] at hs ⊢
  obtain ⟨y, hy, e⟩ := List.any_eq_true.1 hs
  exact List.any_eq_true.2 ⟨y, hy, leB_trans e h⟩
/-- What the comparison of the least statuses answers. -/
def impL (a b : Cn) : Bool := !(a.lea.any fun s => !b.sat s)
theorem imp_sem {a b : Cn} (ha : a.ok = true) (hb : b.ok = true) : impL a b = true ↔ ∀ s, a.sat s = true → b.sat s = true := by
  unfold impL
  rw [Bool.not_eq_true', List.any_eq_false]
  constructor
  · intro h s hs
    rw [← Cn.lea_sat s a ha] at hs
    obtain ⟨x, hx, e⟩ := List.any_eq_true.1 hs
    have := h x hx
    rw [Bool.not_eq_true', Bool.not_eq_false] at this
    exact sat_mono hb e this
  · intro h x hx
    have h1 : a.sat x = true := by
      rw [← Cn.lea_sat x a ha]
      exact List.any_eq_true.2 ⟨x, hx, leB_refl x⟩
    rw [h x h1]
    simp
/-- What Implies answers. -/
def impB (a b : Cn) : Bool := decide (chkC 1 3 a = 0) && decide (chkC 1 3 b = 0) && impL a b
theorem impB_iff (a b : Cn) : impB a b = true ↔ chkC 1 3 a = 0 ∧ chkC 1 3 b = 0 ∧ ∀ s, a.sat s = true → b.sat s = true := by
  unfold impB
  rw [Bool.and_eq_true, Bool.and_eq_true, decide_eq_true_eq, decide_eq_true_eq]
  constructor
  · rintro ⟨⟨h1, h2⟩, h3⟩
    exact ⟨h1, h2, (imp_sem (chk_ok h1) (chk_ok h2)).1 h3⟩
  · rintro ⟨h1, h2, h3⟩
    exact ⟨⟨h1, h2⟩, (imp_sem (chk_ok h1) (chk_ok h2)).2 h3⟩
end Go.Proofs.YtjkbfogjfgnhiaaDoor
