/-
  The reference's view of validity, of the number of groups and of a group: mathematics.
-/
import Derived.Test.YtnbggokmiokhlaaDoorAva
namespace Go.Proofs.YtnbggokmiokhlaaDoor
set_option linter.unusedVariables false
set_option linter.unusedSimpArgs false
open Go.RowKit

/-- The reference's round: may x come behind an element of group g, kind k, the protocol being p? -/
def rstB (P : List Int) (g k p : Int) (x : Ib) : Bool :=
  if x.g < 1 ∨ x.k < 0 ∨ 2 < x.k ∨ x.v < 0 ∨ 255 < x.v then false
  else if x.g < g ∨ (x.g = g ∧ x.k ≤ k) then false
  else if (x.g = 1 ∧ x.p ≠ 0) ∨ (x.g = 2 ∧ x.p ≠ P.getD 0 0) then false
  else if 3 ≤ x.g then
    if hasN P x.p = false ∨ x.p < p ∨ (x.g = g ∧ x.p ≠ p) then false
    else if 4 ≤ x.g ∧ x.g ≠ g ∧ x.g - 1 ≠ g then false else true
  else true
def rnxP (p : Int) (x : Ib) : Int := if 3 ≤ x.g then x.p else p
def rokB (P : List Int) : Int → Int → Int → List Ib → Bool
  | _, _, _, [] => true
  | g, k, p, x :: xs => rstB P g k p x && rokB P x.g x.k (rnxP p x) xs
theorem off_low {P : List Int} (h : offB P = true) {p : Int} (hp : hasN P p = true) : P.getD 0 0 ≤ p := by
  match P, h with
  | [x], h => simp [hasN] at hp; simp [hp]
  | [x, y], h =>
    simp [offB] at h
    obtain ⟨rfl, rfl⟩ := h
    have := off_has (P := [0, 1]) rfl hp
    simp
    omega
set_option maxHeartbeats 1600000 in
theorem rst_eq {P : List Int} (h : offB P = true) (x y : Ib) (hy : 3 ≤ y.g → hasN P y.p = true) : rstB P y.g y.k (if 3 ≤ y.g then y.p else P.getD 0 0) x = (ibB x && aftB x y && fitB x y P) := by
  have hlow := @off_low P h x.p
  unfold rstB fitB ibB aftB
  generalize P.getD 0 0 = q at *
  by_cases e : x.p = y.p
  · rw [← e] at hy ⊢
    generalize hasN P x.p = X at *
    obtain ⟨g, k, v, p⟩ := x
    obtain ⟨g', k', v', p'⟩ := y
    simp only at *
    subst e
    rw [Bool.eq_iff_iff]
    cases X <;> simp at hy hlow ⊢ <;> split <;> (try split) <;> (try split) <;> (try split) <;> (try split) <;> (try simp) <;> (try omega)
  · generalize hasN P x.p = X at *
    generalize hasN P y.p = Y at *
    obtain ⟨g, k, v, p⟩ := x
    obtain ⟨g', k', v', p'⟩ := y
    simp only at *
    rw [Bool.eq_iff_iff]
    cases X <;> simp at hlow ⊢ <;> split <;> (try split) <;> (try split) <;> (try split) <;> (try split) <;> (try simp) <;> (try omega)
theorem rok_eq {P : List Int} (h : offB P = true) : ∀ (l : List Ib) (y : Ib), (3 ≤ y.g → hasN P y.p = true) → rokB P y.g y.k (if 3 ≤ y.g then y.p else P.getD 0 0) l = chnB P y l
  | [], _, _ => rfl
  | x :: xs, y, hy => by
    simp only [rokB, chnB]
    rw [rst_eq h x y hy]
    by_cases hf : (ibB x && aftB x y && fitB x y P) = true
    · rw [hf]
      simp only [Bool.and_eq_true] at hf
      have hx : 3 ≤ x.g → hasN P x.p = true := fun h3 => by
        have b := fi_facts hf.2
        by_cases h4 : x.g = y.g
        · rw [b.2.2.1 h3 h4]; exact hy (by omega)
        · exact b.2.2.2.1 h3 h4
      have hle := (af_facts hf.1.2).1
      have e : rnxP (if 3 ≤ y.g then y.p else P.getD 0 0) x = if 3 ≤ x.g then x.p else P.getD 0 0 := by
        unfold rnxP
        by_cases h3 : 3 ≤ x.g
        · rw [if_pos h3, if_pos h3]
        · rw [if_neg h3, if_neg h3, if_neg (by omega)]
      rw [e, rok_eq h xs x hx]
    · rw [Bool.not_eq_true] at hf
      rw [hf]; rfl
theorem rok_valid {P : List Int} (h : offB P = true) (l : List Ib) : rokB P 0 0 (P.getD 0 0) l = chnB P Ib.zero l := by
  have := rok_eq h l Ib.zero (fun h => absurd h (by simp [Ib.zero]))
  simpa [Ib.zero] using this

/-- The reference's groups: values, presence, protocol. -/
structure Rg where
  vs : List UInt8
  pr : Int
  p : Int
def bitI (k : Int) : Int := if k = 0 then 16 else if k = 1 then 32 else 64
def rg0 (a : At) (g : Int) : Rg := ⟨[], 0, if g = 2 then a.prs.getD 0 0 else 1⟩
def rgS (g : Int) (s : Rg) (x : Ib) : Rg := if x.g = g then ⟨s.vs ++ [pb x.v], s.pr + bitI x.k, x.p⟩ else s
def rgF (a : At) (g : Int) (k : Nat) : Rg := (a.ibs.take k).foldl (rgS g) (rg0 a g)
theorem rgF_zero (a : At) (g : Int) : rgF a g 0 = rg0 a g := rfl
theorem rgF_succ (a : At) (g : Int) (k : Nat) (hk : k < a.ibs.length) : rgF a g (k + 1) = rgS g (rgF a g k) (a.ibs.getD k Ib.zero) := by
  unfold rgF
  rw [List.take_succ_eq_append_getElem hk, List.foldl_append, gD_ib _ _ hk]
  rfl

/-- The presence's values: below 16 times 2 to the kind + 1. -/
def PrOk (n : Int) (p : UInt8) (k : Int) : Prop := n = (p.toNat : Int) ∧ (p = 0 ∨ p = 16 ∨ p = 32 ∨ p = 48 ∨ p = 64 ∨ p = 80 ∨ p = 96 ∨ p = 112) ∧ (k < 2 → p.toNat < 64) ∧ (k < 1 → p.toNat < 32) ∧ (k < 0 → p.toNat < 16)
theorem PrOk.step {n : Int} {p : UInt8} {k k' : Int} (h : PrOk n p k) (hk : k < k') (h0 : 0 ≤ k') (h2 : k' ≤ 2) : PrOk (n + bitI k') (p ||| bitK k') k' := by
  obtain ⟨rfl, hp, q2, q1, q0⟩ := h
  have hk' : k' = 0 ∨ k' = 1 ∨ k' = 2 := by omega
  rcases hk' with rfl | rfl | rfl
  · have := q0 (by omega)
    rcases hp with rfl | rfl | rfl | rfl | rfl | rfl | rfl | rfl <;> first | (refine ⟨by decide, by decide, by decide, by decide, by decide⟩) | (exfalso; revert this; decide)
  · have := q1 (by omega)
    rcases hp with rfl | rfl | rfl | rfl | rfl | rfl | rfl | rfl <;> first | (refine ⟨by decide, by decide, by decide, by decide, by decide⟩) | (exfalso; revert this; decide)
  · have := q2 (by omega)
    rcases hp with rfl | rfl | rfl | rfl | rfl | rfl | rfl | rfl <;> first | (refine ⟨by decide, by decide, by decide, by decide, by decide⟩) | (exfalso; revert this; decide)
theorem PrOk.mono {n : Int} {p : UInt8} {k k' : Int} (h : PrOk n p k) (hk : k ≤ k') : PrOk n p k' :=
  ⟨h.1, h.2.1, fun h' => h.2.2.1 (by omega), fun h' => h.2.2.2.1 (by omega), fun h' => h.2.2.2.2 (by omega)⟩
/-- How the two views of group i + 1 go together behind k elements. -/
structure GrOk (a : At) (i k : Nat) : Prop where
  vs : (rgF a (i + 1) k).vs = (grs a k i).vs
  pr : PrOk (rgF a (i + 1) k).pr (grs a k i).pr (if (lastOf Ib.zero a.ibs k).g < (i : Int) + 1 then -1 else if (lastOf Ib.zero a.ibs k).g = (i : Int) + 1 then (lastOf Ib.zero a.ibs k).k else 2)
  p2 : i = 1 → (rgF a (i + 1) k).p = a.prs.getD 0 0 ∧ (grs a k i).lo = pb (a.prs.getD 0 0)
  p3 : 2 ≤ i → (grs a k i).lo = pb (rgF a (i + 1) k).p ∧ ((rgF a (i + 1) k).p = 0 ∨ (rgF a (i + 1) k).p = 1)
  p1 : i = 0 → (grs a k i).lo = UInt8.ofNat a.his.length
theorem gr_ok {a : At} (h : Valid a) (i : Nat) : ∀ k, k ≤ a.ibs.length → GrOk a i k
  | 0, _ => by
    have e : (lastOf Ib.zero a.ibs 0).g = 0 := rfl
    refine ⟨rfl, ?_, fun hi => ?_, fun hi => ?_, fun hi => ?_⟩
    · rw [e, if_pos (by omega)]
      exact ⟨rfl, .inl rfl, fun _ => by show 0 < 64; omega, fun _ => by show 0 < 32; omega, fun _ => by show 0 < 16; omega⟩
    · subst hi; exact ⟨rfl, rfl⟩
    · rw [grs_zero, rgF_zero]
      simp only [gs0, rg0]
      rw [if_neg (by omega), if_neg (by omega), if_neg (by omega)]
      exact ⟨rfl, .inr rfl⟩
    · subst hi; rfl
  | k + 1, hk => by
    have ih := gr_ok h i k (by omega)
    have f := chnB_at a.prs a.ibs Ib.zero h.chn k (by omega)
    have c := ib_facts f.ib
    have d := af_facts f.af
    have fi := fi_facts f.fi
    have hpr := val_prot h.chn k (by omega)
    have hls := lastOf_s Ib.zero a.ibs k
    obtain ⟨i1, i2, i3, i4, i5⟩ := ih
    have hy2 : (lastOf Ib.zero a.ibs k).k ≤ 2 := by
      rcases k with _ | k
      · simp [lastOf, Ib.zero]
      · rw [lastOf_s]
        exact (ib_facts (chnB_at a.prs a.ibs Ib.zero h.chn k (by omega)).ib).2.2.1
    generalize lastOf Ib.zero a.ibs k = y at *
    by_cases hg : (i : Int) + 1 = (a.ibs.getD k Ib.zero).g
    · have eg : grs a (k + 1) i = ⟨if 3 ≤ (a.ibs.getD k Ib.zero).g then pb (a.ibs.getD k Ib.zero).p else (grs a k i).lo, (grs a k i).pr ||| bitK (a.ibs.getD k Ib.zero).k, (grs a k i).vs ++ [pb (a.ibs.getD k Ib.zero).v]⟩ := by
        rw [grs_succ a k (by omega), stp, if_pos hg]
      have er : rgF a (i + 1) (k + 1) = ⟨(rgF a (i + 1) k).vs ++ [pb (a.ibs.getD k Ib.zero).v], (rgF a (i + 1) k).pr + bitI (a.ibs.getD k Ib.zero).k, (a.ibs.getD k Ib.zero).p⟩ := by
        rw [rgF_succ a _ k (by omega), rgS, if_pos hg.symm]
      refine ⟨by rw [eg, er, i1], ?_, fun hi => ?_, fun hi => ?_, fun hi => ?_⟩
      · rw [hls, eg, er]
        dsimp only
        rw [if_neg (by omega), if_pos (by omega)]
        refine i2.step ?_ c.2.1 c.2.2.1
        by_cases hy : y.g < (i : Int) + 1
        · rw [if_pos hy]; omega
        · rw [if_neg hy, if_pos (by omega)]; exact d.2 (by omega)
      · rw [eg, er]
        refine ⟨fi.2.1 (by omega), ?_⟩
        simp only
        rw [if_neg (by omega)]
        exact (i3 hi).2
      · rw [eg, er]
        simp only
        rw [if_pos (by omega)]
        exact ⟨rfl, off_has h.off (hpr (by omega))⟩
      · rw [eg]
        simp only
        rw [if_neg (by omega)]
        exact i5 hi
    · have eg : grs a (k + 1) i = grs a k i := by rw [grs_succ a k (by omega), stp, if_neg hg]
      have er : rgF a (i + 1) (k + 1) = rgF a (i + 1) k := by rw [rgF_succ a _ k (by omega), rgS, if_neg (fun e => hg e.symm)]
      refine ⟨by rw [eg, er]; exact i1, ?_, by rw [eg, er]; exact i3, by rw [eg, er]; exact i4, by rw [eg]; exact i5⟩
      rw [eg, er, hls]
      refine i2.mono ?_
      by_cases hy : y.g < (i : Int) + 1
      · rw [if_pos hy]
        split
        · omega
        · split <;> omega
      · rw [if_neg hy, if_neg (show ¬ (a.ibs.getD k Ib.zero).g < (i : Int) + 1 by omega), if_neg (show ¬ (a.ibs.getD k Ib.zero).g = (i : Int) + 1 by omega)]
        split
        · exact hy2
        · omega
end Go.Proofs.YtnbggokmiokhlaaDoor
