/-
  The mathematics of joining the commands of a chain.
-/
import Derived.Test.YtjoibonbmalbdaaCml
namespace Go.Proofs.Ytjoibonbmalbdaa
set_option linter.unusedVariables false
set_option linter.unusedSimpArgs false
open Go.RowKit

/-! ### The mathematics of Join -/
/-- What the class, the instruction and the parameters are, but for chaining. -/
def headC (c : Cm) : Kl × Int × Int × Int := (⟨(clsK c.cla).ch, (clsK c.cla).sec, false, (clsK c.cla).prp⟩, c.ins, c.p1, c.p2)
def sameK (a b : Kl) : Bool := a.ch == b.ch && a.sec == b.sec && a.chn == b.chn && a.prp == b.prp
/-- Whether two commands have the same head. -/
def hdB (c f : Cm) : Bool := (clsK c.cla).ch == (clsK f.cla).ch && (clsK c.cla).sec == (clsK f.cla).sec && (clsK c.cla).prp == (clsK f.cla).prp && c.ins == f.ins && c.p1 == f.p1 && c.p2 == f.p2
/-- The error of a part of a chain. -/
def prtE (c f : Cm) (last : Bool) : Int :=
  if chkC c = 0 then (if clsB c.cla = false ∨ (clsK c.cla).chn = last then 4 else if hdB c f = false then 4 else if last = false ∧ (c.data.length = 0 ∨ c.le ≠ 0) then 4 else 0) else chkC c
/-- The first error of the first k parts. -/
def jnK (cs : List Cm) : Nat → Int
  | 0 => 0
  | k + 1 => if jnK cs k = 0 then prtE (cs.getD k default) (cs.getD 0 default) (decide (k + 1 = cs.length)) else jnK cs k
def datL (cs : List Cm) : List UInt8 := (cs.map Cm.data).flatten
def jnE (cs : List Cm) : Int := if cs.length = 0 then 1 else if jnK cs cs.length = 0 then (if 65535 < (datL cs).length then 3 else 0) else jnK cs cs.length
def jnC (cs : List Cm) : Cm := if jnE cs = 0 then { cs.getD (cs.length - 1) default with data := datL cs, long := (cs.getD (cs.length - 1) default).long || decide (255 < (datL cs).length) } else default
theorem jnK_bad {cs : List Cm} {k j : Nat} (h : jnK cs k ≠ 0) (hj : k ≤ j) : jnK cs j = jnK cs k := by
  induction j with
  | zero => obtain rfl : k = 0 := by omega
            rfl
  | succ j ih =>
    by_cases e : k = j + 1
    · subst e; rfl
    · have := ih (by omega)
      simp only [jnK]
      rw [if_neg (by rw [this]; exact h), this]
theorem jnK_ok {cs : List Cm} : ∀ k, (∀ i, i < k → prtE (cs.getD i default) (cs.getD 0 default) (decide (i + 1 = cs.length)) = 0) → jnK cs k = 0
  | 0, _ => rfl
  | k + 1, h => by
    simp only [jnK]
    rw [if_pos (jnK_ok k fun i hi => h i (by omega)), h k (by omega)]

def claT (n : Int) : Bool := !(clsB n) || (clsK n).chn || (isB (n + 16) && (n + 16 != 255) && clsB (n + 16) && (clsK (n + 16)).chn && ((clsK (n + 16)).ch == (clsK n).ch) && ((clsK (n + 16)).sec == (clsK n).sec) && ((clsK (n + 16)).prp == (clsK n).prp) && (bytN ⟨(clsK n).ch, (clsK n).sec, true, (clsK n).prp⟩ == n + 16))
theorem cla_all {n : Int} (h : clsB n = true) (hc : (clsK n).chn = false) : isB (n + 16) = true ∧ n + 16 ≠ 255 ∧ clsB (n + 16) = true ∧ (clsK (n + 16)).chn = true ∧ (clsK (n + 16)).ch = (clsK n).ch ∧ (clsK (n + 16)).sec = (clsK n).sec ∧ (clsK (n + 16)).prp = (clsK n).prp ∧ bytN ⟨(clsK n).ch, (clsK n).sec, true, (clsK n).prp⟩ = n + 16 := by
  have hb : isB n = true := by
    cases hb : isB n
    · rw [clsB, hb] at h; cases h
    · rfl
  have ⟨h0, h1⟩ := isB_yes hb
  have key : ∀ m : Nat, m < 256 → claT (m : Int) = true := by decide +kernel
  obtain ⟨m, rfl⟩ := Int.eq_ofNat_of_zero_le h0
  have := key m (by omega)
  unfold claT at this
  rw [h, hc] at this
  simpa [bne_iff_ne, and_assoc] using this
theorem chn_chk {c : Cm} {n : Int} (h : chnE c n = 0) : chkC c = 0 ∧ 1 ≤ n ∧ n ≤ 255 ∧ clsB c.cla = true ∧ (clsK c.cla).chn = false := by
  unfold chnE at h
  by_cases h0 : chkC c = 0
  · rw [if_pos h0] at h
    by_cases h1 : n < 1 ∨ 255 < n
    · rw [if_pos h1] at h; omega
    · rw [if_neg h1] at h
      by_cases h2 : clsB c.cla = false ∨ (clsK c.cla).chn = true
      · rw [if_pos h2] at h; omega
      · refine ⟨h0, by omega, by omega, ?_, ?_⟩
        · cases e : clsB c.cla
          · exact absurd (.inl e) h2
          · rfl
        · cases e : (clsK c.cla).chn
          · rfl
          · exact absurd (.inr e) h2
  · rw [if_neg h0] at h; exact absurd h h0
theorem chk_prt7 {c : Cm} (h : chkC c = 0) : bytesC c = true ∧ badC c = false ∧ (c.data.length : Int) ≤ maxD c.long ∧ leC c = false ∧ emptyC c = false := by
  unfold chkC at h
  cases h1 : bytesC c
  · rw [h1] at h; simp at h
  · cases h2 : badC c
    · by_cases h3 : maxD c.long < c.data.length
      · rw [h1, h2, if_pos h3] at h; simp at h
      · cases h4 : leC c
        · cases h5 : emptyC c
          · exact ⟨rfl, rfl, by omega, rfl, rfl⟩
          · rw [h1, h2, if_neg h3, h4, h5] at h; simp at h
        · rw [h1, h2, if_neg h3, h4] at h; simp at h
    · rw [h1, h2] at h; simp at h
theorem chk_make {c : Cm} (h1 : bytesC c = true) (h2 : badC c = false) (h3 : (c.data.length : Int) ≤ maxD c.long) (h4 : leC c = false) (h5 : emptyC c = false) : chkC c = 0 := by
  unfold chkC
  rw [h1, h2, h4, h5, if_neg (by simp), if_neg (by simp), if_neg (by omega), if_neg (by simp), if_neg (by simp)]
theorem chk_mk {c : Cm} {n : Int} (h : chnE c n = 0) (d : List UInt8) (hd : d.length ≤ n) : chkC (mkC c d) = 0 := by
  obtain ⟨h0, h1, h2, h3, h4⟩ := chn_chk h
  obtain ⟨g1, g2, g3, g4, g5⟩ := chk_prt7 h0
  obtain ⟨k1, k2, k3, k4, k5, k6, k7, k8⟩ := cla_all h3 h4
  simp only [bytesC, Bool.and_eq_true] at g1
  simp only [badC, Bool.or_eq_false_iff, decide_eq_false_iff_not] at g2
  refine chk_make ?_ ?_ ?_ ?_ ?_
  · simp only [bytesC, mkC, Bool.and_eq_true]; exact ⟨⟨⟨k1, g1.1.1.2⟩, g1.1.2⟩, g1.2⟩
  · simp only [badC, mkC, Bool.or_eq_false_iff]; exact ⟨⟨decide_eq_false k2, decide_eq_false g2.1.2⟩, decide_eq_false g2.2⟩
  · simp only [maxD, mkC]; simp; omega
  · simp [leC, mkC, maxL]
  · simp [emptyC, mkC]
theorem chk_last {c : Cm} (h : chkC c = 0) (d : List UInt8) (hd : d.length ≤ c.data.length) (h0 : 0 < d.length ∨ c.data.length = 0) : chkC (lastC c d) = 0 := by
  obtain ⟨g1, g2, g3, g4, g5⟩ := chk_prt7 h
  refine chk_make g1 g2 ?_ g4 ?_
  · show (d.length : Int) ≤ maxD c.long; omega
  · cases hl : c.long
    · simp [emptyC, lastC, hl]
    · rcases h0 with h0 | h0
      · have : ¬ d = [] := fun e => by rw [e] at h0; simp at h0
        simp [emptyC, lastC, hl, this]
      · simp only [emptyC, hl, h0, decide_true, Bool.true_and, decide_eq_false_iff_not] at g5
        simp only [emptyC, lastC, hl, Bool.true_and, Bool.and_eq_false_iff, decide_eq_false_iff_not]
        exact .inr g5
/-- What is true of the parts of the chain of what is left. -/
theorem chnR_facts {c : Cm} {n : Int} (h : chnE c n = 0) : ∀ (f : Nat) (r : List UInt8), r.length ≤ f → r.length ≤ c.data.length → (0 < r.length ∨ c.data.length = 0) → datL (chnR c n.toNat r) = r ∧ 0 < (chnR c n.toNat r).length ∧
      (∀ i, i + 1 < (chnR c n.toNat r).length → ∃ d, (chnR c n.toNat r).getD i default = mkC c d ∧ d.length ≤ n ∧ 0 < d.length) ∧
      ∃ d, (chnR c n.toNat r).getD ((chnR c n.toNat r).length - 1) default = lastC c d ∧ d.length ≤ n ∧ d.length ≤ c.data.length ∧ (0 < d.length ∨ c.data.length = 0)
  | f, r, hf, hr, h0 => by
    obtain ⟨g0, g1, g2, _, _⟩ := chn_chk h
    by_cases hl : n.toNat < r.length
    · cases f with
      | zero => omega
      | succ f =>
      rw [chnR_more c n.toNat (by omega) r hl]
      obtain ⟨e1, e2, e3, e4⟩ := chnR_facts h f (r.drop n.toNat) (by simp; omega) (by simp; omega) (.inl (by simp; omega))
      refine ⟨?_, by simp, fun i hi => ?_, ?_⟩
      · unfold datL at e1 ⊢
        rw [List.map_cons, List.flatten_cons, e1]
        show r.take n.toNat ++ r.drop n.toNat = r
        exact List.take_append_drop _ _
      · cases i with
        | zero => exact ⟨r.take n.toNat, rfl, by simp; omega, by simp; omega⟩
        | succ i => exact e3 i (by simpa using hi)
      · obtain ⟨d, d1, d2⟩ := e4
        refine ⟨d, ?_, d2⟩
        obtain ⟨m, hm⟩ : ∃ m, (chnR c n.toNat (r.drop n.toNat)).length = m + 1 := ⟨(chnR c n.toNat (r.drop n.toNat)).length - 1, by omega⟩
        rw [hm] at d1
        rw [List.length_cons, hm]
        exact d1
    · rw [chnR_last c n.toNat r (by omega)]
      exact ⟨by simp [datL, lastC], by simp, fun i hi => absurd hi (by simp), r, rfl, by omega, hr, h0⟩
theorem hd_mk {c : Cm} (h3 : clsB c.cla = true) (h4 : (clsK c.cla).chn = false) (d e : List UInt8) : hdB (mkC c d) (mkC c e) = true ∧ hdB (lastC c d) (mkC c e) = true ∧ hdB (lastC c d) (lastC c e) = true ∧ hdB (mkC c d) (lastC c e) = true := by
  obtain ⟨k1, k2, k3, k4, k5, k6, k7, k8⟩ := cla_all h3 h4
  simp [hdB, mkC, lastC, k5, k6, k7]
theorem prt_mk {c : Cm} {n : Int} (h : chnE c n = 0) (d : List UInt8) (hd : d.length ≤ n) (h0 : 0 < d.length) (f : Cm) (hf : hdB (mkC c d) f = true) : prtE (mkC c d) f false = 0 := by
  obtain ⟨_, _, _, h3, h4⟩ := chn_chk h
  obtain ⟨k1, k2, k3, k4, _⟩ := cla_all h3 h4
  unfold prtE
  rw [if_pos (chk_mk h d hd), if_neg (by show ¬ (clsB (c.cla + 16) = false ∨ (clsK (c.cla + 16)).chn = false); rw [k3, k4]; simp), if_neg (by rw [hf]; simp), if_neg]
  rintro ⟨_, h5⟩
  have h5' : d.length = 0 ∨ (0 : Int) ≠ 0 := h5
  omega
theorem prt_last {c : Cm} {n : Int} (h : chnE c n = 0) (d : List UInt8) (hd : d.length ≤ c.data.length) (h0 : 0 < d.length ∨ c.data.length = 0) (f : Cm) (hf : hdB (lastC c d) f = true) : prtE (lastC c d) f true = 0 := by
  obtain ⟨h1, _, _, h3, h4⟩ := chn_chk h
  unfold prtE
  rw [if_pos (chk_last h1 d hd h0), if_neg (by show ¬ (clsB c.cla = false ∨ (clsK c.cla).chn = true); rw [h3, h4]; simp), if_neg (by rw [hf]; simp), if_neg (by simp)]
/-- A chain is joined to the command again. -/
theorem jn_chn {c : Cm} {n : Int} (h : chnE c n = 0) : jnE (chnL c n.toNat) = 0 ∧ sameC c (jnC (chnL c n.toNat)) = true ∧ ∀ i, i < (chnL c n.toNat).length → ((chnL c n.toNat).getD i default).data.length ≤ n ∧ chkC ((chnL c n.toNat).getD i default) = 0 := by
  obtain ⟨g0, g1, g2, g3, g4⟩ := chn_chk h
  have hL : chnL c n.toNat = chnR c n.toNat c.data := rfl
  rw [hL]
  obtain ⟨e1, e2, e3, d, e4, e5, e6, e7⟩ := chnR_facts h c.data.length c.data (Nat.le_refl _) (Nat.le_refl _) (by omega)
  generalize chnR c n.toNat c.data = cs at *
  have hall : ∀ i, i < cs.length → (i + 1 < cs.length ∧ ∃ d, cs.getD i default = mkC c d ∧ d.length ≤ n ∧ 0 < d.length) ∨ (i + 1 = cs.length ∧ ∃ d, cs.getD i default = lastC c d ∧ d.length ≤ n ∧ d.length ≤ c.data.length ∧ (0 < d.length ∨ c.data.length = 0)) := by
    intro i hi
    by_cases h1 : i + 1 < cs.length
    · exact .inl ⟨h1, e3 i h1⟩
    · have h2 : i = cs.length - 1 := by omega
      subst h2
      exact .inr ⟨by omega, d, e4, e5, e6, e7⟩
  have hk : jnK cs cs.length = 0 := jnK_ok _ fun i hi => by
    rcases hall i hi with ⟨h1, d1, h2, h3, h4⟩ | ⟨h1, d1, h2, h3, h4, h5⟩
    · rw [h2, decide_eq_false (by omega)]
      rcases hall 0 (by omega) with ⟨_, d2, h6, _⟩ | ⟨_, d2, h6, _⟩
      · rw [h6]; exact prt_mk h d1 h3 h4 _ (hd_mk g3 g4 _ _).1
      · rw [h6]; exact prt_mk h d1 h3 h4 _ (hd_mk g3 g4 _ _).2.2.2
    · rw [h2, decide_eq_true h1]
      rcases hall 0 (by omega) with ⟨_, d2, h6, _⟩ | ⟨_, d2, h6, _⟩
      · rw [h6]; exact prt_last h d1 h4 h5 _ (hd_mk g3 g4 _ _).2.1
      · rw [h6]; exact prt_last h d1 h4 h5 _ (hd_mk g3 g4 _ _).2.2.1
  obtain ⟨p1, p2, p3, p4, p5⟩ := chk_prt7 g0
  have hmx : (c.data.length : Int) ≤ 65535 := by
    cases hl : c.long <;> rw [hl] at p3 <;> simp [maxD] at p3 <;> omega
  have hE : jnE cs = 0 := by
    unfold jnE
    rw [if_neg (by omega), if_pos hk, if_neg (by rw [e1]; omega)]
  refine ⟨hE, ?_, fun i hi => ?_⟩
  · unfold jnC
    rw [if_pos hE, e4, e1]
    cases hl : c.long
    · rw [hl] at p3
      simp [maxD] at p3
      have : ¬ 255 < c.data.length := by omega
      simp [sameC, lastC, hl, this]
    · simp [sameC, lastC, hl]
  · rcases hall i hi with ⟨h1, d1, h2, h3, h4⟩ | ⟨h1, d1, h2, h3, h4, h5⟩
    · rw [h2]; exact ⟨h3, chk_mk h d1 h3⟩
    · rw [h2]; exact ⟨h3, chk_last g0 d1 h4 h5⟩
end Go.Proofs.Ytjoibonbmalbdaa
