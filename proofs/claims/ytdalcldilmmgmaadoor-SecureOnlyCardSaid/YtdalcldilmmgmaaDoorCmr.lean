/-
  Plain mathematics of layer 24: what wrap gives is what unwrap accepts; a MAC with another chaining value.
-/
import Derived.Test.YtdalcldilmmgmaaDoorMgd
namespace Go.Proofs.YtdalcldilmmgmaaDoor
set_option linter.unusedVariables false
set_option linter.unusedSimpArgs false
open Go.RowKit

theorem chkC_zero {x : Cm} (h : chkC x = 0) : bytesC x = true ∧ badC x = false ∧ (x.data.length : Int) ≤ maxD x.long ∧ leC x = false ∧ emptyC x = false := by
  unfold chkC at h
  split at h
  · simp at h
  · split at h
    · simp at h
    · split at h
      · simp at h
      · split at h
        · simp at h
        · split at h
          · simp at h
          · rename_i h1 h2 h3 h4 h5
            exact ⟨by simpa using h1, by simpa using h2, by omega, by simpa using h4, by simpa using h5⟩
theorem chkC_of {x : Cm} (h1 : bytesC x = true) (h2 : badC x = false) (h3 : (x.data.length : Int) ≤ maxD x.long) (h4 : leC x = false) (h5 : emptyC x = false) : chkC x = 0 := by
  unfold chkC
  rw [if_neg (by rw [h1]; simp), if_neg (by rw [h2]; simp), if_neg (by omega), if_neg (by rw [h4]; simp), if_neg (by rw [h5]; simp)]
theorem clE_zero {s : Ch} {x : Cm} (h : clE s x = 0) : s.cls = false ∧ chkC x = 0 ∧ clsB x.cla = true ∧ (clsK x.cla).chn = false := by
  unfold clE at h
  split at h
  · simp at h
  · split at h
    · rename_i h1 h2; exact absurd h h2
    · split at h
      · simp at h
      · rename_i h1 h2 h3
        rw [not_or] at h3
        exact ⟨by simpa using h1, by simpa using h2, by simpa using h3.1, by simpa using h3.2⟩
theorem clE_of {s : Ch} {x : Cm} (h1 : s.cls = false) (h2 : chkC x = 0) (h3 : clsB x.cla = true) (h4 : (clsK x.cla).chn = false) : clE s x = 0 := by
  unfold clE
  rw [if_neg (by rw [h1]; simp), if_neg (by rw [h2]; simp), if_neg (by rw [h3, h4]; simp)]
theorem wrE_zero {s : Ch} {x : Cm} (h : wrE s x = 0) : clE s x = 0 ∧ (clsK x.cla).sec = false := by
  have h0 : clE s x = 0 := by
    by_cases q : clE s x = 0
    · exact q
    · rw [wrE_cl q] at h; exact absurd h q
  refine ⟨h0, ?_⟩
  cases q : (clsK x.cla).sec with
  | false => rfl
  | true => rw [wrE_sec h0 q] at h; cases h
theorem leC_no {x : Cm} (h : leC x = false) : 0 ≤ x.le ∧ x.le ≤ maxL x.long := by
  unfold leC at h
  rw [Bool.or_eq_false_iff, decide_eq_false_iff_not, decide_eq_false_iff_not] at h
  omega
theorem maxL_lim (b : Bool) : maxL b ≤ 65536 := by cases b <;> decide
/-- The expected length as a natural number. -/
theorem le_nat {s : Ch} {x : Cm} (h : clE s x = 0) : ∃ N : Nat, x.le = (N : Int) ∧ N ≤ 65536 := by
  have h1 := leC_no (chkC_zero (clE_zero h).2.1).2.2.2.1
  have h2 := maxL_lim x.long
  exact ⟨x.le.toNat, by omega, by omega⟩

/-- The class byte of a protected command. -/
def clsOk (n : Int) : Bool := !(clsB n && !(clsK n).sec && !(clsK n).chn) ||
  (decide (bytN ⟨(clsK n).ch, true, (clsK n).chn, (clsK n).prp⟩ = n + 4) && clsB (n + 4) && (clsK (n + 4)).sec && !(clsK (n + 4)).chn && decide (bytN ⟨(clsK (n + 4)).ch, false, (clsK (n + 4)).chn, (clsK (n + 4)).prp⟩ = n) && decide (n + 4 ≠ 255))
theorem cls_all : (List.range 256).all (fun m => clsOk (m : Int)) = true := by decide +kernel
theorem cls_mac {n : Int} (h : clsB n = true) (hs : (clsK n).sec = false) (hc : (clsK n).chn = false) :
    bytN ⟨(clsK n).ch, true, (clsK n).chn, (clsK n).prp⟩ = n + 4 ∧ clsB (n + 4) = true ∧ (clsK (n + 4)).sec = true ∧ (clsK (n + 4)).chn = false ∧ bytN ⟨(clsK (n + 4)).ch, false, (clsK (n + 4)).chn, (clsK (n + 4)).prp⟩ = n ∧ n + 4 ≠ 255 := by
  have hb : isB n = true := by
    unfold clsB at h
    simp only [Bool.and_eq_true] at h
    exact h.1.1.1
  have h2 := isB_yes hb
  obtain ⟨m, rfl⟩ : ∃ m : Nat, n = (m : Int) := ⟨n.toNat, by omega⟩
  have := List.all_eq_true.1 cls_all m (List.mem_range.2 (by omega))
  unfold clsOk at this
  rw [h, hs, hc] at this
  rw [hc]
  simpa [and_assoc] using this

theorem encF_ge (s : Ch) (bit : Int) (iv d : List UInt8) (hiv : iv.length = 8) : (encF s bit iv d).length ≤ d.length + 8 := encF_le s bit iv d hiv
theorem cmF_len (s : Ch) (x : Cm) (b : List UInt8) : (cmF s x b).length = 8 := macL_len _ _ _
theorem wrD_len (s : Ch) (x : Cm) (n : Nat) : (wrD s x n).length = (wrB s x n).length + 8 := by rw [wrD, List.length_append, cmF_len]
theorem wrD_le (s : Ch) (x : Cm) (n : Nat) : (wrD s x n).length ≤ x.data.length + 16 := by
  rw [wrD_len]
  have := encF_le s 2 (ivF s.enc (n + 1) 0) x.data (ivF_len ..)
  unfold wrB; omega
theorem wrD_take (s : Ch) (x : Cm) (n : Nat) : (wrD s x n).take ((wrD s x n).length - 8) = wrB s x n := by
  rw [wrD_len, wrD, Nat.add_sub_cancel, List.take_append_of_le_length (Nat.le_refl _), List.take_length]
theorem wrD_drop (s : Ch) (x : Cm) (n : Nat) : (wrD s x n).drop ((wrD s x n).length - 8) = cmF s (wrX x) (wrB s x n) := by
  rw [wrD_len, wrD, Nat.add_sub_cancel, List.drop_append_of_le_length (Nat.le_refl _), List.drop_length, List.nil_append]
theorem dec_encF (s : Ch) (iv d : List UInt8) (he : s.enc.length = 16) (hiv : iv.length = 8) : decF s 2 iv (encF s 2 iv d) = some d := by
  unfold decF
  by_cases h : hasB s.lvl 2 = true ∧ d.length ≠ 0
  · have hp : (padL d 8).length = 8 * ((padL d 8).length / 8) := by rw [padL_len]; omega
    have hl := cbE_len s.enc iv (padL d 8) hp
    have h0 : (padL d 8).length ≠ 0 := by rw [padL_len]; omega
    rw [encF, if_pos h, if_pos ⟨h.1, by rw [hl]; exact h0⟩]
    have hf : fitC s.enc iv (cbE s.enc iv (padL d 8)) = 0 := by
      unfold fitC
      rw [if_neg (by rw [hl, not_or, not_or, Decidable.not_not, Decidable.not_not, Decidable.not_not]; exact ⟨he, hiv, by omega⟩)]
    rw [if_pos hf, cbD_cbE _ _ _ hiv hp]
    exact unpadL_padL d 8
  · rw [encF, if_neg h, if_neg h]

/-- What wrap gives is accepted, and gives the command. -/
structure RT (s s2 : Ch) (x y : Cm) (n : Nat) : Prop where
  cl : clE s2 y = 0
  sec : (clsK y.cla).sec = true
  l8 : 8 ≤ y.data.length
  mac : y.data.drop (y.data.length - 8) = cmF s y (y.data.take (y.data.length - 8))
  dec : decF s 2 (ivF s.enc (n + 1) 0) (y.data.take (y.data.length - 8)) = some x.data
  un : unY y x.data = ⟨x.cla, x.ins, x.p1, x.p2, x.data, x.le, y.long⟩
  cla : y.cla = x.cla + 4
  len : y.data.length ≤ x.data.length + 16
theorem rt_any (s s2 : Ch) (x : Cm) (n : Nat) (he : s.enc.length = 16) (hc : s2.cls = false) (hE : wrE s x = 0) (hl : x.data.length ≤ 1984) : RT s s2 x (wrY s x n) n := by
  obtain ⟨h0, hs⟩ := wrE_zero hE
  obtain ⟨h1, h2, h3, h4⟩ := clE_zero h0
  obtain ⟨a1, a2, a3, a4, a5⟩ := chkC_zero h2
  obtain ⟨b1, b2, b3, b4, b5, b6⟩ := cls_mac h3 hs h4
  have hcla : (wrX x).cla = x.cla + 4 := b1
  have hdl := wrD_le s x n
  have hd8 := wrD_len s x n
  have e1 : (wrY s x n).cla = x.cla + 4 := b1
  have e2 : (wrY s x n).data = wrD s x n := rfl
  have e3 : (wrY s x n).long = (x.long || decide ((255 : Int) < ((wrD s x n).length : Int))) := rfl
  have e4 : (wrY s x n).le = x.le := rfl
  have hb4 : isB (x.cla + 4) = true := by
    unfold clsB at b2
    simp only [Bool.and_eq_true] at b2
    exact b2.1.1.1
  have k1 : bytesC (wrY s x n) = true := by
    unfold bytesC at a1 ⊢
    rw [e1, hb4]
    simp only [Bool.and_eq_true] at a1
    show (true && isB x.ins && isB x.p1 && isB x.p2) = true
    rw [a1.1.1.2, a1.1.2, a1.2]
    rfl
  have k2 : badC (wrY s x n) = false := by
    unfold badC at a2 ⊢
    rw [e1, decide_eq_false b6]
    rw [Bool.or_eq_false_iff, Bool.or_eq_false_iff] at a2
    show (false || decide (x.ins / 16 = 6) || decide (x.ins / 16 = 9)) = false
    rw [a2.1.2, a2.2]
    rfl
  have k3 : ((wrY s x n).data.length : Int) ≤ maxD (wrY s x n).long := by
    rw [e2, e3]
    by_cases q : (255 : Int) < ((wrD s x n).length : Int)
    · rw [decide_eq_true q, Bool.or_true]
      show _ ≤ (65535 : Int)
      omega
    · rw [decide_eq_false q, Bool.or_false]
      cases x.long
      · show _ ≤ (255 : Int); omega
      · show _ ≤ (65535 : Int); omega
  have k4 : leC (wrY s x n) = false := by
    have := leC_no a4
    unfold leC
    rw [e3, e4, Bool.or_eq_false_iff, decide_eq_false_iff_not, decide_eq_false_iff_not]
    refine ⟨by omega, ?_⟩
    cases hq : x.long
    · rw [hq] at this
      have h2 : maxL false ≤ maxL (false || decide ((255 : Int) < ((wrD s x n).length : Int))) := by cases decide ((255 : Int) < ((wrD s x n).length : Int)) <;> decide
      omega
    · rw [hq] at this
      rw [Bool.true_or]
      omega
  have k5 : emptyC (wrY s x n) = false := by
    unfold emptyC
    rw [e2, decide_eq_false (by omega), Bool.and_false, Bool.false_and]
  refine ⟨clE_of hc (chkC_of k1 k2 k3 k4 k5) (by rw [e1]; exact b2) (by rw [e1]; exact b4), by rw [e1]; exact b3, by rw [e2]; omega, ?_, ?_, ?_, e1, by rw [e2]; exact hdl⟩
  · rw [e2, wrD_take, wrD_drop]
    rfl
  · rw [e2, wrD_take]
    exact dec_encF s _ _ he (ivF_len ..)
  · unfold unY
    rw [e1, b5]
    rfl

/-! ### MACs -/
theorem macL_link (k iv d : List UInt8) (h : iv.length = 8) : macL k iv d = (encS k iv (padL d 8) ((padL d 8).length / 8)).2 := by
  have hp : (padL d 8).length = 8 * ((padL d 8).length / 8) := by rw [padL_len]; omega
  have h0 : ¬ (padL d 8).length < 8 := by rw [padL_len]; omega
  rw [encS_last, lastB, encS_len, ← hp, if_neg h0]
  rfl
theorem xorL_comm (a b : List UInt8) : xorL a b = xorL b a := by
  unfold xorL
  induction a generalizing b with
  | nil => cases b <;> rfl
  | cons x xs ih => cases b with
    | nil => rfl
    | cons y ys => rw [List.zipWith_cons_cons, List.zipWith_cons_cons, ih ys, UInt8.xor_comm]
theorem xorL_cancel {a b c : List UInt8} (ha : a.length = 8) (hb : b.length = 8) (hc : c.length = 8) (h : xorL a b = xorL a c) : b = c := by
  have h1 := xorL_xorL b a (by omega)
  have h2 := xorL_xorL c a (by omega)
  rw [← h1, ← h2, xorL_comm b a, xorL_comm c a, h]
theorem encS_inj (k d iv iv2 : List UInt8) (h1 : iv.length = 8) (h2 : iv2.length = 8) (i : Nat) (hi : 8 * i ≤ d.length) (h : (encS k iv d i).2 = (encS k iv2 d i).2) : iv = iv2 := by
  induction i with
  | zero => exact h
  | succ i ih =>
    refine ih (by omega) ?_
    rw [encS, encS] at h
    simp only [] at h
    have l0 := blk_len d i (by omega)
    have l1 := encS_link k iv d i h1
    have l2 := encS_link k iv2 d i h2
    have := congrArg (decB k) h
    rw [dec_enc _ _ (xor_len8 l0 l1), dec_enc _ _ (xor_len8 l0 l2)] at this
    exact xorL_cancel l0 l1 l2 this
/-- Another chaining value gives another MAC. -/
theorem macL_ne {k iv iv2 d : List UInt8} (h1 : iv.length = 8) (h2 : iv2.length = 8) (h : iv ≠ iv2) : macL k iv d ≠ macL k iv2 d := by
  rw [macL_link k iv d h1, macL_link k iv2 d h2]
  intro e
  exact h (encS_inj k (padL d 8) iv iv2 h1 h2 _ (by rw [padL_len]; omega) e)
end Go.Proofs.YtdalcldilmmgmaaDoor
