
/-
  Plain mathematics of layer 6: the round trip of blocks, and a wrong bit.
-/
import Derived.Test.YtijiggfeamibkaaDoorBld
namespace Go.Proofs.YtijiggfeamibkaaDoor
set_option linter.unusedVariables false
set_option linter.unusedSimpArgs false
open Go.RowKit

theorem byte_toNat {n : Nat} (h : n < 256) : (UInt8.ofNat n).toNat = n := by simp; omega
theorem raw_len (b : Bk) : (rawL b).length = 3 + b.inf.length := by simp [rawL]; omega
theorem raw0 (b : Bk) : (rawL b).getD 0 0 = UInt8.ofNat b.nad.toNat := rfl
theorem raw1 (b : Bk) : (rawL b).getD 1 0 = UInt8.ofNat (kdOf b).ctl := rfl
theorem raw2 (b : Bk) : (rawL b).getD 2 0 = UInt8.ofNat b.inf.length := rfl
theorem raw_drop (b : Bk) : (rawL b).drop 3 = b.inf := rfl
theorem nad_cases {n : Int} (h : okNad n = true) : 0 ≤ n ∧ n ≤ 254 := by simpa [okNad] using h
theorem cut_raw {b : Bk} (h : chkB b = 0) : cutB (rawL b) = b ∧ cutE (rawL b) = 0 := by
  obtain ⟨h1, h2, h3, h4, _⟩ := chk_ok h
  have hn := nad_cases h1
  have hl := infE_len h4
  have hb : cutB (rawL b) = b := by
    unfold cutB
    rw [raw0, raw1, raw_drop, byte_toNat (by omega), byte_toNat (ctl_lt h2), kdC_ctl h2]
    conv => rhs; rw [h3]
    congr 1
    omega
  refine ⟨hb, ?_⟩
  unfold cutE
  rw [hb, raw1, raw2, raw_len, byte_toNat (ctl_lt h2), byte_toNat (by omega), if_pos ⟨okC_ctl h2, by omega⟩, h]
theorem benE_app {k : Int} {b : Bk} (h : benE k b = 0) : (k = 0 ∨ k = 1) ∧ chkB b = 0 ∧ benV k b = appL k (rawL b) := by
  have hz : sizeK k ≠ 0 := by intro e; rw [benE, if_pos e] at h; omega
  have hk : k = 0 ∨ k = 1 := by
    unfold sizeK at hz
    split at hz
    · rename_i h0
      exact .inl h0
    · split at hz
      · rename_i h1
        exact .inr h1
      · omega
  have hc : chkB b = 0 := by rw [benE, if_neg hz] at h; exact h
  refine ⟨hk, hc, ?_⟩
  rw [benV, if_pos h, (app_rem k (rawL b) hk).1]
/-- What is encoded is decoded as it was. -/
theorem back_enc {k : Int} {b : Bk} (h : benE k b = 0) : bdeE k (benV k b) = 0 ∧ bdeV k (benV k b) = b := by
  obtain ⟨hk, hc, hv⟩ := benE_app h
  obtain ⟨a1, a2, a3, a4, a5⟩ := app_rem k (rawL b) hk
  have hz : sizeK k ≠ 0 := by rcases hk with rfl | rfl <;> decide
  obtain ⟨c1, c2⟩ := cut_raw hc
  have hl := raw_len b
  have he : bdeE k (benV k b) = 0 := by
    rw [hv, bdeE, if_neg hz, if_neg (by omega), if_neg (by omega), a3, c2]
  refine ⟨he, ?_⟩
  rw [bdeV, if_pos he, hv, a3, c1]
theorem rem_ok {k : Int} {l : List UInt8} (h : remE k l = 0) : sizeK k ≠ 0 ∧ sizeK k ≤ l.length ∧ remV k l = l.take (l.length - sizeK k) ∧ sumL k (remV k l) = l.drop (l.length - sizeK k) := by
  have hz : sizeK k ≠ 0 := by intro e; rw [remE, if_pos e] at h; omega
  have hs : ¬ l.length < sizeK k := by intro e; rw [remE, if_neg hz, if_pos e] at h; omega
  have ho : remOk k l = true := by
    rw [remE, if_neg hz, if_neg hs] at h
    split at h
    · assumption
    · omega
  have hv : remV k l = l.take (l.length - sizeK k) := by rw [remV, if_neg hz, if_neg hs, if_pos ho]
  refine ⟨hz, by omega, hv, ?_⟩
  rw [hv]
  unfold remOk at ho
  rw [beq_iff_eq] at ho
  exact ho
theorem three {d : List UInt8} (h : 3 ≤ d.length) : d = [d.getD 0 0, d.getD 1 0, d.getD 2 0] ++ d.drop 3 := by
  match d, h with
  | x :: y :: z :: r, _ => rfl
theorem raw_cut {d : List UInt8} (h3 : 3 ≤ d.length) (h : cutE d = 0) : rawL (cutB d) = d ∧ chkB (cutB d) = 0 := by
  unfold cutE at h
  split at h
  · rename_i hc
    obtain ⟨h1, h2⟩ := hc
    refine ⟨?_, h⟩
    rw [okC_iff _ (UInt8.toNat_lt _), Bool.and_eq_true, beq_iff_eq] at h1
    unfold rawL cutB
    rw [kdOf_comp, h1.2]
    have e1 : ∀ k, (compB ((d.getD 0 0).toNat : Int) k (d.drop 3)).nad = ((d.getD 0 0).toNat : Int) := fun k => by cases k <;> rfl
    have e2 : ∀ k, (compB ((d.getD 0 0).toNat : Int) k (d.drop 3)).inf = d.drop 3 := fun k => by cases k <;> rfl
    rw [e1, e2, List.length_drop, ← h2]
    conv => rhs; rw [three h3]
    simp
  · omega
/-- What is decoded is encoded as it was. -/
theorem back_dec {k : Int} {l : List UInt8} (h : bdeE k l = 0) : benE k (bdeV k l) = 0 ∧ benV k (bdeV k l) = l := by
  have hz : sizeK k ≠ 0 := by intro e; rw [bdeE, if_pos e] at h; omega
  have hs : ¬ l.length < 3 + sizeK k := by intro e; rw [bdeE, if_neg hz, if_pos e] at h; omega
  have hr : remE k l = 0 := by
    rcases Decidable.em (remE k l = 0) with hr | hr
    · exact hr
    · rw [bdeE, if_neg hz, if_neg hs, if_pos hr] at h; exact absurd h hr
  have hc : cutE (remV k l) = 0 := by rw [bdeE, if_neg hz, if_neg hs, if_neg (by omega)] at h; exact h
  obtain ⟨_, r2, r3, r4⟩ := rem_ok hr
  have hl : 3 ≤ (remV k l).length := by rw [r3, List.length_take]; omega
  obtain ⟨c1, c2⟩ := raw_cut hl hc
  have hv : bdeV k l = cutB (remV k l) := by rw [bdeV, if_pos h]
  have he : benE k (bdeV k l) = 0 := by rw [hv, benE, if_neg hz, c2]
  refine ⟨he, ?_⟩
  rw [benV, if_pos he, hv, c1, r4]
  conv => lhs; rw [r3]
  exact List.take_append_drop _ _
/-- A wrong bit is detected. -/
theorem damage {k : Int} {b : Bk} (h : benE k b = 0) (a : Nat) (ha : a < 8 * (benV k b).length) :
    bdeE k ((benV k b).set (a / 8) ((benV k b).getD (a / 8) 0 ^^^ bitB (a % 8))) = 6 ∧ bdeV k ((benV k b).set (a / 8) ((benV k b).getD (a / 8) 0 ^^^ bitB (a % 8))) = zeroB := by
  obtain ⟨hk, hc, hv⟩ := benE_app h
  obtain ⟨a1, a2, a3, a4, a5⟩ := app_rem k (rawL b) hk
  have hz : sizeK k ≠ 0 := by rcases hk with rfl | rfl <;> decide
  have hl := raw_len b
  rw [hv] at ha ⊢
  obtain ⟨d1, d2⟩ := det_flip k (rawL b) hk a ha
  have he : bdeE k ((appL k (rawL b)).set (a / 8) ((appL k (rawL b)).getD (a / 8) 0 ^^^ bitB (a % 8))) = 6 := by
    rw [bdeE, if_neg hz, if_neg (by rw [List.length_set]; omega), if_pos (by rw [d1]; decide), d1]
  exact ⟨he, by rw [bdeV, if_neg (by rw [he]; decide)]⟩
theorem ben_len {k : Int} {b : Bk} (h : benE k b = 0) : 4 ≤ (benV k b).length ∧ (benV k b).length ≤ 259 := by
  obtain ⟨hk, hc, hv⟩ := benE_app h
  obtain ⟨a1, a2, a3, a4, a5⟩ := app_rem k (rawL b) hk
  obtain ⟨_, _, _, h4, _⟩ := chk_ok hc
  have hl := raw_len b
  have := infE_len h4
  have hz : 1 ≤ sizeK k ∧ sizeK k ≤ 2 := by rcases hk with rfl | rfl <;> decide
  rw [hv]
  omega
end Go.Proofs.YtijiggfeamibkaaDoor
