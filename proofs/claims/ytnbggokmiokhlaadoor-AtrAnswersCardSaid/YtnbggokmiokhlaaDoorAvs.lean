/-
  The reference's encoding, in the words of the program's: mathematics.
-/
import Derived.Test.YtnbggokmiokhlaaDoorAvr
namespace Go.Proofs.YtnbggokmiokhlaaDoor
set_option linter.unusedVariables false
set_option linter.unusedSimpArgs false
open Go.RowKit

theorem or_nat : ∀ k, k < 16 → ∀ j, j < 8 → (UInt8.ofNat k ||| UInt8.ofNat (16 * j)).toNat = k + 16 * j ∧ (UInt8.ofNat k ||| UInt8.ofNat (16 * j) ||| 128).toNat = k + 16 * j + 128 := by decide +kernel
theorem hd_or (lo pr : UInt8) (h : lo.toNat ≤ 15) (hp : pr = 0 ∨ pr = 16 ∨ pr = 32 ∨ pr = 48 ∨ pr = 64 ∨ pr = 80 ∨ pr = 96 ∨ pr = 112) : (lo ||| pr).toNat = lo.toNat + pr.toNat ∧ (lo ||| pr ||| 128).toNat = lo.toNat + pr.toNat + 128 := by
  have e : lo = UInt8.ofNat lo.toNat := by simp
  obtain ⟨j, hj, hpj⟩ : ∃ j, j < 8 ∧ pr = UInt8.ofNat (16 * j) := by
    rcases hp with rfl | rfl | rfl | rfl | rfl | rfl | rfl | rfl
    · exact ⟨0, by omega, rfl⟩
    · exact ⟨1, by omega, rfl⟩
    · exact ⟨2, by omega, rfl⟩
    · exact ⟨3, by omega, rfl⟩
    · exact ⟨4, by omega, rfl⟩
    · exact ⟨5, by omega, rfl⟩
    · exact ⟨6, by omega, rfl⟩
    · exact ⟨7, by omega, rfl⟩
  have := or_nat lo.toNat (by omega) j hj
  have hpn : pr.toNat = 16 * j := by rw [hpj]; simp; omega
  rw [hpn]
  rw [hpj]
  rw [← e] at this
  exact this
/-- Group i + 1 of the reference, all elements seen. -/
def rgA (a : At) (i : Nat) : Rg := rgF a (i + 1) a.ibs.length
def grA (a : At) (i : Nat) : Gr := grs a a.ibs.length i
theorem gr_all {a : At} (h : Valid a) (i : Nat) : (rgA a i).vs = (grA a i).vs ∧ (rgA a i).pr = ((grA a i).pr.toNat : Int) ∧ 0 ≤ (rgA a i).pr ∧ (rgA a i).pr ≤ 112 ∧
    (1 ≤ i → (grA a i).lo = pb (rgA a i).p ∧ 0 ≤ (rgA a i).p ∧ (rgA a i).p ≤ 1) ∧
    ((hdB (grs a a.ibs.length) (cntN a) i).toNat : Int) = (rgA a i).pr + (if i + 1 < cntN a then 128 else 0) + (if i = 0 then (a.his.length : Int) else (rgA a i).p) := by
  have g := gr_ok h i a.ibs.length (Nat.le_refl _)
  obtain ⟨g1, g2, g3, g4, g5⟩ := g
  obtain ⟨p1, p2, _⟩ := g2
  have hle : (grs a a.ibs.length i).pr.toNat ≤ 112 := by rcases p2 with e | e | e | e | e | e | e | e <;> rw [e] <;> decide
  have hlo : (1 ≤ i → (grs a a.ibs.length i).lo = pb (rgF a (i + 1) a.ibs.length).p ∧ 0 ≤ (rgF a (i + 1) a.ibs.length).p ∧ (rgF a (i + 1) a.ibs.length).p ≤ 1) := by
    intro hi
    by_cases h1 : i = 1
    · have := g3 h1
      rw [this.1, this.2]
      have := off_first h.off
      exact ⟨rfl, by omega, by omega⟩
    · have := g4 (by omega)
      exact ⟨this.1, by omega, by omega⟩
  have hl15 : (grs a a.ibs.length i).lo.toNat ≤ 15 ∧ ((grs a a.ibs.length i).lo.toNat : Int) = if i = 0 then (a.his.length : Int) else (rgF a (i + 1) a.ibs.length).p := by
    by_cases h0 : i = 0
    · have hh := h.his
      rw [if_pos h0, g5 h0]
      have : (UInt8.ofNat a.his.length).toNat = a.his.length := by simp; omega
      rw [this]
      exact ⟨hh, rfl⟩
    · have := hlo (by omega)
      rw [if_neg h0, this.1]
      have hp := pb_nat this.2.1 (by omega)
      exact ⟨by omega, hp⟩
  have ho := hd_or _ _ hl15.1 p2
  refine ⟨g1, p1, by show 0 ≤ (rgF a (i + 1) a.ibs.length).pr; omega, by show (rgF a (i + 1) a.ibs.length).pr ≤ 112; omega, hlo, ?_⟩
  show _ = (rgF a (i + 1) a.ibs.length).pr + _ + (if i = 0 then (a.his.length : Int) else (rgF a (i + 1) a.ibs.length).p)
  rw [← hl15.2, p1]
  unfold hdB
  split
  · have := ho.2; omega
  · have := ho.1; omega
/-- What the reference has written behind j groups. -/
def rbo (a : At) (j : Nat) : List UInt8 := bodM (grs a a.ibs.length) (cntN a) j ++ if j < cntN a then [hdB (grs a a.ibs.length) (cntN a) j] else []
theorem rbo_zero {a : At} (h : Valid a) : rbo a 0 = [hdB (grs a a.ibs.length) (cntN a) 0] := by
  have := (cnt_facts h).1
  have hn : 0 < cntN a := by unfold cntN; omega
  rw [rbo, if_pos hn]; rfl
theorem rbo_succ {a : At} (j : Nat) (hj : j < cntN a) : rbo a (j + 1) = rbo a j ++ (grA a j).vs ++ if j + 1 < cntN a then [hdB (grs a a.ibs.length) (cntN a) (j + 1)] else [] := by
  unfold rbo grA
  rw [if_pos hj, bodM]
  simp
theorem rbo_all (a : At) : rbo a (cntN a) = bodM (grs a a.ibs.length) (cntN a) (cntN a) := by
  rw [rbo, if_neg (by omega), List.append_nil]
end Go.Proofs.YtnbggokmiokhlaaDoor
