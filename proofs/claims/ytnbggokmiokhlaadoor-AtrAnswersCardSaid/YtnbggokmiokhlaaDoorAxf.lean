/-
  further of the reference: mathematics.
-/
import Derived.Test.YtnbggokmiokhlaaDoorAxb
import Derived.Test.YtnbggokmiokhlaaDoorAwe
namespace Go.Proofs.YtnbggokmiokhlaaDoor
set_option linter.unusedVariables false
set_option linter.unusedSimpArgs false
open Go.RowKit

theorem rem_lrc {l : List UInt8} (h : 1 ≤ l.length) : remE 0 l = if lrcL l = 0 then 0 else 6 := by
  have e : sizeK 0 = 1 := rfl
  have hd : l.drop (l.length - 1) = [l.getD (l.length - 1) 0] := by
    rw [List.drop_eq_getElem_cons (by omega), List.drop_of_length_le (by omega)]
    simp [List.getD, List.getElem?_eq_getElem (show l.length - 1 < l.length by omega)]
  have ht := lrcL_take l (l.length - 1) (by omega)
  rw [show l.length - 1 + 1 = l.length by omega, List.take_length] at ht
  unfold remE
  rw [e, if_neg (by omega), if_neg (by omega)]
  have hs : sumL 0 (l.take (l.length - 1)) = [lrcL (l.take (l.length - 1))] := rfl
  have hk : (remOk 0 l = true) ↔ lrcL l = 0 := by
    unfold remOk
    rw [e, hs, hd, ht, beq_iff_eq]
    constructor
    · intro h; injection h with h1 _; rw [h1]; simp
    · intro h; rw [UInt8.xor_eq_zero_iff.1 h]
  by_cases c : lrcL l = 0
  · rw [if_pos (hk.2 c), if_pos c]
  · rw [if_neg (fun x => c (hk.1 x)), if_neg c]
theorem ann_div (y : UInt8) {k : Nat} (hk : k < 3) : (((y.toNat / 16 / 2 ^ k : Nat) : Int) % 2 == 1) = annB y k := by
  have h : ∀ k : Nat, k < 256 → ((((UInt8.ofNat k).toNat / 16 / 2 ^ 0 : Nat) : Int) % 2 == 1) = annB (UInt8.ofNat k) 0 ∧ ((((UInt8.ofNat k).toNat / 16 / 2 ^ 1 : Nat) : Int) % 2 == 1) = annB (UInt8.ofNat k) 1 ∧ ((((UInt8.ofNat k).toNat / 16 / 2 ^ 2 : Nat) : Int) % 2 == 1) = annB (UInt8.ofNat k) 2 := by decide +kernel
  have e : y = UInt8.ofNat y.toNat := by simp
  have := h y.toNat y.toNat_lt
  rw [← e] at this
  have h3 : k = 0 ∨ k = 1 ∨ k = 2 := by omega
  rcases h3 with rfl | rfl | rfl
  · exact this.1
  · exact this.2.1
  · exact this.2.2
theorem div_step (m k : Nat) : m / 16 / 2 ^ (k + 1) = m / 16 / 2 ^ k / 2 := by rw [Nat.pow_succ, ← Nat.div_div_eq_div_mul (m / 16)]
/-- The reference's row of further bytes behind k rounds. -/
def refK (l : List UInt8) (y : UInt8) (k i : Nat) : Int := if i < k ∧ annB y i = true ∧ 2 + annN y i < l.length then ((l.getD (2 + annN y i) 0).toNat : Int) else -1
theorem refK_same {l : List UInt8} {y : UInt8} {k i : Nat} (h : i ≠ k ∨ annB y k = false ∨ l.length ≤ 2 + annN y k) : refK l y (k + 1) i = refK l y k i := by
  unfold refK
  by_cases e : i = k
  · subst e
    rcases h with h | h | h
    · exact absurd rfl h
    · rw [if_neg (by simp [h]), if_neg (by omega)]
    · rw [if_neg (by omega), if_neg (by omega)]
  · by_cases e2 : i < k
    · by_cases e3 : annB y i = true ∧ 2 + annN y i < l.length
      · rw [if_pos ⟨by omega, e3⟩, if_pos ⟨e2, e3⟩]
      · rw [if_neg (fun x => e3 x.2), if_neg (fun x => e3 x.2)]
    · rw [if_neg (by omega), if_neg (by omega)]
theorem refK_put {l : List UInt8} {y : UInt8} {k : Nat} (h1 : annB y k = true) (h2 : 2 + annN y k < l.length) : refK l y (k + 1) k = ((l.getD (2 + annN y k) 0).toNat : Int) := by
  unfold refK
  rw [if_pos ⟨by omega, h1, h2⟩]
def rowK (l : List UInt8) (y : UInt8) (k : Nat) : Array Value := #[.int .i64 (refK l y k 0), .int .i64 (refK l y k 1), .int .i64 (refK l y k 2)]
theorem rowK_zero (l : List UInt8) (y : UInt8) : rowK l y 0 = #[.int .i64 (-1), .int .i64 (-1), .int .i64 (-1)] := rfl
theorem rowK_skip {l : List UInt8} {y : UInt8} {k : Nat} (h : annB y k = false ∨ l.length ≤ 2 + annN y k) : rowK l y (k + 1) = rowK l y k := by
  unfold rowK
  rw [refK_same (.inr h), refK_same (.inr h), refK_same (.inr h)]
theorem rowK_put {l : List UInt8} {y : UInt8} {k : Nat} (hk : k < 3) (h1 : annB y k = true) (h2 : 2 + annN y k < l.length) : (rowK l y k).setIfInBounds k (.int .i64 ((l.getD (2 + annN y k) 0).toNat : Int)) = rowK l y (k + 1) := by
  have h3 : k = 0 ∨ k = 1 ∨ k = 2 := by omega
  have e := refK_put h1 h2
  rcases h3 with rfl | rfl | rfl
  · unfold rowK
    rw [e, refK_same (k := 0) (i := 1) (.inl (by omega)), refK_same (k := 0) (i := 2) (.inl (by omega))]; rfl
  · unfold rowK
    rw [e, refK_same (k := 1) (i := 0) (.inl (by omega)), refK_same (k := 1) (i := 2) (.inl (by omega))]; rfl
  · unfold rowK
    rw [e, refK_same (k := 2) (i := 0) (.inl (by omega)), refK_same (k := 2) (i := 1) (.inl (by omega))]; rfl
theorem row3_set (w : World) (g : Nat) (ty : TypeId) (a0 a1 a2 x0 x1 x2 : Value) (hg : w.heap[g]? = some (.cells #[a0, a1, a2] ty (0, 0))) :
    (((w.setCell ⟨g, 0, none⟩ x0).setCell ⟨g, 1, none⟩ x1).setCell ⟨g, 2, none⟩ x2).heap[g]? = some (.cells #[x0, x1, x2] ty (0, 0)) := by
  have h0 := heap_setCell_same w g 0 _ ty x0 hg
  have h1 := heap_setCell_same _ g 1 _ ty x1 h0
  have h2 := heap_setCell_same _ g 2 _ ty x2 h1
  rw [h2]
  simp
/-- What further returns. -/
def FarR (l : List UInt8) (w : World) (e : Ending) (w' : World) : Prop :=
  ∃ x0 x1 x2, e = .returned (.tuple #[.agg #[.int .i64 x0, .int .i64 x1, .int .i64 x2], .int .i64 (ppsE l)]) ∧ (ppsE l = 0 → #[.int .i64 x0, .int .i64 x1, .int .i64 x2] = rowK l (l.getD 1 0) 3) ∧ Below w.heap.size w w'
theorem far_bad {l : List UInt8} {w w' : World} {e : Ending} (E x0 x1 x2 : Int) (hE : ppsE l = E) (h0 : E ≠ 0) (he : e = .returned (.tuple #[.agg #[.int .i64 x0, .int .i64 x1, .int .i64 x2], .int .i64 E])) (hB : Below w.heap.size w w') : FarR l w e w' :=
  ⟨x0, x1, x2, by rw [he, hE], fun h => absurd (hE.symm.trans h) h0, hB⟩
end Go.Proofs.YtnbggokmiokhlaaDoor
