
/-
  Plain mathematics of layer 20: chaining, block by block.
-/
import Derived.Test.YtdalcldilmmgmaaDoorCim
namespace Go.Proofs.YtdalcldilmmgmaaDoor
set_option linter.unusedVariables false
set_option linter.unusedSimpArgs false

/-- Block number i. -/
def blk (d : List UInt8) (i : Nat) : List UInt8 := (d.drop (8 * i)).take 8
theorem blk_len (d : List UInt8) (i : Nat) (h : 8 * i + 8 ≤ d.length) : (blk d i).length = 8 := by simp [blk]; omega
/-- What is written and the link, after i blocks. -/
def encS (k iv d : List UInt8) : Nat → List UInt8 × List UInt8
  | 0 => ([], iv)
  | i + 1 => ((encS k iv d i).1 ++ encB k (xorL (blk d i) (encS k iv d i).2), encB k (xorL (blk d i) (encS k iv d i).2))
def decS (k iv d : List UInt8) : Nat → List UInt8 × List UInt8
  | 0 => ([], iv)
  | i + 1 => ((decS k iv d i).1 ++ xorL (decB k (blk d i)) (decS k iv d i).2, blk d i)
def cbE (k iv d : List UInt8) : List UInt8 := (encS k iv d (d.length / 8)).1
def cbD (k iv d : List UInt8) : List UInt8 := (decS k iv d (d.length / 8)).1
/-- The error of both. -/
def fitC (k iv d : List UInt8) : Int := if k.length ≠ 16 ∨ iv.length ≠ 8 ∨ d.length % 8 ≠ 0 then 1 else 0
theorem fitC_zero {k iv d : List UInt8} (h : fitC k iv d = 0) : k.length = 16 ∧ iv.length = 8 ∧ d.length = 8 * (d.length / 8) := by
  unfold fitC at h
  split at h
  · simp at h
  · rename_i hn
    simp only [not_or, Decidable.not_not] at hn
    exact ⟨hn.1, hn.2.1, by omega⟩
theorem encS_link (k iv d : List UInt8) (i : Nat) (h : iv.length = 8) : (encS k iv d i).2.length = 8 := by
  cases i with
  | zero => exact h
  | succ i => exact encB_length _ _
theorem encS_len (k iv d : List UInt8) (i : Nat) : (encS k iv d i).1.length = 8 * i := by
  induction i with
  | zero => rfl
  | succ i ih => rw [encS, List.length_append, ih, encB_length]; omega
theorem decS_link (k iv d : List UInt8) (i : Nat) (h : iv.length = 8) (hi : 8 * i ≤ d.length) : (decS k iv d i).2.length = 8 := by
  cases i with
  | zero => exact h
  | succ i => exact blk_len d i (by omega)
theorem xor_len8 {a b : List UInt8} (h : a.length = 8) (g : b.length = 8) : (xorL a b).length = 8 := by rw [xorL_length a b (by omega), h]
theorem decS_len (k iv d : List UInt8) (i : Nat) (h : iv.length = 8) (hi : 8 * i ≤ d.length) : (decS k iv d i).1.length = 8 * i := by
  induction i with
  | zero => rfl
  | succ i ih => rw [decS, List.length_append, ih (by omega), xor_len8 (decB_length _ _) (decS_link k iv d i h (by omega))]; omega
theorem cbE_len (k iv d : List UInt8) (hd : d.length = 8 * (d.length / 8)) : (cbE k iv d).length = d.length := by rw [cbE, encS_len]; exact hd.symm
theorem cbD_len (k iv d : List UInt8) (h : iv.length = 8) (hd : d.length = 8 * (d.length / 8)) : (cbD k iv d).length = d.length := by rw [cbD, decS_len k iv d _ h (by omega)]; exact hd.symm
theorem blk_append (a b : List UInt8) (i n : Nat) (ha : a.length = 8 * n) (hi : i < n) : blk (a ++ b) i = blk a i := by
  unfold blk
  rw [List.drop_append_of_le_length (by omega), List.take_append_of_le_length (by simp; omega)]
theorem blk_last (a b : List UInt8) (n : Nat) (ha : a.length = 8 * n) (hb : b.length = 8) : blk (a ++ b) n = b := by
  unfold blk
  rw [List.drop_append_of_le_length (by omega), List.drop_eq_nil_of_le (by omega), List.nil_append, List.take_of_length_le (by omega)]
/-- What was written stays as a block. -/
theorem encS_blk (k iv d : List UInt8) (i n : Nat) (h : i < n) : blk (encS k iv d n).1 i = encB k (xorL (blk d i) (encS k iv d i).2) := by
  induction n with
  | zero => omega
  | succ n ih =>
    rw [encS]
    by_cases e : i = n
    · subst e
      exact blk_last _ _ i (encS_len k iv d i) (encB_length _ _)
    · rw [blk_append _ _ i n (encS_len k iv d n) (by omega)]
      exact ih (by omega)
theorem decS_blk (k iv d : List UInt8) (i n : Nat) (h : i < n) (hv : iv.length = 8) (hn : 8 * n ≤ d.length) : blk (decS k iv d n).1 i = xorL (decB k (blk d i)) (decS k iv d i).2 := by
  induction n with
  | zero => omega
  | succ n ih =>
    rw [decS]
    by_cases e : i = n
    · subst e
      exact blk_last _ _ i (decS_len k iv d i hv (by omega)) (xor_len8 (decB_length _ _) (decS_link k iv d i hv (by omega)))
    · rw [blk_append _ _ i n (decS_len k iv d n hv (by omega)) (by omega)]
      exact ih (by omega) (by omega)
theorem take_blk (d : List UInt8) (i : Nat) : d.take (8 * i) ++ blk d i = d.take (8 * (i + 1)) := by
  unfold blk
  rw [show 8 * (i + 1) = 8 * i + 8 by omega, List.take_add]
theorem take_all (d : List UInt8) (hd : d.length = 8 * (d.length / 8)) : d.take (8 * (d.length / 8)) = d := by rw [← hd, List.take_length]
/-- Decryption undoes encryption. -/
theorem cbD_cbE (k iv d : List UInt8) (hv : iv.length = 8) (hd : d.length = 8 * (d.length / 8)) : cbD k iv (cbE k iv d) = d := by
  have hl := cbE_len k iv d hd
  have key : ∀ i, 8 * i ≤ d.length → decS k iv (cbE k iv d) i = (d.take (8 * i), (encS k iv d i).2) := by
    intro i
    induction i with
    | zero => intro _; rfl
    | succ i ih =>
      intro hi
      have e : blk (cbE k iv d) i = encB k (xorL (blk d i) (encS k iv d i).2) := encS_blk k iv d i _ (by omega)
      have l1 := blk_len d i (by omega)
      have l2 := encS_link k iv d i hv
      rw [decS, ih (by omega), e, encS, dec_enc _ _ (xor_len8 l1 l2), xorL_xorL _ _ (by omega), take_blk]
  rw [cbD, hl, key _ (by omega)]
  exact take_all d hd
/-- Encryption undoes decryption. -/
theorem cbE_cbD (k iv d : List UInt8) (hv : iv.length = 8) (hd : d.length = 8 * (d.length / 8)) : cbE k iv (cbD k iv d) = d := by
  have hl := cbD_len k iv d hv hd
  have key : ∀ i, 8 * i ≤ d.length → encS k iv (cbD k iv d) i = (d.take (8 * i), (decS k iv d i).2) := by
    intro i
    induction i with
    | zero => intro _; rfl
    | succ i ih =>
      intro hi
      have e : blk (cbD k iv d) i = xorL (decB k (blk d i)) (decS k iv d i).2 := decS_blk k iv d i _ (by omega) hv (by omega)
      have l1 := blk_len d i (by omega)
      have l2 := decS_link k iv d i hv (by omega)
      rw [encS, ih (by omega)]
      simp only []
      rw [e, xorL_xorL _ _ (by rw [decB_length]; omega), enc_dec _ _ l1, take_blk, decS]
  rw [cbE, hl, key _ (by omega)]
  exact take_all d hd
/-- The link behind a string of blocks: its last block, or the initial value. -/
def lastB (iv o : List UInt8) : List UInt8 := if o.length < 8 then iv else o.drop (o.length - 8)
theorem encS_last (k iv d : List UInt8) (i : Nat) : (encS k iv d i).2 = lastB iv (encS k iv d i).1 := by
  unfold lastB
  rw [encS_len]
  cases i with
  | zero => rfl
  | succ i =>
    rw [if_neg (by omega), encS]
    simp only []
    rw [show 8 * (i + 1) - 8 = 8 * i by omega, List.drop_append_of_le_length (by rw [encS_len]; omega), List.drop_eq_nil_of_le (by rw [encS_len]; omega), List.nil_append]
/-- Two strings of blocks one after the other. -/
theorem cbE_append (k iv x y : List UInt8) (hx : x.length = 8 * (x.length / 8)) (hy : y.length = 8 * (y.length / 8)) : cbE k iv (x ++ y) = cbE k iv x ++ cbE k (lastB iv (cbE k iv x)) y := by
  have k1 : ∀ i, 8 * i ≤ x.length → encS k iv (x ++ y) i = encS k iv x i := by
    intro i
    induction i with
    | zero => intro _; rfl
    | succ i ih =>
      intro hi
      rw [encS, encS, ih (by omega), blk_append x y i (x.length / 8) hx (by omega)]
  have k2 : ∀ i, 8 * i ≤ y.length → encS k iv (x ++ y) (x.length / 8 + i) = (cbE k iv x ++ (encS k (lastB iv (cbE k iv x)) y i).1, (encS k (lastB iv (cbE k iv x)) y i).2) := by
    intro i
    induction i with
    | zero =>
      intro _
      rw [Nat.add_zero, k1 _ (by omega)]
      simp only [encS, List.append_nil, cbE]
      rw [← encS_last]
    | succ i ih =>
      intro hi
      have e : blk (x ++ y) (x.length / 8 + i) = blk y i := by
        unfold blk
        rw [show 8 * (x.length / 8 + i) = x.length + 8 * i by omega, List.drop_append]
        simp
        rw [List.drop_eq_nil_of_le (by omega), List.nil_append]
      rw [← Nat.add_assoc, encS, ih (by omega), e, encS]
      simp only [List.append_assoc]
  have hl : (x ++ y).length / 8 = x.length / 8 + y.length / 8 := by rw [List.length_append]; omega
  rw [cbE, hl, k2 _ (by omega)]
  rfl
end Go.Proofs.YtdalcldilmmgmaaDoor
