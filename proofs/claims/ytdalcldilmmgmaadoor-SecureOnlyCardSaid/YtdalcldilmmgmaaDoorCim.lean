
/-
  Plain mathematics of layer 19: the rounds of the block cipher at two words, and that the rounds backwards undo them.
-/
import Derived.Test.YtdalcldilmmgmaaDoorMath
namespace Go.Proofs.YtdalcldilmmgmaaDoor
set_option linter.unusedVariables false
set_option linter.unusedSimpArgs false

/-- The function F. -/
def f32 (x k : UInt32) : UInt32 :=
  let t : UInt32 := (x + k) * (2654435761 : UInt32)
  (t ^^^ (t >>> (15 : UInt32))) * (2246822519 : UInt32)
/-- The word number i of some bytes. -/
def wd (l : List UInt8) (i : Nat) : UInt32 := UInt32.ofNat (numL ((l.drop (4 * i)).take 4))
/-- The key of round i. -/
def rk (key : List UInt8) (i : Nat) : UInt32 := wd key (i % 4) + UInt32.ofNat i * 2654435769
/-- A round with a key of its own. -/
def rd (k : UInt32) (s : UInt32 × UInt32) : UInt32 × UInt32 := (s.2, s.1 ^^^ f32 s.2 k)
/-- The first n rounds with the keys g. -/
def rds (g : Nat → UInt32) : Nat → UInt32 × UInt32 → UInt32 × UInt32
  | 0, s => s
  | n + 1, s => rd (g n) (rds g n s)
def inB (b : List UInt8) : UInt32 × UInt32 := (wd b 0, wd b 1)
def outB (s : UInt32 × UInt32) : List UInt8 := putL s.2.toNat 4 ++ putL s.1.toNat 4
def encB (key b : List UInt8) : List UInt8 := outB (rds (rk key) 16 (inB b))
def decB (key b : List UInt8) : List UInt8 := outB (rds (fun i => rk key (15 - i)) 16 (inB b))

theorem putL_add (n k a : Nat) : putL (n + 256 ^ k * a) k = putL n k := by
  induction k generalizing a with
  | zero => rfl
  | succ k ih =>
    have h2 : putL (n + 256 ^ (k + 1) * a) k = putL n k := by rw [Nat.pow_succ, Nat.mul_assoc]; exact ih (256 * a)
    have hp : 0 < 256 ^ k := Nat.pow_pos (by omega)
    have h3 : (n + 256 ^ (k + 1) * a) / 256 ^ k = n / 256 ^ k + 256 * a := by
      rw [Nat.pow_succ, Nat.mul_assoc, Nat.add_mul_div_left _ _ hp]
    simp only [putL, h2, h3]
    congr 1
    apply UInt8.toNat_inj.1
    simp
theorem putL_numL (l : List UInt8) : putL (numL l) l.length = l := by
  induction l with
  | nil => rfl
  | cons x xs ih =>
    have hb := numL_bound xs
    have hp : 0 < 256 ^ xs.length := Nat.pow_pos (by omega)
    rw [List.length_cons, putL, numL_head]
    congr 1
    · rw [Nat.mul_comm, Nat.mul_add_div hp, Nat.div_eq_of_lt hb]
      simp
    · rw [Nat.mul_comm, Nat.add_comm, putL_add]
      exact ih
theorem outB_length (s : UInt32 × UInt32) : (outB s).length = 8 := by simp [outB, putL_length]
theorem encB_length (key b : List UInt8) : (encB key b).length = 8 := outB_length _
theorem decB_length (key b : List UInt8) : (decB key b).length = 8 := outB_length _
theorem wd_put (x : UInt32) : UInt32.ofNat (numL (putL x.toNat 4)) = x := by
  have h : x.toNat < 4294967296 := x.toNat_lt
  rw [numL_putL, Nat.mod_eq_of_lt (show x.toNat < 256 ^ 4 by omega)]
  simp
theorem inB_outB (s : UInt32 × UInt32) : inB (outB s) = (s.2, s.1) := by
  have e1 : ((putL s.2.toNat 4 ++ putL s.1.toNat 4).drop (4 * 0)).take 4 = putL s.2.toNat 4 := by
    rw [Nat.mul_zero, List.drop_zero, List.take_append_of_le_length (by rw [putL_length]; omega), List.take_of_length_le (by rw [putL_length]; omega)]
  have e2 : ((putL s.2.toNat 4 ++ putL s.1.toNat 4).drop (4 * 1)).take 4 = putL s.1.toNat 4 := by
    rw [List.drop_append_of_le_length (by rw [putL_length]; omega), List.drop_eq_nil_of_le (by rw [putL_length]; omega), List.nil_append, List.take_of_length_le (by rw [putL_length]; omega)]
  simp only [inB, outB, wd, e1, e2, wd_put]
theorem ofNat_numL (l : List UInt8) (h : l.length = 4) : putL (UInt32.ofNat (numL l)).toNat 4 = l := by
  have hb := numL_bound l
  rw [h] at hb
  have e : (UInt32.ofNat (numL l)).toNat = numL l := by
    rw [UInt32.toNat_ofNat']
    exact Nat.mod_eq_of_lt (by omega)
  rw [e]
  have := putL_numL l
  rwa [h] at this
theorem outB_inB (b : List UInt8) (h : b.length = 8) : outB ((inB b).2, (inB b).1) = b := by
  have h1 : ((b.drop (4 * 0)).take 4).length = 4 := by simp; omega
  have h2 : ((b.drop (4 * 1)).take 4).length = 4 := by simp; omega
  simp only [outB, inB, wd]
  rw [ofNat_numL _ h1, ofNat_numL _ h2]
  simp only [Nat.mul_zero, List.drop_zero, Nat.mul_one]
  rw [List.take_of_length_le (l := b.drop 4) (by simp; omega), List.take_append_drop]
theorem rd_swap (k : UInt32) (s : UInt32 × UInt32) : rd k ((rd k s).2, (rd k s).1) = (s.2, s.1) := by
  simp only [rd, UInt32.xor_assoc, UInt32.xor_self, UInt32.xor_zero]
/-- The rounds in the other order, with the halves exchanged, lead back. -/
theorem rds_back (g : Nat → UInt32) (n : Nat) (s : UInt32 × UInt32) (j : Nat) (h : j ≤ n) :
    rds (fun i => g (n - 1 - i)) j ((rds g n s).2, (rds g n s).1) = ((rds g (n - j) s).2, (rds g (n - j) s).1) := by
  induction j with
  | zero => rfl
  | succ j ih =>
    rw [rds, ih (by omega)]
    obtain ⟨m, hm⟩ : ∃ m, n - j = m + 1 := ⟨n - j - 1, by omega⟩
    rw [hm, show n - (j + 1) = m by omega, show n - 1 - j = m by omega, rds]
    exact rd_swap _ _
/-- All rounds in the other order. -/
theorem rds_all (g h : Nat → UInt32) (n : Nat) (s : UInt32 × UInt32) (hh : ∀ i, i < n → h i = g (n - 1 - i)) : rds h n ((rds g n s).2, (rds g n s).1) = (s.2, s.1) := by
  have e : ∀ j, j ≤ n → ∀ x, rds h j x = rds (fun i => g (n - 1 - i)) j x := by
    intro j hj
    induction j with
    | zero => intro x; rfl
    | succ j ih => intro x; rw [rds, rds, ih (by omega), hh j (by omega)]
  rw [e n (Nat.le_refl _), rds_back g n s n (Nat.le_refl _), Nat.sub_self, rds]
theorem dec_enc (key b : List UInt8) (h : b.length = 8) : decB key (encB key b) = b := by
  unfold decB encB
  generalize hn : 16 = n
  rw [inB_outB, rds_all (rk key) (fun i => rk key (15 - i)) n (inB b) (fun i hi => by subst hn; rfl)]
  exact outB_inB b h
theorem enc_dec (key b : List UInt8) (h : b.length = 8) : encB key (decB key b) = b := by
  unfold decB encB
  generalize hn : 16 = n
  rw [inB_outB, rds_all (fun i => rk key (15 - i)) (rk key) n (inB b) (fun i hi => by subst hn; show rk key i = rk key (15 - (15 - i)); rw [show 15 - (15 - i) = i by omega])]
  exact outB_inB b h
end Go.Proofs.YtdalcldilmmgmaaDoor
