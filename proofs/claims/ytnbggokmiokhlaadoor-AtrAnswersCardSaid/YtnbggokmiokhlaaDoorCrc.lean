
/-
  Plain mathematics of layer 3 (check values): no program in it.
-/
import Derived.Test.YtnbggokmiokhlaaDoorMath
namespace Go.Proofs.YtnbggokmiokhlaaDoor
set_option linter.unusedVariables false
set_option linter.unusedSimpArgs false

/-- One bit shifted out of the register. -/
def sh (r : Nat) : Nat := if r % 2 = 1 then (r / 2) ^^^ 33800 else r / 2
def shn : Nat → Nat → Nat
  | 0, r => r
  | n + 1, r => shn n (sh r)
def feed (r x : Nat) : Nat := shn 8 (r ^^^ x)
def regL (r : Nat) (l : List UInt8) : Nat := l.foldl (fun r x => feed r x.toNat) r
def crcN (l : List UInt8) : Nat := 65535 - regL 65535 l
def lrcL (l : List UInt8) : UInt8 := l.foldl (fun a x => a ^^^ x) 0
def crcB (l : List UInt8) : List UInt8 := [UInt8.ofNat (crcN l % 256), UInt8.ofNat (crcN l / 256)]
def sumL (k : Int) (l : List UInt8) : List UInt8 := if k = 0 then [lrcL l] else if k = 1 then crcB l else []
def sizeK (k : Int) : Nat := if k = 0 then 1 else if k = 1 then 2 else 0

def crcTab : List Nat := [0, 4225, 8450, 12675, 16900, 21125, 25350, 29575, 33800, 38025, 42250, 46475, 50700, 54925, 59150, 63375]

theorem xor_left_comm (a b c : Nat) : a ^^^ (b ^^^ c) = b ^^^ (a ^^^ c) := by rw [← Nat.xor_assoc, Nat.xor_comm a b, Nat.xor_assoc]
theorem xor_cancel (a b : Nat) : a ^^^ (a ^^^ b) = b := by rw [← Nat.xor_assoc, Nat.xor_self, Nat.zero_xor]
theorem xor_mod2 (a b : Nat) : (a ^^^ b) % 2 = (a % 2) ^^^ (b % 2) := by
  have := @Nat.xor_mod_two_pow a b 1
  simpa using this
theorem mod2_cases (a : Nat) : a % 2 = 0 ∨ a % 2 = 1 := by omega
theorem sh_xor (a b : Nat) : sh (a ^^^ b) = sh a ^^^ sh b := by
  unfold sh
  rw [xor_mod2, Nat.xor_div_two]
  rcases mod2_cases a with ha | ha <;> rcases mod2_cases b with hb | hb <;> rw [ha, hb] <;> simp
  · rw [Nat.xor_assoc]
  · rw [Nat.xor_assoc, Nat.xor_assoc, Nat.xor_comm 33800]
  · rw [Nat.xor_assoc, xor_left_comm 33800, Nat.xor_self, Nat.xor_zero]
theorem sh_zero : sh 0 = 0 := rfl
theorem sh_two (q : Nat) : sh (2 * q) = q := by unfold sh; rw [if_neg (by omega)]; omega
theorem sh_lt (r : Nat) (h : r < 65536) : sh r < 65536 := by
  unfold sh
  split
  · exact Nat.xor_lt_two_pow (n := 16) (by omega) (by omega)
  · omega
theorem xor_eq_zero {a b : Nat} (h : a ^^^ b = 0) : a = b := by
  have := xor_cancel a b
  rw [h, Nat.xor_zero] at this
  exact this
theorem sh_ne (r : Nat) (h : r < 65536) (h0 : r ≠ 0) : sh r ≠ 0 := by
  unfold sh
  split
  · intro e
    have := xor_eq_zero e
    omega
  · omega
theorem shn_xor (n a b : Nat) : shn n (a ^^^ b) = shn n a ^^^ shn n b := by
  induction n generalizing a b with
  | zero => rfl
  | succ n ih => rw [shn, shn, shn, sh_xor, ih]
theorem shn_lt (n r : Nat) (h : r < 65536) : shn n r < 65536 := by
  induction n generalizing r with
  | zero => exact h
  | succ n ih => exact ih _ (sh_lt r h)
theorem shn_ne (n r : Nat) (h : r < 65536) (h0 : r ≠ 0) : shn n r ≠ 0 := by
  induction n generalizing r with
  | zero => exact h0
  | succ n ih => exact ih _ (sh_lt r h) (sh_ne r h h0)
theorem shn_zero (n : Nat) : shn n 0 = 0 := by
  induction n with
  | zero => rfl
  | succ n ih => rw [shn, sh_zero, ih]
theorem shn_succ (n r : Nat) : shn (n + 1) r = sh (shn n r) := by
  induction n generalizing r with
  | zero => rfl
  | succ n ih => rw [shn, ih, shn]
theorem shn_add (m n r : Nat) : shn (m + n) r = shn n (shn m r) := by
  induction m generalizing r with
  | zero => rw [Nat.zero_add]; rfl
  | succ m ih => rw [Nat.succ_add, shn, ih]; rfl
theorem shn_pow (k q : Nat) : shn k (2 ^ k * q) = q := by
  induction k generalizing q with
  | zero => simp [shn]
  | succ k ih => rw [shn, Nat.pow_succ, Nat.mul_comm (2 ^ k) 2, Nat.mul_assoc, sh_two, ih]
theorem split_xor (k q m : Nat) (h : m < 2 ^ k) : 2 ^ k * q + m = (2 ^ k * q) ^^^ m := by
  apply Nat.eq_of_testBit_eq
  intro i
  have h0 := Nat.testBit_two_pow_mul_add q (Nat.two_pow_pos k) i
  rw [Nat.add_zero] at h0
  rw [Nat.testBit_two_pow_mul_add q h i, Nat.testBit_xor, h0]
  split
  · rename_i hi
    simp
  · rename_i hi
    have : m.testBit i = false := Nat.testBit_lt_two_pow (Nat.lt_of_lt_of_le h (Nat.pow_le_pow_right (by omega) (by omega)))
    rw [this]
    simp
theorem shn_split (k q m : Nat) (h : m < 2 ^ k) : shn k (2 ^ k * q + m) = q ^^^ shn k m := by rw [split_xor k q m h, shn_xor, shn_pow]

theorem crcTab_get (m : Nat) (h : m < 16) : crcTab.getD m 0 = shn 4 m := by
  match m, h with
  | 0, _ | 1, _ | 2, _ | 3, _ | 4, _ | 5, _ | 6, _ | 7, _ | 8, _ | 9, _ | 10, _ | 11, _ | 12, _ | 13, _ | 14, _ | 15, _ => rfl
  | n + 16, h => exact absurd h (by omega)
/-- Four bits at once, by the table. -/
theorem nib (r : Nat) : shn 4 r = (r / 16) ^^^ crcTab.getD (r % 16) 0 := by
  rw [crcTab_get _ (Nat.mod_lt _ (by omega))]
  have := shn_split 4 (r / 16) (r % 16) (Nat.mod_lt _ (by omega))
  rw [← this]
  congr 1
  omega
theorem crcTab_lt (m : Nat) (h : m < 16) : crcTab.getD m 0 < 65536 := by rw [crcTab_get m h]; exact shn_lt _ _ (by omega)

theorem feed_lt (r x : Nat) (h : r < 65536) (hx : x < 65536) : feed r x < 65536 := shn_lt _ _ (Nat.xor_lt_two_pow (n := 16) h hx)
theorem regL_lt (l : List UInt8) (r : Nat) (h : r < 65536) : regL r l < 65536 := by
  induction l generalizing r with
  | nil => exact h
  | cons x l ih => exact ih _ (feed_lt _ _ h (by have := x.toNat_lt; omega))
theorem regL_snoc (r : Nat) (l : List UInt8) (x : UInt8) : regL r (l ++ [x]) = feed (regL r l) x.toNat := by simp [regL]
theorem regL_append (r : Nat) (l m : List UInt8) : regL r (l ++ m) = regL (regL r l) m := by simp [regL]
theorem regL_take (r : Nat) (l : List UInt8) (k : Nat) (h : k < l.length) : regL r (l.take (k + 1)) = feed (regL r (l.take k)) (l.getD k 0).toNat := by
  rw [take_snoc l k h, regL_snoc]
theorem lrcL_snoc (l : List UInt8) (x : UInt8) : lrcL (l ++ [x]) = lrcL l ^^^ x := by simp [lrcL]
theorem lrcL_take (l : List UInt8) (k : Nat) (h : k < l.length) : lrcL (l.take (k + 1)) = lrcL (l.take k) ^^^ l.getD k 0 := by
  rw [take_snoc l k h, lrcL_snoc]

theorem compl16 (r : Nat) (h : r < 65536) : 65535 - r = r ^^^ 65535 := by
  apply Nat.eq_of_testBit_eq
  intro i
  have h1 := Nat.testBit_two_pow_sub_succ (x := r) (n := 16) h i
  have h2 := Nat.testBit_two_pow_sub_succ (x := 0) (n := 16) (by omega) i
  rw [Nat.testBit_xor]
  have e1 : (2 : Nat) ^ 16 - (r + 1) = 65535 - r := by omega
  have e2 : (2 : Nat) ^ 16 - (0 + 1) = 65535 := rfl
  rw [e1] at h1
  rw [e2] at h2
  rw [h1, h2]
  by_cases hi : i < 16
  · simp [hi]
  · have : r.testBit i = false := Nat.testBit_lt_two_pow (Nat.lt_of_lt_of_le h (by
      have : (2 : Nat) ^ 16 ≤ 2 ^ i := Nat.pow_le_pow_right (by omega) (by omega)
      simpa using this))
    simp [hi, this]

theorem regL_xor (a b : List UInt8) (r s : Nat) (h : a.length = b.length) : regL (r ^^^ s) (xorL a b) = regL r a ^^^ regL s b := by
  induction a generalizing b r s with
  | nil => cases b with
    | nil => rfl
    | cons => simp at h
  | cons x a ih => cases b with
    | nil => simp at h
    | cons y b =>
      have e : feed (r ^^^ s) (x ^^^ y).toNat = feed r x.toNat ^^^ feed s y.toNat := by
        unfold feed
        rw [UInt8.toNat_xor, ← shn_xor, Nat.xor_assoc, xor_left_comm s, ← Nat.xor_assoc]
      have := ih b (feed r x.toNat) (feed s y.toNat) (by simpa using h)
      simp only [xorL, List.zipWith_cons_cons, regL, List.foldl_cons] at this ⊢
      rw [e]
      exact this

theorem ofNat_xor (a b : Nat) : UInt8.ofNat (a ^^^ b) = UInt8.ofNat a ^^^ UInt8.ofNat b := by
  apply UInt8.toNat_inj.1
  simp [UInt8.toNat_xor]

/-- What the law of linearity compares. -/
def xor3 (a b c : List UInt8) : List UInt8 := xorL (xorL a b) c
theorem xor3_length (a b c : List UInt8) (h : a.length = b.length) (h' : b.length = c.length) : (xor3 a b c).length = a.length := by
  unfold xor3; rw [xorL_length _ _ (by rw [xorL_length _ _ h]; omega), xorL_length _ _ h]
theorem crcN_xor3 (a b c : List UInt8) (h : a.length = b.length) (h' : b.length = c.length) : crcN (xor3 a b c) = (crcN a ^^^ crcN b) ^^^ crcN c := by
  have h1 := regL_xor (xorL a b) c (65535 ^^^ 65535) 65535 (by rw [xorL_length _ _ h]; omega)
  rw [regL_xor a b 65535 65535 h] at h1
  have e : ((65535 : Nat) ^^^ 65535) ^^^ 65535 = 65535 := by decide
  rw [e] at h1
  have ha := regL_lt a 65535 (by omega)
  have hb := regL_lt b 65535 (by omega)
  have hc := regL_lt c 65535 (by omega)
  unfold crcN xor3
  rw [compl16 _ (regL_lt _ _ (by omega)), compl16 _ ha, compl16 _ hb, compl16 _ hc, h1]
  generalize regL 65535 a = x
  generalize regL 65535 b = y
  generalize regL 65535 c = z
  generalize (65535 : Nat) = f
  apply Nat.eq_of_testBit_eq
  intro i
  simp only [Nat.testBit_xor]
  cases x.testBit i <;> cases y.testBit i <;> cases z.testBit i <;> cases f.testBit i <;> rfl
theorem lrcF_xor (a b : List UInt8) (x y : UInt8) (h : a.length = b.length) : (xorL a b).foldl (fun a x => a ^^^ x) (x ^^^ y) = a.foldl (fun a x => a ^^^ x) x ^^^ b.foldl (fun a x => a ^^^ x) y := by
  induction a generalizing b x y with
  | nil => cases b with
    | nil => rfl
    | cons => simp at h
  | cons u a ih => cases b with
    | nil => simp at h
    | cons v b =>
      have := ih b (x ^^^ u) (y ^^^ v) (by simpa using h)
      simp only [xorL, List.zipWith_cons_cons, List.foldl_cons] at this ⊢
      rw [← this]
      congr 1
      apply UInt8.toNat_inj.1
      simp only [UInt8.toNat_xor]
      rw [Nat.xor_assoc, Nat.xor_assoc, xor_left_comm y.toNat]
theorem lrcL_xor3 (a b c : List UInt8) (h : a.length = b.length) (h' : b.length = c.length) : lrcL (xor3 a b c) = (lrcL a ^^^ lrcL b) ^^^ lrcL c := by
  have h1 := lrcF_xor (xorL a b) c (0 ^^^ 0) 0 (by rw [xorL_length _ _ h]; omega)
  rw [lrcF_xor a b 0 0 h] at h1
  exact h1
theorem lrcF_start (l : List UInt8) (x : UInt8) : l.foldl (fun a x => a ^^^ x) x = x ^^^ lrcL l := by
  induction l generalizing x with
  | nil => simp [lrcL]
  | cons y l ih =>
    have e : lrcL (y :: l) = (0 ^^^ y) ^^^ lrcL l := by
      have := ih (0 ^^^ y)
      simpa [lrcL] using this
    rw [List.foldl_cons, ih, e]
    apply UInt8.toNat_inj.1
    simp [UInt8.toNat_xor, Nat.xor_assoc]
theorem lrcL_append (l m : List UInt8) : lrcL (l ++ m) = lrcL l ^^^ lrcL m := by
  have : lrcL (l ++ m) = m.foldl (fun a x => a ^^^ x) (lrcL l) := by simp [lrcL]
  rw [this, lrcF_start]

/-! ### Bits in the order of transmission -/
def bitAt (l : List UInt8) (n : Nat) : Bool := (l.getD (n / 8) 0).toNat.testBit (n % 8)
def fb (s : Nat) (e : Nat → Bool) : Nat → Nat
  | 0 => s
  | n + 1 => sh (fb s e n ^^^ (e n).toNat)
theorem fb_congr (s : Nat) (e f : Nat → Bool) (n : Nat) (h : ∀ i, i < n → e i = f i) : fb s e n = fb s f n := by
  induction n with
  | zero => rfl
  | succ n ih => rw [fb, fb, ih (fun i hi => h i (by omega)), h n (by omega)]
theorem fb_xor (s t : Nat) (e f : Nat → Bool) (n : Nat) : fb (s ^^^ t) (fun i => e i ^^ f i) n = fb s e n ^^^ fb t f n := by
  induction n with
  | zero => rfl
  | succ n ih =>
    rw [fb, fb, fb, ih, ← sh_xor]
    congr 1
    have : ((e n ^^ f n) : Bool).toNat = (e n).toNat ^^^ (f n).toNat := by cases e n <;> cases f n <;> rfl
    rw [this, Nat.xor_assoc, xor_left_comm (fb t f n), ← Nat.xor_assoc]
theorem fb_add (s : Nat) (e : Nat → Bool) (m n : Nat) : fb s e (m + n) = fb (fb s e m) (fun i => e (m + i)) n := by
  induction n with
  | zero => rfl
  | succ n ih => rw [← Nat.add_assoc, fb, ih, fb]
theorem shn_bits (s x k : Nat) : shn k (s ^^^ x % 2 ^ k) = fb s (fun i => x.testBit i) k := by
  induction k with
  | zero => simp [shn, fb, Nat.mod_one]
  | succ k ih =>
    have e : x % 2 ^ (k + 1) = x % 2 ^ k ^^^ (2 ^ k * (x.testBit k).toNat) := by
      rw [Nat.mod_pow_succ, Nat.add_comm, Nat.xor_comm, ← split_xor k _ _ (Nat.mod_lt _ (Nat.two_pow_pos k))]
      congr 2
      rw [Nat.testBit, Nat.shiftRight_eq_div_pow, Nat.and_comm, Nat.and_one_is_mod]
      have : x / 2 ^ k % 2 = 0 ∨ x / 2 ^ k % 2 = 1 := by omega
      rcases this with h | h <;> rw [h] <;> rfl
    rw [shn_succ, e, ← Nat.xor_assoc, shn_xor, ih, shn_pow, fb]
theorem regL_bits (s : Nat) (l : List UInt8) : regL s l = fb s (bitAt l) (8 * l.length) := by
  induction l generalizing s with
  | nil => rfl
  | cons x l ih =>
    have h8 : feed s x.toNat = fb s (bitAt (x :: l)) 8 := by
      have hx := x.toNat_lt
      have := shn_bits s x.toNat 8
      rw [Nat.mod_eq_of_lt (by omega)] at this
      unfold feed
      rw [this]
      apply fb_congr
      intro i hi
      unfold bitAt
      rw [Nat.div_eq_of_lt hi, Nat.mod_eq_of_lt hi]
      rfl
    have e : 8 * (x :: l).length = 8 + 8 * l.length := by simp; omega
    rw [e, fb_add, ← h8]
    have : regL s (x :: l) = regL (feed s x.toNat) l := rfl
    rw [this, ih]
    apply fb_congr
    intro i _
    unfold bitAt
    rw [show (8 + i) / 8 = i / 8 + 1 by omega, show (8 + i) % 8 = i % 8 by omega]
    rfl

/-- The error of a burst. -/
def burst (at' k p : Nat) (n : Nat) : Bool := decide (at' ≤ n) && decide (n < at' + k) && p.testBit (n - at')
theorem fb_quiet (s : Nat) (e : Nat → Bool) (n : Nat) (h : ∀ i, i < n → e i = false) : fb s e n = shn n s := by
  induction n with
  | zero => rfl
  | succ n ih => rw [fb, ih (fun i hi => h i (by omega)), h n (by omega), shn_succ]; simp
theorem burst_ne (at' k p N : Nat) (hk : k ≤ 16) (hN : at' + k ≤ N) (hp : p < 2 ^ k) (h0 : p ≠ 0) : fb 0 (burst at' k p) N ≠ 0 := by
  obtain ⟨m, rfl⟩ : ∃ m, N = at' + k + m := ⟨N - (at' + k), by omega⟩
  rw [fb_add, fb_add, fb_quiet 0 _ at' (fun i hi => by simp [burst]; omega), shn_zero]
  have e1 : fb 0 (fun i => burst at' k p (at' + i)) k = shn k p := by
    rw [← Nat.mod_eq_of_lt hp, ← Nat.zero_xor (p % 2 ^ k), shn_bits]
    apply fb_congr
    intro i hi
    simp [burst, hi]
  rw [e1, fb_quiet _ _ m (fun i _ => by simp [burst]; intro _ h; omega)]
  have hlt : p < 65536 := Nat.lt_of_lt_of_le hp (by
    have : (2 : Nat) ^ k ≤ 2 ^ 16 := Nat.pow_le_pow_right (by omega) hk
    simpa using this)
  exact shn_ne _ _ (shn_lt _ _ hlt) (shn_ne _ _ hlt h0)

/-- What is left in the register behind bytes with their check value. -/
theorem residue (l : List UInt8) : regL 65535 (l ++ crcB l) = shn 16 65535 := by
  have hr := regL_lt l 65535 (by omega)
  rw [regL_append]
  unfold crcB crcN
  rw [compl16 _ hr]
  generalize regL 65535 l = r at hr
  have hw : r ^^^ 65535 < 65536 := Nat.xor_lt_two_pow (n := 16) hr (by omega)
  have hxx : r ^^^ (r ^^^ 65535) = 65535 := xor_cancel _ _
  generalize r ^^^ 65535 = w at hw hxx
  have e1 : (UInt8.ofNat (w % 256)).toNat = w % 256 := by simp
  have e2 : (UInt8.ofNat (w / 256)).toNat = w / 256 := by simp; omega
  show feed (feed r (UInt8.ofNat (w % 256)).toNat) (UInt8.ofNat (w / 256)).toNat = _
  rw [e1, e2]
  unfold feed
  have e3 : w / 256 = shn 8 (2 ^ 8 * (w / 256)) := (shn_pow 8 _).symm
  have e4 : shn 8 (r ^^^ w % 256) ^^^ (w / 256) = shn 8 (65535) := by
    conv => lhs; rw [e3]
    rw [← shn_xor, Nat.xor_assoc, Nat.xor_comm (w % 256), ← split_xor 8 (w / 256) (w % 256) (Nat.mod_lt _ (by omega))]
    have : 2 ^ 8 * (w / 256) + w % 256 = w := by omega
    rw [this, hxx]
  rw [e4, ← shn_add]
theorem crc_detects (x y : List UInt8) (b c : List UInt8) (E : Nat → Bool) (hx : x = b ++ crcB b) (hy : y = c ++ crcB c) (hl : x.length = y.length) (hE : ∀ n, n < 8 * x.length → bitAt y n = (bitAt x n ^^ E n)) : fb 0 E (8 * x.length) = 0 := by
  have h1 := residue b
  have h2 := residue c
  rw [← hx, regL_bits] at h1
  rw [← hy, regL_bits, ← hl, fb_congr _ _ _ _ hE] at h2
  have h3 := fb_xor 65535 0 (bitAt x) E (8 * x.length)
  rw [Nat.xor_zero, h2, h1] at h3
  have := xor_cancel (shn 16 65535) (fb 0 E (8 * x.length))
  rw [← h3, Nat.xor_self] at this
  exact this.symm
end Go.Proofs.YtnbggokmiokhlaaDoor
