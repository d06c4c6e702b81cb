
/-
  Plain mathematics of layer 1: no program in it.
-/
namespace Go.Proofs.YtdalcldilmmgmaaDoor
set_option linter.unusedVariables false
set_option linter.unusedSimpArgs false

def cmpL : List UInt8 → List UInt8 → Int
  | [], [] => 0
  | [], _ :: _ => -1
  | _ :: _, [] => 1
  | x :: xs, y :: ys => if x.toNat < y.toNat then -1 else if y.toNat < x.toNat then 1 else cmpL xs ys

theorem cmpL_self (a : List UInt8) : cmpL a a = 0 := by
  induction a with
  | nil => rfl
  | cons x xs ih => simp [cmpL, ih]

/-- Where the first k bytes agree, what decides comes behind them. -/
theorem cmpL_drop (a b : List UInt8) (k : Nat) (ha : k ≤ a.length) (hb : k ≤ b.length) (h : ∀ j, j < k → a.getD j 0 = b.getD j 0) : cmpL a b = cmpL (a.drop k) (b.drop k) := by
  induction k generalizing a b with
  | zero => simp
  | succ k ih =>
    match a, b with
    | [], _ => simp at ha
    | _ :: _, [] => simp at hb
    | x :: xs, y :: ys =>
      have h0 : x = y := by simpa using h 0 (by omega)
      subst h0
      have := ih xs ys (by simpa using ha) (by simpa using hb) (fun j hj => by simpa using h (j + 1) (by omega))
      simp [cmpL, this]

theorem drop_getD (a : List UInt8) (k : Nat) (h : k < a.length) : a.drop k = a.getD k 0 :: a.drop (k + 1) := by
  rw [List.drop_eq_getElem_cons h]; simp [List.getD, List.getElem?_eq_getElem h]

theorem cmpL_lt (a b : List UInt8) (k : Nat) (ha : k < a.length) (hb : k < b.length) (h : ∀ j, j < k → a.getD j 0 = b.getD j 0) (hl : (a.getD k 0).toNat < (b.getD k 0).toNat) : cmpL a b = -1 := by
  rw [cmpL_drop a b k (by omega) (by omega) h, drop_getD a k ha, drop_getD b k hb]
  simp only [cmpL]
  rw [if_pos hl]

theorem cmpL_gt (a b : List UInt8) (k : Nat) (ha : k < a.length) (hb : k < b.length) (h : ∀ j, j < k → a.getD j 0 = b.getD j 0) (hl : (b.getD k 0).toNat < (a.getD k 0).toNat) : cmpL a b = 1 := by
  rw [cmpL_drop a b k (by omega) (by omega) h, drop_getD a k ha, drop_getD b k hb]
  simp only [cmpL]
  rw [if_neg (by omega), if_pos hl]

theorem cmpL_end_lt (a b : List UInt8) (hb : a.length < b.length) (h : ∀ j, j < a.length → a.getD j 0 = b.getD j 0) : cmpL a b = -1 := by
  rw [cmpL_drop a b a.length (by omega) (by omega) h, List.drop_length, drop_getD b a.length hb]
  rfl

theorem cmpL_end_gt (a b : List UInt8) (hb : b.length < a.length) (h : ∀ j, j < b.length → a.getD j 0 = b.getD j 0) : cmpL a b = 1 := by
  rw [cmpL_drop a b b.length (by omega) (by omega) h, List.drop_length, drop_getD a b.length hb]
  rfl

theorem cmpL_end_eq (a b : List UInt8) (hb : a.length = b.length) (h : ∀ j, j < a.length → a.getD j 0 = b.getD j 0) : cmpL a b = 0 := by
  rw [cmpL_drop a b a.length (by omega) (by omega) h, List.drop_length, List.drop_eq_nil_of_le (by omega)]
  rfl

theorem cmpL_eq_zero {a b : List UInt8} (h : cmpL a b = 0) : a = b := by
  induction a generalizing b with
  | nil => cases b with
    | nil => rfl
    | cons => simp [cmpL] at h
  | cons x xs ih => cases b with
    | nil => simp [cmpL] at h
    | cons y ys =>
      simp only [cmpL] at h
      split at h
      · simp at h
      · split at h
        · simp at h
        · have e : x = y := UInt8.toNat_inj.1 (by omega)
          rw [e, ih h]


theorem take_snoc (a : List UInt8) (k : Nat) (h : k < a.length) : a.take (k + 1) = a.take k ++ [a.getD k 0] := by
  rw [List.take_succ_eq_append_getElem h]; simp [List.getD, List.getElem?_eq_getElem h]

/-- The next place of a list that is filled from the front. -/
theorem set_pad (x : List UInt8) (n : Nat) (y : UInt8) (h : 0 < n) : (x ++ List.replicate n 0).set x.length y = (x ++ [y]) ++ List.replicate (n - 1) 0 := by
  obtain ⟨m, rfl⟩ : ∃ m, n = m + 1 := ⟨n - 1, by omega⟩
  rw [List.set_append_right _ _ (Nat.le_refl _)]
  simp [List.replicate_succ]

/-! ### Exclusive or -/
def xorL (a b : List UInt8) : List UInt8 := List.zipWith (· ^^^ ·) a b
theorem xorL_length (a b : List UInt8) (h : a.length = b.length) : (xorL a b).length = a.length := by simp [xorL, h]
theorem xorL_getD (a b : List UInt8) (k : Nat) (h : k < a.length) (h' : k < b.length) : (xorL a b).getD k 0 = a.getD k 0 ^^^ b.getD k 0 := by
  simp [xorL, List.getD, List.getElem?_zipWith, List.getElem?_eq_getElem h, List.getElem?_eq_getElem h']
theorem xorL_take (a b : List UInt8) (k : Nat) (h : k < a.length) (h' : k < b.length) : xorL (a.take (k + 1)) (b.take (k + 1)) = xorL (a.take k) (b.take k) ++ [a.getD k 0 ^^^ b.getD k 0] := by
  rw [take_snoc a k h, take_snoc b k h', xorL, xorL, List.zipWith_append (by simp; omega)]
  rfl
theorem xorL_xorL (a b : List UInt8) (h : a.length = b.length) : xorL (xorL a b) b = a := by
  induction a generalizing b with
  | nil => rfl
  | cons x xs ih => cases b with
    | nil => simp at h
    | cons y ys =>
      have := ih ys (by simpa using h)
      simp only [xorL, List.zipWith_cons_cons] at this ⊢
      rw [this]
      congr 1
      rw [UInt8.xor_assoc, UInt8.xor_self, UInt8.xor_zero]

theorem gd {a : List UInt8} {k : Nat} (h : k < a.length) : a[k] = a.getD k 0 := by simp [List.getD, List.getElem?_eq_getElem h]

/-! ### Numbers -/
def bigN : Nat := 9223372036854775807
def numL (l : List UInt8) : Nat := l.foldl (fun n x => n * 256 + x.toNat) 0
theorem numL_snoc (l : List UInt8) (x : UInt8) : numL (l ++ [x]) = numL l * 256 + x.toNat := by simp [numL]
theorem numL_bound (l : List UInt8) : numL l < 256 ^ l.length := by
  rw [← List.reverse_reverse l]
  generalize l.reverse = r
  induction r with
  | nil => simp [numL]
  | cons x r ih =>
    rw [List.reverse_cons, numL_snoc, List.length_append, List.length_cons, List.length_nil, Nat.pow_succ]
    have := x.toNat_lt
    omega
theorem numL_take (l : List UInt8) (k : Nat) (h : k < l.length) : numL (l.take (k + 1)) = numL (l.take k) * 256 + (l.getD k 0).toNat := by
  rw [take_snoc l k h, numL_snoc]
theorem pow256_le (k : Nat) (h : k < 8) : 256 ^ k ≤ 72057594037927936 := by
  have : 256 ^ k ≤ 256 ^ 7 := Nat.pow_le_pow_right (by omega) (by omega)
  omega
theorem numL_foldl (l : List UInt8) (n : Nat) : l.foldl (fun n x => n * 256 + x.toNat) n = n * 256 ^ l.length + numL l := by
  induction l generalizing n with
  | nil => simp [numL]
  | cons x xs ih =>
    have h1 := ih (n * 256 + x.toNat)
    have h2 := ih (0 * 256 + x.toNat)
    simp only [numL, List.foldl_cons, List.length_cons, Nat.pow_succ] at *
    rw [h1, h2, Nat.add_mul, Nat.zero_mul, Nat.zero_add, Nat.mul_assoc, Nat.mul_comm 256]
    omega
theorem numL_head (x : UInt8) (xs : List UInt8) : numL (x :: xs) = x.toNat * 256 ^ xs.length + numL xs := by
  have := numL_foldl xs (0 * 256 + x.toNat)
  simpa [numL] using this
theorem numL_big (l : List UInt8) (h : l.length = 8) (h0 : 127 < (l.getD 0 0).toNat) : bigN < numL l := by
  match l, h with
  | x :: xs, h =>
    have h7 : xs.length = 7 := by simpa using h
    rw [numL_head, h7]
    simp at h0
    unfold bigN
    omega
theorem numL_small8 (l : List UInt8) (h : l.length = 8) (h0 : ¬ 127 < (l.getD 0 0).toNat) : ¬ bigN < numL l := by
  match l, h with
  | x :: xs, h =>
    have h7 : xs.length = 7 := by simpa using h
    have := numL_bound xs
    rw [h7] at this
    rw [numL_head, h7]
    simp at h0
    unfold bigN
    omega
theorem numL_small (l : List UInt8) (h : l.length < 8) : ¬ bigN < numL l := by
  have h1 := numL_bound l
  have h2 := pow256_le l.length h
  unfold bigN
  omega
theorem numL_mono (l : List UInt8) (k : Nat) (h : k ≤ l.length) : numL (l.take k) ≤ numL l := by
  have h1 := numL_foldl (l.drop k) (numL (l.take k))
  have h2 : (l.drop k).foldl (fun n x => n * 256 + x.toNat) (numL (l.take k)) = numL l := by
    unfold numL
    rw [← List.foldl_append, List.take_append_drop]
  rw [h2] at h1
  have h3 : 0 < 256 ^ (l.drop k).length := Nat.pow_pos (by omega)
  have h4 := Nat.le_mul_of_pos_right (numL (l.take k)) h3
  omega
def getN (l : List UInt8) : Int := if 8 < l.length then 0 else if bigN < numL l then 0 else numL l
def getE (l : List UInt8) : Int := if 8 < l.length then 3 else if bigN < numL l then 2 else 0
/-- Before the last of at most eight bytes the number has room for one byte more. -/
theorem numL_room (l : List UInt8) (k : Nat) (h : k < l.length) (h8 : l.length ≤ 8) : numL (l.take k) < 72057594037927936 := by
  have h1 := numL_bound (l.take k)
  have h2 := pow256_le k (by omega)
  have h3 : (l.take k).length = k := by simp; omega
  rw [h3] at h1
  omega

/-- A number as so many bytes, the most significant one first. -/
def putL (n : Nat) : Nat → List UInt8
  | 0 => []
  | k + 1 => UInt8.ofNat (n / 256 ^ k) :: putL n k
theorem putL_length (n k : Nat) : (putL n k).length = k := by induction k with
  | zero => rfl
  | succ k ih => simp [putL, ih]
theorem replicate_set (m : Nat) (X : List UInt8) (y : UInt8) (h : 0 < m) : (List.replicate m 0 ++ X).set (m - 1) y = List.replicate (m - 1) 0 ++ (y :: X) := by
  obtain ⟨j, rfl⟩ : ∃ j, m = j + 1 := ⟨m - 1, by omega⟩
  rw [Nat.add_sub_cancel, List.replicate_succ', List.append_assoc, List.set_append_right _ _ (by simp)]
  simp
theorem numL_putL (n k : Nat) : numL (putL n k) = n % 256 ^ k := by
  induction k with
  | zero => simp [putL, numL, Nat.mod_one]
  | succ k ih =>
    rw [putL, numL_head, putL_length, ih]
    have h1 : (UInt8.ofNat (n / 256 ^ k)).toNat = n / 256 ^ k % 256 := by simp
    rw [h1, Nat.pow_succ, Nat.mod_mul, Nat.mul_comm (256 ^ k), Nat.add_comm]

/-! ### Padding -/
def padL (l : List UInt8) (n : Nat) : List UInt8 := (l ++ [128]) ++ List.replicate ((l.length / n + 1) * n - (l.length + 1)) 0
theorem pad_room (L n : Nat) (h : 0 < n) : L < (L / n + 1) * n ∧ (L / n + 1) * n ≤ L + n := by
  have h1 := Nat.div_add_mod L n
  have h2 := Nat.mod_lt L h
  rw [Nat.add_mul, Nat.one_mul, Nat.mul_comm]
  omega

theorem pad_mid (L n x : Nat) (h : 0 < n) (h1 : L < x) (h2 : x < (L / n + 1) * n) : x % n ≠ 0 := by
  intro e
  have h3 := Nat.div_add_mod x n
  have h4 : x / n ≤ L / n := by
    have := (Nat.div_lt_iff_lt_mul h).2 h2
    omega
  have h5 : L / n ≤ x / n := Nat.div_le_div_right (by omega)
  have h6 : x / n = L / n := by omega
  have h7 := Nat.div_add_mod L n
  rw [h6, e] at h3
  omega

/-- The bytes before the last one of the first t that is not 0; none unless that is 128. -/
def unp (l : List UInt8) : Nat → Option (List UInt8)
  | 0 => none
  | t + 1 => if l.getD t 0 = 0 then unp l t else if l.getD t 0 = 128 then some (l.take t) else none
def unpadL (l : List UInt8) : Option (List UInt8) := unp l l.length
theorem unp_pad (l : List UInt8) (k j : Nat) (h : j ≤ k) : unp ((l ++ [128]) ++ List.replicate k 0) (l.length + 1 + j) = some l := by
  induction j with
  | zero =>
    simp [unp, List.getD, List.getElem?_append]
  | succ j ih =>
    have e : ((l ++ [128]) ++ List.replicate k 0).getD (l.length + 1 + j) 0 = 0 := by
      rw [List.getD, List.getElem?_append_right (by simp), List.getElem?_replicate]
      split <;> rfl
    rw [← Nat.add_assoc, unp, if_pos e]
    exact ih (by omega)
theorem unpadL_padL (l : List UInt8) (n : Nat) : unpadL (padL l n) = some l := by
  unfold unpadL
  have e : (padL l n).length = l.length + 1 + ((l.length / n + 1) * n - (l.length + 1)) := by simp [padL]; omega
  rw [e]
  exact unp_pad l _ _ (Nat.le_refl _)

/-! ### Hexadecimal digits -/
def dg (n : Nat) : UInt8 := if n < 10 then UInt8.ofNat (48 + n) else UInt8.ofNat (87 + n)
def hexL : List UInt8 → List UInt8
  | [] => []
  | x :: l => dg (x.toNat / 16) :: dg (x.toNat % 16) :: hexL l
theorem hexL_append (a b : List UInt8) : hexL (a ++ b) = hexL a ++ hexL b := by
  induction a with
  | nil => rfl
  | cons x a ih => simp [hexL, ih]
theorem hexL_length (a : List UInt8) : (hexL a).length = 2 * a.length := by
  induction a with
  | nil => rfl
  | cons x a ih => simp [hexL, ih]; omega
theorem hexL_take (a : List UInt8) (k : Nat) (h : k < a.length) : hexL (a.take (k + 1)) = hexL (a.take k) ++ [dg ((a.getD k 0).toNat / 16), dg ((a.getD k 0).toNat % 16)] := by
  rw [take_snoc a k h, hexL_append]
  rfl

/-- What a digit's byte denotes; 16 if it is none. -/
def dv (c : Nat) : Nat := if 48 ≤ c ∧ c ≤ 57 then c - 48 else if 97 ≤ c ∧ c ≤ 102 then c - 87 else if 65 ≤ c ∧ c ≤ 70 then c - 55 else 16
theorem dv_le (c : Nat) : dv c ≤ 16 := by unfold dv; repeat' split
                                          all_goals omega
theorem dv_big (c : Nat) (h : 128 ≤ c) : dv c = 16 := by unfold dv; rw [if_neg (by omega), if_neg (by omega), if_neg (by omega)]
theorem dv_dg (n : Nat) (h : n < 16) : dv (dg n).toNat = n := by
  match n, h with
  | 0, _ | 1, _ | 2, _ | 3, _ | 4, _ | 5, _ | 6, _ | 7, _ | 8, _ | 9, _ | 10, _ | 11, _ | 12, _ | 13, _ | 14, _ | 15, _ => rfl
  | n + 16, h => exact absurd h (by omega)
def pairs : List UInt8 → List UInt8
  | x :: y :: t => UInt8.ofNat (16 * dv x.toNat + dv y.toNat) :: pairs t
  | _ => []
/-- The bytes that digits denote. -/
def parseL (l : List UInt8) : Option (List UInt8) := if (l.all fun c => decide (dv c.toNat < 16)) && l.length % 2 == 0 then some (pairs l) else none
theorem pairs_length (l : List UInt8) : (pairs l).length = l.length / 2 := by
  match l with
  | [] => simp [pairs]
  | [_] => simp [pairs]
  | x :: y :: t =>
    have := pairs_length t
    simp only [pairs, List.length_cons, this]
    omega
theorem pairs_hexL (l : List UInt8) : pairs (hexL l) = l := by
  induction l with
  | nil => rfl
  | cons x l ih =>
    have hx := x.toNat_lt
    simp only [hexL, pairs, ih, dv_dg _ (show x.toNat / 16 < 16 by omega), dv_dg _ (show x.toNat % 16 < 16 by omega)]
    congr 1
    apply UInt8.toNat_inj.1
    rw [show 16 * (x.toNat / 16) + x.toNat % 16 = x.toNat by omega]
    simp
theorem hexL_all (l : List UInt8) : ((hexL l).all fun c => decide (dv c.toNat < 16)) = true := by
  induction l with
  | nil => rfl
  | cons x l ih =>
    have hx := x.toNat_lt
    simp only [hexL, List.all_cons, ih, dv_dg _ (show x.toNat / 16 < 16 by omega), dv_dg _ (show x.toNat % 16 < 16 by omega)]
    simp
    omega
theorem parseL_hexL (l : List UInt8) : parseL (hexL l) = some l := by
  unfold parseL
  rw [hexL_all, hexL_length, pairs_hexL]
  simp
theorem pairs_take (l : List UInt8) (m : Nat) (h : 2 * m + 1 < l.length) : pairs (l.take (2 * (m + 1))) = pairs (l.take (2 * m)) ++ [UInt8.ofNat (16 * dv (l.getD (2 * m) 0).toNat + dv (l.getD (2 * m + 1) 0).toNat)] := by
  induction m generalizing l with
  | zero =>
    match l, h with
    | x :: y :: t, _ => rfl
  | succ m ih =>
    match l, h with
    | x :: y :: t, h =>
      have := ih t (by simp at h; omega)
      have e1 : (x :: y :: t).take (2 * (m + 1 + 1)) = x :: y :: t.take (2 * (m + 1)) := rfl
      have e2 : (x :: y :: t).take (2 * (m + 1)) = x :: y :: t.take (2 * m) := rfl
      have e3 : (x :: y :: t).getD (2 * (m + 1)) 0 = t.getD (2 * m) 0 := rfl
      have e4 : (x :: y :: t).getD (2 * (m + 1) + 1) 0 = t.getD (2 * m + 1) 0 := rfl
      rw [e1, e2, e3, e4, pairs, pairs, this]
      rfl

/-- What Parse has written behind k digits. -/
def stateL (l : List UInt8) (k n : Nat) : List UInt8 :=
  pairs (l.take (2 * (k / 2))) ++ ((if k % 2 = 1 then [UInt8.ofNat (dv (l.getD (k - 1) 0).toNat)] else []) ++ List.replicate (n - (k + 1) / 2) 0)
def stY (l : List UInt8) (k : Nat) : Nat := if k % 2 = 1 then dv (l.getD (k - 1) 0).toNat else 0
theorem pairs_take_length (l : List UInt8) (m : Nat) (h : 2 * m ≤ l.length) : (pairs (l.take (2 * m))).length = m := by
  rw [pairs_length, List.length_take]; omega
theorem st_length (l : List UInt8) (k n : Nat) (h : l.length = 2 * n) (hk : k ≤ l.length) : (stateL l k n).length = n := by
  unfold stateL
  rw [List.length_append, pairs_take_length l _ (by omega), List.length_append, List.length_replicate]
  split
  · simp; omega
  · simp; omega
theorem st_get (l : List UInt8) (k n : Nat) (h : l.length = 2 * n) (hk : k < l.length) : (stateL l k n).getD (k / 2) 0 = UInt8.ofNat (stY l k) := by
  have hp := pairs_take_length l (k / 2) (by omega)
  unfold stateL stY
  rw [List.getD, List.getElem?_append_right (by omega), hp, Nat.sub_self]
  split
  · simp
  · rw [List.nil_append, List.getElem?_replicate]
    split <;> rfl
theorem st_set (l : List UInt8) (k n : Nat) (h : l.length = 2 * n) (hk : k < l.length) : (stateL l k n).set (k / 2) (UInt8.ofNat (stY l k * 16 + dv (l.getD k 0).toNat)) = stateL l (k + 1) n := by
  rcases Nat.mod_two_eq_zero_or_one k with e | e
  · obtain ⟨m, rfl⟩ : ∃ m, k = 2 * m := ⟨k / 2, by omega⟩
    have hp := pairs_take_length l m (by omega)
    have e1 : 2 * m / 2 = m := by omega
    have e2 : (2 * m + 1) / 2 = m := by omega
    have e3 : (2 * m + 1 + 1) / 2 = m + 1 := by omega
    have e4 : ¬ (2 * m) % 2 = 1 := by omega
    have e5 : (2 * m + 1) % 2 = 1 := by omega
    unfold stateL stY
    rw [e1, e2, e3, if_neg e4, if_neg e4, if_pos e5, Nat.zero_mul, Nat.zero_add, List.nil_append, Nat.add_sub_cancel]
    have := set_pad (pairs (l.take (2 * m))) (n - m) (UInt8.ofNat (dv (l.getD (2 * m) 0).toNat)) (by omega)
    rw [hp] at this
    rw [this, List.append_assoc, Nat.sub_sub]
  · obtain ⟨m, rfl⟩ : ∃ m, k = 2 * m + 1 := ⟨k / 2, by omega⟩
    have hp := pairs_take_length l m (by omega)
    have e1 : (2 * m + 1) / 2 = m := by omega
    have e2 : (2 * m + 1 + 1) / 2 = m + 1 := by omega
    have e3 : (2 * m + 1 + 1 + 1) / 2 = m + 1 := by omega
    have e4 : (2 * m + 1) % 2 = 1 := by omega
    have e5 : ¬ (2 * m + 1 + 1) % 2 = 1 := by omega
    unfold stateL stY
    rw [e1, e2, e3, if_pos e4, if_pos e4, if_neg e5, Nat.add_sub_cancel, List.nil_append, pairs_take l m (by omega), List.set_append_right _ _ (by omega), hp, Nat.sub_self, List.append_assoc, Nat.mul_comm 16]
    rfl
theorem stY_lt (l : List UInt8) (k : Nat) (h : ∀ j, j < k → dv (l.getD j 0).toNat < 16) (hk : 0 < k) : stY l k < 16 := by
  unfold stY
  split
  · exact h _ (by omega)
  · omega
theorem stY_zero (l : List UInt8) : stY l 0 < 16 := by unfold stY; simp
theorem st_end (l : List UInt8) (n : Nat) (h : l.length = 2 * n) : stateL l l.length n = pairs l := by
  unfold stateL
  rw [h, show 2 * n / 2 = n by omega, show (2 * n + 1) / 2 = n by omega, if_neg (by omega), List.take_of_length_le (by omega), Nat.sub_self]
  simp
theorem parse_none (l : List UInt8) (k : Nat) (hk : k < l.length) (h : ¬ dv (l.getD k 0).toNat < 16) : parseL l = none := by
  unfold parseL
  have e : (l.all fun c => decide (dv c.toNat < 16)) = false := by
    rw [Bool.eq_false_iff]
    intro hall
    rw [List.all_eq_true] at hall
    have := hall (l.getD k 0) (by rw [List.getD, List.getElem?_eq_getElem hk]; exact List.getElem_mem hk)
    exact h (by simpa using this)
  rw [e]
  rfl
theorem parse_odd (l : List UInt8) (h : l.length % 2 = 1) : parseL l = none := by
  unfold parseL
  rw [h]
  simp
theorem parse_some (l : List UInt8) (n : Nat) (hl : l.length = 2 * n) (h : ∀ j, j < l.length → dv (l.getD j 0).toNat < 16) : parseL l = some (pairs l) := by
  unfold parseL
  have e : (l.all fun c => decide (dv c.toNat < 16)) = true := by
    rw [List.all_eq_true]
    intro x hx
    obtain ⟨j, hj, rfl⟩ := List.getElem_of_mem hx
    have := h j hj
    rw [← gd hj] at this
    simpa using this
  rw [e, hl]
  simp

/-! ### Pieces -/
def sp (n : Nat) : Nat → List UInt8 → List (List UInt8)
  | 0, _ => []
  | f + 1, l => if l.length = 0 then [] else l.take n :: sp n f (l.drop n)
def splitL (l : List UInt8) (n : Nat) : List (List UInt8) := sp n l.length l
theorem sp_fuel (n : Nat) (hn : 1 ≤ n) : ∀ (f g : Nat) (l : List UInt8), l.length ≤ f → l.length ≤ g → sp n f l = sp n g l
  | 0, 0, _, _, _ => rfl
  | 0, g + 1, l, hf, _ => by rw [sp, sp, if_pos (by omega)]
  | f + 1, 0, l, _, hg => by rw [sp, sp, if_pos (by omega)]
  | f + 1, g + 1, l, hf, hg => by
    rw [sp, sp]
    split
    · rfl
    · rw [sp_fuel n hn f g (l.drop n) (by simp; omega) (by simp; omega)]
theorem splitL_step (l : List UInt8) (n : Nat) (hn : 1 ≤ n) (h : 0 < l.length) : splitL l n = l.take n :: splitL (l.drop n) n := by
  unfold splitL
  obtain ⟨m, hm⟩ : ∃ m, l.length = m + 1 := ⟨l.length - 1, by omega⟩
  conv => lhs; rw [hm]
  rw [sp, if_neg (by omega), sp_fuel n hn m (l.drop n).length (l.drop n) (by simp; omega) (Nat.le_refl _)]
theorem splitL_nil (n : Nat) : splitL [] n = [] := rfl
theorem splitL_join (n : Nat) (hn : 1 ≤ n) : ∀ (f : Nat) (l : List UInt8), l.length ≤ f → (splitL l n).flatten = l
  | 0, l, h => by
    have : l = [] := List.eq_nil_of_length_eq_zero (by omega)
    subst this; rfl
  | f + 1, l, h => by
    rcases Nat.eq_zero_or_pos l.length with h0 | h0
    · have : l = [] := List.eq_nil_of_length_eq_zero h0
      subst this; rfl
    · rw [splitL_step l n hn h0, List.flatten_cons, splitL_join n hn f (l.drop n) (by simp; omega), List.take_append_drop]

end Go.Proofs.YtdalcldilmmgmaaDoor
