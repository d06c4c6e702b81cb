/-
  Carried over from the seat of layers 1 and 2: Sh,Math,Cmp,Cmpb,Tag,Tre,Unp,Lol,Put,Exa,Enca,Joi,Wlkb,Wlkd,Encb,Encc,Encd.
-/
import Derived.Test.YtjkbfogjfgnhiaaDoorVnd
import Derived.Shelf.Bits.Mul64
import Derived.Shelf.Bytes.SlSearch0
import Derived.Ground.SlbCloneProg
import Derived.Shelf.Bytes.SlClone
import Derived.Ground.SlbNamesProg
import Derived.Shelf.Bytes.SlJoin
import Derived.Shelf.Bytes.SlSmallAll
import Derived.Shelf.Bytes.SlEqualAll
import Derived.Shelf.Bytes.Small
import Derived.Deep.QuietTactic
import Derived.BigQuiet
import Derived.Lib.Hide
import Derived.Lib.Bytealg
namespace Go.Proofs.YtjkbfogjfgnhiaaDoor
set_option linter.unusedVariables false
set_option linter.unusedSimpArgs false
open Go.RowKit

def Tryd.laysSlK4_ren : Go.Shelf.Ren := ⟨fun | 4 => 118 | n => n, fun | 22 => 42 | 4 => 4 | 5 => 5 | n => n, fun | n => n⟩
theorem Tryd.laysSlK4 : Go.Proofs.SlLaysK.n4 Tryd.prog Tryd.laysSlK4_ren := {
  mixed := by kernel_rfl
  f4 := Tryd.func118.trans (congrArg some (by kernel_rfl))
  t4 := Tryd.underlying4
  a4 := Tryd.isAgg4
  z4 := Tryd.sizeOf4
  v4 := Tryd.zeroValue4
  t22 := Tryd.underlying42
  a22 := Tryd.isAgg42
  z22 := Tryd.sizeOf42
  v22 := Tryd.zeroValue42
  t5 := Tryd.underlying5
  i5 := by kernel_rfl }
/-- bytes.Clone: "Clone returns a copy of b[:len(b)]. The result may have additional unused capacity.": OF A SLICE THAT IS NOT nil IT RETURNS A SLICE THAT IS NOT nil, OF THE SAME BYTES, IN MEMORY OF THE CALL's OWN: in the how-to's words (6f): 'w'.ownsRow B e 1 v' n cells' · 'Below B w w'', B the heap's size at the call. b AT WHATEVER ADDRESS, its cells as 'open_ints' hands them ('a.add i'; the numbers 'xs'). No byte: no cell is asked for. (LAID: no walk: one application.) -/
theorem Tryd.bytes_Clone_at (a : Addr) (n c : Nat) (xs : List Int) (w : World) (hx : xs.length = n) (hbig : n ≤ 140737488355328) (hc : ∀ i, i < n → w.cell? (a.add i) = some (.int .u8 (xs.getD i 0))) :
    Calls Tryd.prog 118 #[.slice (some a) n c] w fun e w' => ∃ v', e = .returned v' ∧ w'.ownsRow w.heap.size 5 1 v' n (xs.map (Value.int .u8)) ∧ v' ≠ .slice none 0 0 ∧ Below w.heap.size w w' := Any.bytes_Clone_at Tryd.laysSlK4 a n c xs w hx hbig hc
/-- "Clone(nil) returns nil.": the world is as it was. (LAID: no walk: one application.) -/
theorem Tryd.bytes_Clone_nil (n c : Nat) (w : World) :
    Calls Tryd.prog 118 #[.slice none n c] w fun e w' => e = .returned (.slice none 0 0) ∧ w' = w := Any.bytes_Clone_nil Tryd.laysSlK4 n c w
def Tryd.laysSlJ14_ren : Go.Shelf.Ren := ⟨fun | 14 => 109 | 15 => 117 | n => n, fun | 26 => 112 | 22 => 42 | 3 => 3 | 4 => 4 | 0 => 0 | 9 => 9 | 20 => 20 | 5 => 5 | n => n, fun | n => n⟩
theorem Tryd.laysSlJ14 : Go.Proofs.SlLaysJ.n14 Tryd.prog Tryd.laysSlJ14_ren := {
  mixed := by kernel_rfl
  f14 := Tryd.func109.trans (congrArg some (by kernel_rfl))
  f15 := Tryd.func117.trans (congrArg some (by kernel_rfl))
  t0 := Tryd.underlying0
  a0 := Tryd.isAgg0
  z0 := Tryd.sizeOf0
  v0 := Tryd.zeroValue0
  t3 := Tryd.underlying3
  a3 := Tryd.isAgg3
  z3 := Tryd.sizeOf3
  v3 := Tryd.zeroValue3
  t4 := Tryd.underlying4
  a4 := Tryd.isAgg4
  z4 := Tryd.sizeOf4
  v4 := Tryd.zeroValue4
  t9 := Tryd.underlying9
  a9 := Tryd.isAgg9
  z9 := Tryd.sizeOf9
  v9 := Tryd.zeroValue9
  t20 := Tryd.underlying20
  a20 := Tryd.isAgg20
  z20 := Tryd.sizeOf20
  v20 := Tryd.zeroValue20
  t22 := Tryd.underlying42
  a22 := Tryd.isAgg42
  z22 := Tryd.sizeOf42
  v22 := Tryd.zeroValue42
  t26 := Tryd.underlying112
  a26 := Tryd.isAgg112
  z26 := Tryd.sizeOf112
  v26 := Tryd.zeroValue112
  t5 := Tryd.underlying5
  z5 := Tryd.sizeOf5
  i5 := by kernel_rfl }
theorem Tryd.bytes_Join_many (b o n c : Nat) (vs : List Value) (ls : List (List UInt8)) (sv : Value) (sep : List UInt8) (w : World) (hn : ls.length = n) (h2 : 2 ≤ n) (hP : Lib.PartsAt w ⟨b, o, none⟩ vs ls) (hcap : n ≤ c) (hS : Lib.HoldsBytes w sv sep) (hn47 : n ≤ 140737488355328) (hlen : Lib.lens ls + sep.length * (n - 1) ≤ 140737488355328) :
    Calls Tryd.prog 109 #[.slice (some ⟨b, o, none⟩) n c, sv] w fun e w' => ∃ v', e = .returned v' ∧ Lib.FreshBytes w.heap.size w' v' (Lib.join ls sep) ∧ Below w.heap.size w w' := Any.bytes_Join_many Tryd.laysSlJ14 b o n c vs ls sv sep w hn h2 hP hcap hS hn47 hlen
/-- bytes.Join of no part (nil too): '[]byte{}': a slice of no byte THAT IS NOT nil, at the head of a new, empty row. (LAID: no walk: one application.) -/
theorem Tryd.bytes_Join_none (p : Option Addr) (c : Nat) (sv : Value) (w : World) :
    Calls Tryd.prog 109 #[.slice p 0 c, sv] w fun e w' => e = .returned (.slice (some ⟨w.heap.size, 0, none⟩) 0 0) ∧ w' = w.alloc (.cells #[] 5) := Any.bytes_Join_none Tryd.laysSlJ14 p c sv w
/-- bytes.Join of ONE part, of one byte or more: 'append([]byte(nil), s[0]...)': a new []byte of its bytes; sep is not looked at. (LAID: no walk: one application.) -/
theorem Tryd.bytes_Join_one (b o c : Nat) (ad0 : Addr) (c0 : Nat) (l0 : List UInt8) (sv : Value) (w : World) (hcell : w.cell? ⟨b, o, none⟩ = some (.slice (some ad0) l0.length c0)) (hc : ∀ (i : Nat) x, l0[i]? = some x → w.cell? (ad0.add i) = some (.int .u8 (x.toNat : Int))) (h0 : 0 < l0.length) (hs : l0.length ≤ 140737488355328) :
    Calls Tryd.prog 109 #[.slice (some ⟨b, o, none⟩) 1 c, sv] w fun e w' => ∃ v', e = .returned v' ∧ Lib.FreshBytes w.heap.size w' v' l0 ∧ Below w.heap.size w w' := Any.bytes_Join_one Tryd.laysSlJ14 b o c ad0 c0 l0 sv w hcell hc h0 hs
/-- bytes.Join of ONE part of no byte (nil or not): 'append([]byte(nil), s[0]...)' IS nil; the world is as it was. (LAID: no walk: one application.) -/
theorem Tryd.bytes_Join_one_empty (b o c : Nat) (p0 : Option Addr) (c0 : Nat) (sv : Value) (w : World) (hcell : w.cell? ⟨b, o, none⟩ = some (.slice p0 0 c0)) :
    Calls Tryd.prog 109 #[.slice (some ⟨b, o, none⟩) 1 c, sv] w fun e w' => e = .returned (.slice none 0 0) ∧ w' = w := Any.bytes_Join_one_empty Tryd.laysSlJ14 b o c p0 c0 sv w hcell

def cmpL : List UInt8 → List UInt8 → Int
  | [], [] => 0
  | [], _ :: _ => -1
  | _ :: _, [] => 1
  | x :: xs, y :: ys => if x.toNat < y.toNat then -1 else if y.toNat < x.toNat then 1 else cmpL xs ys

theorem cmpL_self (a : List UInt8) : cmpL a a = 0 := by
  induction a with
  | nil => rfl
  | cons x xs ih => simp [cmpL, ih]

/-- Where the first k bytes agree, what decides comes behind them. -/
theorem cmpL_drop (a b : List UInt8) (k : Nat) (ha : k ≤ a.length) (hb : k ≤ b.length) (h : ∀ j, j < k → a.getD j 0 = b.getD j 0) : cmpL a b = cmpL (a.drop k) (b.drop k) := by
  induction k generalizing a b with
  | zero => simp
  | succ k ih =>
    match a, b with
    | [], _ => simp at ha
    | _ :: _, [] => simp at hb
    | x :: xs, y :: ys =>
      have h0 : x = y := by simpa using h 0 (by omega)
      subst h0
      have := ih xs ys (by simpa using ha) (by simpa using hb) (fun j hj => by simpa using h (j + 1) (by omega))
      simp [cmpL, this]

theorem drop_getD (a : List UInt8) (k : Nat) (h : k < a.length) : a.drop k = a.getD k 0 :: a.drop (k + 1) := by
  rw [List.drop_eq_getElem_cons h]; simp [List.getD, List.getElem?_eq_getElem h]

theorem cmpL_lt (a b : List UInt8) (k : Nat) (ha : k < a.length) (hb : k < b.length) (h : ∀ j, j < k → a.getD j 0 = b.getD j 0) (hl : (a.getD k 0).toNat < (b.getD k 0).toNat) : cmpL a b = -1 := by
  rw [cmpL_drop a b k (by omega) (by omega) h, drop_getD a k ha, drop_getD b k hb]
  simp only [cmpL]
  rw [if_pos hl]

theorem cmpL_gt (a b : List UInt8) (k : Nat) (ha : k < a.length) (hb : k < b.length) (h : ∀ j, j < k → a.getD j 0 = b.getD j 0) (hl : (b.getD k 0).toNat < (a.getD k 0).toNat) : cmpL a b = 1 := by
  rw [cmpL_drop a b k (by omega) (by omega) h, drop_getD a k ha, drop_getD b k hb]
  simp only [cmpL]
  rw [if_neg (by omega), if_pos hl]

theorem cmpL_end_lt (a b : List UInt8) (hb : a.length < b.length) (h : ∀ j, j < a.length → a.getD j 0 = b.getD j 0) : cmpL a b = -1 := by
  rw [cmpL_drop a b a.length (by omega) (by omega) h, List.drop_length, drop_getD b a.length hb]
  rfl

theorem cmpL_end_gt (a b : List UInt8) (hb : b.length < a.length) (h : ∀ j, j < b.length → a.getD j 0 = b.getD j 0) : cmpL a b = 1 := by
  rw [cmpL_drop a b b.length (by omega) (by omega) h, List.drop_length, drop_getD a b.length hb]
  rfl

theorem cmpL_end_eq (a b : List UInt8) (hb : a.length = b.length) (h : ∀ j, j < a.length → a.getD j 0 = b.getD j 0) : cmpL a b = 0 := by
  rw [cmpL_drop a b a.length (by omega) (by omega) h, List.drop_length, List.drop_eq_nil_of_le (by omega)]
  rfl

theorem cmpL_eq_zero {a b : List UInt8} (h : cmpL a b = 0) : a = b := by
  induction a generalizing b with
  | nil => cases b with
    | nil => rfl
    | cons => simp [cmpL] at h
  | cons x xs ih => cases b with
    | nil => simp [cmpL] at h
    | cons y ys =>
      simp only [cmpL] at h
      split at h
      · simp at h
      · split at h
        · simp at h
        · have e : x = y := UInt8.toNat_inj.1 (by omega)
          rw [e, ih h]


theorem take_snoc (a : List UInt8) (k : Nat) (h : k < a.length) : a.take (k + 1) = a.take k ++ [a.getD k 0] := by
  rw [List.take_succ_eq_append_getElem h]; simp [List.getD, List.getElem?_eq_getElem h]

/-- The next place of a list that is filled from the front. -/
theorem set_pad (x : List UInt8) (n : Nat) (y : UInt8) (h : 0 < n) : (x ++ List.replicate n 0).set x.length y = (x ++ [y]) ++ List.replicate (n - 1) 0 := by
  obtain ⟨m, rfl⟩ : ∃ m, n = m + 1 := ⟨n - 1, by omega⟩
  rw [List.set_append_right _ _ (Nat.le_refl _)]
  simp [List.replicate_succ]

def xorL (a b : List UInt8) : List UInt8 := List.zipWith (· ^^^ ·) a b
theorem xorL_length (a b : List UInt8) (h : a.length = b.length) : (xorL a b).length = a.length := by simp [xorL, h]
theorem xorL_getD (a b : List UInt8) (k : Nat) (h : k < a.length) (h' : k < b.length) : (xorL a b).getD k 0 = a.getD k 0 ^^^ b.getD k 0 := by
  simp [xorL, List.getD, List.getElem?_zipWith, List.getElem?_eq_getElem h, List.getElem?_eq_getElem h']
theorem xorL_take (a b : List UInt8) (k : Nat) (h : k < a.length) (h' : k < b.length) : xorL (a.take (k + 1)) (b.take (k + 1)) = xorL (a.take k) (b.take k) ++ [a.getD k 0 ^^^ b.getD k 0] := by
  rw [take_snoc a k h, take_snoc b k h', xorL, xorL, List.zipWith_append (by simp; omega)]
  rfl
theorem xorL_xorL (a b : List UInt8) (h : a.length = b.length) : xorL (xorL a b) b = a := by
  induction a generalizing b with
  | nil => rfl
  | cons x xs ih => cases b with
    | nil => simp at h
    | cons y ys =>
      have := ih ys (by simpa using h)
      simp only [xorL, List.zipWith_cons_cons] at this ⊢
      rw [this]
      congr 1
      rw [UInt8.xor_assoc, UInt8.xor_self, UInt8.xor_zero]

theorem gd {a : List UInt8} {k : Nat} (h : k < a.length) : a[k] = a.getD k 0 := by simp [List.getD, List.getElem?_eq_getElem h]

def bigN : Nat := 9223372036854775807
def numL (l : List UInt8) : Nat := l.foldl (fun n x => n * 256 + x.toNat) 0
theorem numL_snoc (l : List UInt8) (x : UInt8) : numL (l ++ [x]) = numL l * 256 + x.toNat := by simp [numL]
theorem numL_bound (l : List UInt8) : numL l < 256 ^ l.length := by
  rw [← List.reverse_reverse l]
  generalize l.reverse = r
  induction r with
  | nil => simp [numL]
  | cons x r ih =>
    rw [List.reverse_cons, numL_snoc, List.length_append, List.length_cons, List.length_nil, Nat.pow_succ]
    have := x.toNat_lt
    omega
theorem numL_take (l : List UInt8) (k : Nat) (h : k < l.length) : numL (l.take (k + 1)) = numL (l.take k) * 256 + (l.getD k 0).toNat := by
  rw [take_snoc l k h, numL_snoc]
theorem pow256_le (k : Nat) (h : k < 8) : 256 ^ k ≤ 72057594037927936 := by
  have : 256 ^ k ≤ 256 ^ 7 := Nat.pow_le_pow_right (by omega) (by omega)
  omega
theorem numL_foldl (l : List UInt8) (n : Nat) : l.foldl (fun n x => n * 256 + x.toNat) n = n * 256 ^ l.length + numL l := by
  induction l generalizing n with
  | nil => simp [numL]
  | cons x xs ih =>
    have h1 := ih (n * 256 + x.toNat)
    have h2 := ih (0 * 256 + x.toNat)
    simp only [numL, List.foldl_cons, List.length_cons, Nat.pow_succ] at *
    rw [h1, h2, Nat.add_mul, Nat.zero_mul, Nat.zero_add, Nat.mul_assoc, Nat.mul_comm 256]
    omega
theorem numL_head (x : UInt8) (xs : List UInt8) : numL (x :: xs) = x.toNat * 256 ^ xs.length + numL xs := by
  have := numL_foldl xs (0 * 256 + x.toNat)
  simpa [numL] using this
theorem numL_big (l : List UInt8) (h : l.length = 8) (h0 : 127 < (l.getD 0 0).toNat) : bigN < numL l := by
  match l, h with
  | x :: xs, h =>
    have h7 : xs.length = 7 := by simpa using h
    rw [numL_head, h7]
    simp at h0
    unfold bigN
    omega
theorem numL_small8 (l : List UInt8) (h : l.length = 8) (h0 : ¬ 127 < (l.getD 0 0).toNat) : ¬ bigN < numL l := by
  match l, h with
  | x :: xs, h =>
    have h7 : xs.length = 7 := by simpa using h
    have := numL_bound xs
    rw [h7] at this
    rw [numL_head, h7]
    simp at h0
    unfold bigN
    omega
theorem numL_small (l : List UInt8) (h : l.length < 8) : ¬ bigN < numL l := by
  have h1 := numL_bound l
  have h2 := pow256_le l.length h
  unfold bigN
  omega
theorem numL_mono (l : List UInt8) (k : Nat) (h : k ≤ l.length) : numL (l.take k) ≤ numL l := by
  have h1 := numL_foldl (l.drop k) (numL (l.take k))
  have h2 : (l.drop k).foldl (fun n x => n * 256 + x.toNat) (numL (l.take k)) = numL l := by
    unfold numL
    rw [← List.foldl_append, List.take_append_drop]
  rw [h2] at h1
  have h3 : 0 < 256 ^ (l.drop k).length := Nat.pow_pos (by omega)
  have h4 := Nat.le_mul_of_pos_right (numL (l.take k)) h3
  omega
def getN (l : List UInt8) : Int := if 8 < l.length then 0 else if bigN < numL l then 0 else numL l
def getE (l : List UInt8) : Int := if 8 < l.length then 3 else if bigN < numL l then 2 else 0
/-- Before the last of at most eight bytes the number has room for one byte more. -/
theorem numL_room (l : List UInt8) (k : Nat) (h : k < l.length) (h8 : l.length ≤ 8) : numL (l.take k) < 72057594037927936 := by
  have h1 := numL_bound (l.take k)
  have h2 := pow256_le k (by omega)
  have h3 : (l.take k).length = k := by simp; omega
  rw [h3] at h1
  omega

/-- A number as so many bytes, the most significant one first. -/
def putL (n : Nat) : Nat → List UInt8
  | 0 => []
  | k + 1 => UInt8.ofNat (n / 256 ^ k) :: putL n k
theorem putL_length (n k : Nat) : (putL n k).length = k := by induction k with
  | zero => rfl
  | succ k ih => simp [putL, ih]
theorem replicate_set (m : Nat) (X : List UInt8) (y : UInt8) (h : 0 < m) : (List.replicate m 0 ++ X).set (m - 1) y = List.replicate (m - 1) 0 ++ (y :: X) := by
  obtain ⟨j, rfl⟩ : ∃ j, m = j + 1 := ⟨m - 1, by omega⟩
  rw [Nat.add_sub_cancel, List.replicate_succ', List.append_assoc, List.set_append_right _ _ (by simp)]
  simp
theorem numL_putL (n k : Nat) : numL (putL n k) = n % 256 ^ k := by
  induction k with
  | zero => simp [putL, numL, Nat.mod_one]
  | succ k ih =>
    rw [putL, numL_head, putL_length, ih]
    have h1 : (UInt8.ofNat (n / 256 ^ k)).toNat = n / 256 ^ k % 256 := by simp
    rw [h1, Nat.pow_succ, Nat.mod_mul, Nat.mul_comm (256 ^ k), Nat.add_comm]

def padL (l : List UInt8) (n : Nat) : List UInt8 := (l ++ [128]) ++ List.replicate ((l.length / n + 1) * n - (l.length + 1)) 0
theorem pad_room (L n : Nat) (h : 0 < n) : L < (L / n + 1) * n ∧ (L / n + 1) * n ≤ L + n := by
  have h1 := Nat.div_add_mod L n
  have h2 := Nat.mod_lt L h
  rw [Nat.add_mul, Nat.one_mul, Nat.mul_comm]
  omega

theorem pad_mid (L n x : Nat) (h : 0 < n) (h1 : L < x) (h2 : x < (L / n + 1) * n) : x % n ≠ 0 := by
  intro e
  have h3 := Nat.div_add_mod x n
  have h4 : x / n ≤ L / n := by
    have := (Nat.div_lt_iff_lt_mul h).2 h2
    omega
  have h5 : L / n ≤ x / n := Nat.div_le_div_right (by omega)
  have h6 : x / n = L / n := by omega
  have h7 := Nat.div_add_mod L n
  rw [h6, e] at h3
  omega

/-- The bytes before the last one of the first t that is not 0; none unless that is 128. -/
def unp (l : List UInt8) : Nat → Option (List UInt8)
  | 0 => none
  | t + 1 => if l.getD t 0 = 0 then unp l t else if l.getD t 0 = 128 then some (l.take t) else none
def unpadL (l : List UInt8) : Option (List UInt8) := unp l l.length
theorem unp_pad (l : List UInt8) (k j : Nat) (h : j ≤ k) : unp ((l ++ [128]) ++ List.replicate k 0) (l.length + 1 + j) = some l := by
  induction j with
  | zero =>
    simp [unp, List.getD, List.getElem?_append]
  | succ j ih =>
    have e : ((l ++ [128]) ++ List.replicate k 0).getD (l.length + 1 + j) 0 = 0 := by
      rw [List.getD, List.getElem?_append_right (by simp), List.getElem?_replicate]
      split <;> rfl
    rw [← Nat.add_assoc, unp, if_pos e]
    exact ih (by omega)
theorem unpadL_padL (l : List UInt8) (n : Nat) : unpadL (padL l n) = some l := by
  unfold unpadL
  have e : (padL l n).length = l.length + 1 + ((l.length / n + 1) * n - (l.length + 1)) := by simp [padL]; omega
  rw [e]
  exact unp_pad l _ _ (Nat.le_refl _)

def dg (n : Nat) : UInt8 := if n < 10 then UInt8.ofNat (48 + n) else UInt8.ofNat (87 + n)
def hexL : List UInt8 → List UInt8
  | [] => []
  | x :: l => dg (x.toNat / 16) :: dg (x.toNat % 16) :: hexL l
theorem hexL_append (a b : List UInt8) : hexL (a ++ b) = hexL a ++ hexL b := by
  induction a with
  | nil => rfl
  | cons x a ih => simp [hexL, ih]
theorem hexL_length (a : List UInt8) : (hexL a).length = 2 * a.length := by
  induction a with
  | nil => rfl
  | cons x a ih => simp [hexL, ih]; omega
theorem hexL_take (a : List UInt8) (k : Nat) (h : k < a.length) : hexL (a.take (k + 1)) = hexL (a.take k) ++ [dg ((a.getD k 0).toNat / 16), dg ((a.getD k 0).toNat % 16)] := by
  rw [take_snoc a k h, hexL_append]
  rfl

/-- What a digit's byte denotes; 16 if it is none. -/
def dv (c : Nat) : Nat := if 48 ≤ c ∧ c ≤ 57 then c - 48 else if 97 ≤ c ∧ c ≤ 102 then c - 87 else if 65 ≤ c ∧ c ≤ 70 then c - 55 else 16
theorem dv_le (c : Nat) : dv c ≤ 16 := by unfold dv; repeat' split
                                          all_goals omega
theorem dv_big (c : Nat) (h : 128 ≤ c) : dv c = 16 := by unfold dv; rw [if_neg (by omega), if_neg (by omega), if_neg (by omega)]
theorem dv_dg (n : Nat) (h : n < 16) : dv (dg n).toNat = n := by
  match n, h with
  | 0, _ | 1, _ | 2, _ | 3, _ | 4, _ | 5, _ | 6, _ | 7, _ | 8, _ | 9, _ | 10, _ | 11, _ | 12, _ | 13, _ | 14, _ | 15, _ => rfl
  | n + 16, h => exact absurd h (by omega)
def pairs : List UInt8 → List UInt8
  | x :: y :: t => UInt8.ofNat (16 * dv x.toNat + dv y.toNat) :: pairs t
  | _ => []
/-- The bytes that digits denote. -/
def parseL (l : List UInt8) : Option (List UInt8) := if (l.all fun c => decide (dv c.toNat < 16)) && l.length % 2 == 0 then some (pairs l) else none
theorem pairs_length (l : List UInt8) : (pairs l).length = l.length / 2 := by
  match l with
  | [] => simp [pairs]
  | [_] => simp [pairs]
  | x :: y :: t =>
    have := pairs_length t
    simp only [pairs, List.length_cons, this]
    omega
theorem pairs_hexL (l : List UInt8) : pairs (hexL l) = l := by
  induction l with
  | nil => rfl
  | cons x l ih =>
    have hx := x.toNat_lt
    simp only [hexL, pairs, ih, dv_dg _ (show x.toNat / 16 < 16 by omega), dv_dg _ (show x.toNat % 16 < 16 by omega)]
    congr 1
    apply UInt8.toNat_inj.1
    rw [show 16 * (x.toNat / 16) + x.toNat % 16 = x.toNat by omega]
    simp
theorem hexL_all (l : List UInt8) : ((hexL l).all fun c => decide (dv c.toNat < 16)) = true := by
  induction l with
  | nil => rfl
  | cons x l ih =>
    have hx := x.toNat_lt
    simp only [hexL, List.all_cons, ih, dv_dg _ (show x.toNat / 16 < 16 by omega), dv_dg _ (show x.toNat % 16 < 16 by omega)]
    simp
    omega
theorem parseL_hexL (l : List UInt8) : parseL (hexL l) = some l := by
  unfold parseL
  rw [hexL_all, hexL_length, pairs_hexL]
  simp
theorem pairs_take (l : List UInt8) (m : Nat) (h : 2 * m + 1 < l.length) : pairs (l.take (2 * (m + 1))) = pairs (l.take (2 * m)) ++ [UInt8.ofNat (16 * dv (l.getD (2 * m) 0).toNat + dv (l.getD (2 * m + 1) 0).toNat)] := by
  induction m generalizing l with
  | zero =>
    match l, h with
    | x :: y :: t, _ => rfl
  | succ m ih =>
    match l, h with
    | x :: y :: t, h =>
      have := ih t (by simp at h; omega)
      have e1 : (x :: y :: t).take (2 * (m + 1 + 1)) = x :: y :: t.take (2 * (m + 1)) := rfl
      have e2 : (x :: y :: t).take (2 * (m + 1)) = x :: y :: t.take (2 * m) := rfl
      have e3 : (x :: y :: t).getD (2 * (m + 1)) 0 = t.getD (2 * m) 0 := rfl
      have e4 : (x :: y :: t).getD (2 * (m + 1) + 1) 0 = t.getD (2 * m + 1) 0 := rfl
      rw [e1, e2, e3, e4, pairs, pairs, this]
      rfl

/-- What Parse has written behind k digits. -/
def stateL (l : List UInt8) (k n : Nat) : List UInt8 :=
  pairs (l.take (2 * (k / 2))) ++ ((if k % 2 = 1 then [UInt8.ofNat (dv (l.getD (k - 1) 0).toNat)] else []) ++ List.replicate (n - (k + 1) / 2) 0)
def stY (l : List UInt8) (k : Nat) : Nat := if k % 2 = 1 then dv (l.getD (k - 1) 0).toNat else 0
theorem pairs_take_length (l : List UInt8) (m : Nat) (h : 2 * m ≤ l.length) : (pairs (l.take (2 * m))).length = m := by
  rw [pairs_length, List.length_take]; omega
theorem st_length (l : List UInt8) (k n : Nat) (h : l.length = 2 * n) (hk : k ≤ l.length) : (stateL l k n).length = n := by
  unfold stateL
  rw [List.length_append, pairs_take_length l _ (by omega), List.length_append, List.length_replicate]
  split
  · simp; omega
  · simp; omega
theorem st_get (l : List UInt8) (k n : Nat) (h : l.length = 2 * n) (hk : k < l.length) : (stateL l k n).getD (k / 2) 0 = UInt8.ofNat (stY l k) := by
  have hp := pairs_take_length l (k / 2) (by omega)
  unfold stateL stY
  rw [List.getD, List.getElem?_append_right (by omega), hp, Nat.sub_self]
  split
  · simp
  · rw [List.nil_append, List.getElem?_replicate]
    split <;> rfl
theorem st_set (l : List UInt8) (k n : Nat) (h : l.length = 2 * n) (hk : k < l.length) : (stateL l k n).set (k / 2) (UInt8.ofNat (stY l k * 16 + dv (l.getD k 0).toNat)) = stateL l (k + 1) n := by
  rcases Nat.mod_two_eq_zero_or_one k with e | e
  · obtain ⟨m, rfl⟩ : ∃ m, k = 2 * m := ⟨k / 2, by omega⟩
    have hp := pairs_take_length l m (by omega)
    have e1 : 2 * m / 2 = m := by omega
    have e2 : (2 * m + 1) / 2 = m := by omega
    have e3 : (2 * m + 1 + 1) / 2 = m + 1 := by omega
    have e4 : ¬ (2 * m) % 2 = 1 := by omega
    have e5 : (2 * m + 1) % 2 = 1 := by omega
    unfold stateL stY
    rw [e1, e2, e3, if_neg e4, if_neg e4, if_pos e5, Nat.zero_mul, Nat.zero_add, List.nil_append, Nat.add_sub_cancel]
    have := set_pad (pairs (l.take (2 * m))) (n - m) (UInt8.ofNat (dv (l.getD (2 * m) 0).toNat)) (by omega)
    rw [hp] at this
    rw [this, List.append_assoc, Nat.sub_sub]
  · obtain ⟨m, rfl⟩ : ∃ m, k = 2 * m + 1 := ⟨k / 2, by omega⟩
    have hp := pairs_take_length l m (by omega)
    have e1 : (2 * m + 1) / 2 = m := by omega
    have e2 : (2 * m + 1 + 1) / 2 = m + 1 := by omega
    have e3 : (2 * m + 1 + 1 + 1) / 2 = m + 1 := by omega
    have e4 : (2 * m + 1) % 2 = 1 := by omega
    have e5 : ¬ (2 * m + 1 + 1) % 2 = 1 := by omega
    unfold stateL stY
    rw [e1, e2, e3, if_pos e4, if_pos e4, if_neg e5, Nat.add_sub_cancel, List.nil_append, pairs_take l m (by omega), List.set_append_right _ _ (by omega), hp, Nat.sub_self, List.append_assoc, Nat.mul_comm 16]
    rfl
theorem stY_lt (l : List UInt8) (k : Nat) (h : ∀ j, j < k → dv (l.getD j 0).toNat < 16) (hk : 0 < k) : stY l k < 16 := by
  unfold stY
  split
  · exact h _ (by omega)
  · omega
theorem stY_zero (l : List UInt8) : stY l 0 < 16 := by unfold stY; simp
theorem st_end (l : List UInt8) (n : Nat) (h : l.length = 2 * n) : stateL l l.length n = pairs l := by
  unfold stateL
  rw [h, show 2 * n / 2 = n by omega, show (2 * n + 1) / 2 = n by omega, if_neg (by omega), List.take_of_length_le (by omega), Nat.sub_self]
  simp
theorem parse_none (l : List UInt8) (k : Nat) (hk : k < l.length) (h : ¬ dv (l.getD k 0).toNat < 16) : parseL l = none := by
  unfold parseL
  have e : (l.all fun c => decide (dv c.toNat < 16)) = false := by
    rw [Bool.eq_false_iff]
    intro hall
    rw [List.all_eq_true] at hall
    have := hall (l.getD k 0) (by rw [List.getD, List.getElem?_eq_getElem hk]; exact List.getElem_mem hk)
    exact h (by simpa using this)
  rw [e]
  rfl
theorem parse_odd (l : List UInt8) (h : l.length % 2 = 1) : parseL l = none := by
  unfold parseL
  rw [h]
  simp
theorem parse_some (l : List UInt8) (n : Nat) (hl : l.length = 2 * n) (h : ∀ j, j < l.length → dv (l.getD j 0).toNat < 16) : parseL l = some (pairs l) := by
  unfold parseL
  have e : (l.all fun c => decide (dv c.toNat < 16)) = true := by
    rw [List.all_eq_true]
    intro x hx
    obtain ⟨j, hj, rfl⟩ := List.getElem_of_mem hx
    have := h j hj
    rw [← gd hj] at this
    simpa using this
  rw [e, hl]
  simp

def sp (n : Nat) : Nat → List UInt8 → List (List UInt8)
  | 0, _ => []
  | f + 1, l => if l.length = 0 then [] else l.take n :: sp n f (l.drop n)
def splitL (l : List UInt8) (n : Nat) : List (List UInt8) := sp n l.length l
theorem sp_fuel (n : Nat) (hn : 1 ≤ n) : ∀ (f g : Nat) (l : List UInt8), l.length ≤ f → l.length ≤ g → sp n f l = sp n g l
  | 0, 0, _, _, _ => rfl
  | 0, g + 1, l, hf, _ => by rw [sp, sp, if_pos (by omega)]
  | f + 1, 0, l, _, hg => by rw [sp, sp, if_pos (by omega)]
  | f + 1, g + 1, l, hf, hg => by
    rw [sp, sp]
    split
    · rfl
    · rw [sp_fuel n hn f g (l.drop n) (by simp; omega) (by simp; omega)]
theorem splitL_step (l : List UInt8) (n : Nat) (hn : 1 ≤ n) (h : 0 < l.length) : splitL l n = l.take n :: splitL (l.drop n) n := by
  unfold splitL
  obtain ⟨m, hm⟩ : ∃ m, l.length = m + 1 := ⟨l.length - 1, by omega⟩
  conv => lhs; rw [hm]
  rw [sp, if_neg (by omega), sp_fuel n hn m (l.drop n).length (l.drop n) (by simp; omega) (Nat.le_refl _)]
theorem splitL_nil (n : Nat) : splitL [] n = [] := rfl
theorem splitL_join (n : Nat) (hn : 1 ≤ n) : ∀ (f : Nat) (l : List UInt8), l.length ≤ f → (splitL l n).flatten = l
  | 0, l, h => by
    have : l = [] := List.eq_nil_of_length_eq_zero (by omega)
    subst this; rfl
  | f + 1, l, h => by
    rcases Nat.eq_zero_or_pos l.length with h0 | h0
    · have : l = [] := List.eq_nil_of_length_eq_zero h0
      subst this; rfl
    · rw [splitL_step l n hn h0, List.flatten_cons, splitL_join n hn f (l.drop n) (by simp; omega), List.take_append_drop]


theorem dn1 (w : World) (n : Nat) : ∃ m, w.drewN n = w.drewN m := ⟨n, rfl⟩
theorem dn2 (w : World) (n m : Nat) : ∃ k, (w.drewN n).drewN m = w.drewN k := ⟨n + m, World.drewN_drewN ..⟩
theorem u8_eq {x y : UInt8} (h : ¬ x.toNat < y.toNat) (g : ¬ y.toNat < x.toNat) : x = y := UInt8.toNat_inj.1 (by omega)
theorem agree_snoc {a b : List UInt8} {k : Nat} (h : ∀ j, j < k → a.getD j 0 = b.getD j 0) (hk : a.getD k 0 = b.getD k 0) : ∀ j, j < k + 1 → a.getD j 0 = b.getD j 0 := by
  intro j hj
  by_cases e : j = k
  · rw [e]; exact hk
  · exact h j (by omega)


theorem cmpL_lib (a b : List UInt8) : Lib.compareBytes a b = cmpL a b := by
  induction a generalizing b with
  | nil => cases b <;> rfl
  | cons x xs ih => cases b with
    | nil => rfl
    | cons y ys =>
      simp only [Lib.compareBytes, cmpL, ih, UInt8.lt_iff_toNat_lt]

theorem map_nat_getD (l : List UInt8) (k : Nat) : (l.map fun x => (x.toNat : Int)).getD k 0 = ((l.getD k 0).toNat : Int) := by
  by_cases h : k < l.length
  · simp [List.getD, List.getElem?_eq_getElem h]
  · simp [List.getD, List.getElem?_eq_none (Nat.le_of_not_lt h)]
theorem bytesOf_map (l : List UInt8) : Lib.bytesOf (l.map fun x => (x.toNat : Int)) = l := by
  unfold Lib.bytesOf
  rw [List.map_map]
  conv => rhs; rw [← List.map_id l]
  apply List.map_congr_left
  intro x _
  simp

theorem SL.bytesIn {w : World} {B : Nat} {A : Option Addr} {l : List UInt8} (h : Rd w B A l) : Lib.BytesIn w A l.length (l.map fun x => (x.toNat : Int)) := fun hn => by
  obtain ⟨b, o, hA, _, hc⟩ := h hn
  exact ⟨b, o, hA, fun i hi => by rw [hc i hi, map_nat_getD]⟩

theorem strOfNums_map (l : List UInt8) : strOfNums (l.map fun x => (x.toNat : Int)) = ⟨l.toArray⟩ := by
  apply ByteArray.ext
  apply Array.ext'
  rw [strOfNums_data, List.map_map]
  conv => rhs; rw [← List.map_id l]
  apply List.map_congr_left
  intro x _
  simp
theorem SL.convert {w : World} {B : Nat} {v : Value} {l : List UInt8} (h : SL w B v l) : Sem.run Tryd.prog (convert 42 9 v) w = .ok (.string ⟨l.toArray⟩) w := by
  obtain ⟨A, c, rfl, _, _, h3⟩ := h
  rw [(SL.bytesIn h3).convert (P := Tryd.prog) (by simp) c 42 5 9 Tryd.underlying42 Tryd.underlying5 Tryd.underlying9, strOfNums_map]

theorem Rd.take {w : World} {B : Nat} {A : Option Addr} {l : List UInt8} (h : Rd w B A l) (m : Nat) : Rd w B A (l.take m) := fun hn => by
  rw [List.length_take] at hn
  obtain ⟨b, o, hA, hb, hc⟩ := h (by omega)
  refine ⟨b, o, hA, hb, fun k hk => ?_⟩
  rw [List.length_take] at hk
  rw [hc k (by omega)]
  simp [List.getD, show k < m by omega]

theorem SL.take {w : World} {B c m : Nat} {A : Option Addr} {l : List UInt8} (h : SL w B (.slice A l.length c) l) (hm : m ≤ l.length) : SL w B (.slice A m c) (l.take m) := by
  obtain ⟨A', c', e, h1, h2, h3⟩ := h
  simp only [Value.slice.injEq, true_and] at e
  obtain ⟨rfl, rfl⟩ := e
  exact ⟨A, c, by rw [List.length_take, Nat.min_eq_left hm], by rw [List.length_take]; omega, h2, h3.take m⟩

theorem cmp_take_prefix (a p : List UInt8) (h : p.length ≤ a.length) : (cmpL (a.take p.length) p == 0) = p.isPrefixOf a := by
  rw [Bool.eq_iff_iff, beq_iff_eq, List.isPrefixOf_iff_prefix]
  constructor
  · intro e
    have := cmpL_eq_zero e
    exact ⟨a.drop p.length, by conv => rhs; rw [← List.take_append_drop p.length a, this]⟩
  · rintro ⟨t, rfl⟩
    rw [List.take_left]
    exact cmpL_self p


def validB (t : Int) : Bool := if t < 1 ∨ 65535 < t then false else if t ≤ 255 then t % 32 != 31 else t / 256 % 32 == 31 && decide (31 ≤ t % 256) && decide (t % 256 ≤ 127)
def consB (t : Int) : Bool := validB t && ((if t ≤ 255 then t / 32 % 2 else t / 256 / 32 % 2) == 1)

theorem and_i64 (a b : Nat) (ha : a < 9223372036854775808) (hb : b < 9223372036854775808) : bits .and .i64 (a : Int) (b : Int) = ((a &&& b : Nat) : Int) := by
  have key : ∀ x : Nat, x < 9223372036854775808 → (BitVec.ofInt 64 (x : Int)).toNat = x := fun x hx => by
    rw [BitVec.ofInt_natCast, BitVec.toNat_ofNat]; exact Nat.mod_eq_of_lt (by omega)
  have hx : a &&& b < 2 ^ 63 := Nat.and_lt_two_pow _ (by omega)
  show IntKind.i64.wrap ((BitVec.ofInt 64 (a : Int) &&& BitVec.ofInt 64 (b : Int)).toNat : Int) = _
  rw [BitVec.toNat_and, key a ha, key b hb, IntKind.wrap_i64]
  omega
theorem and31 (N : Nat) (h : N ≤ 65535) : bits .and .i64 (N : Int) 31 = (N : Int) % 32 := by
  rw [show (31 : Int) = ((31 : Nat) : Int) from rfl, and_i64 _ _ (by omega) (by omega), nat_mask5]
  rfl
theorem and255 (N : Nat) (h : N ≤ 65535) : bits .and .i64 (N : Int) 255 = (N : Int) % 256 := by
  rw [show (255 : Int) = ((255 : Nat) : Int) from rfl, and_i64 _ _ (by omega) (by omega), nat_mask8]
  rfl
theorem and32 (N : Nat) (h : N ≤ 65535) : bits .and .i64 (N : Int) 32 = (N : Int) / 32 % 2 * 32 := by
  rw [show (32 : Int) = ((32 : Nat) : Int) from rfl, and_i64 _ _ (by omega) (by omega), show (32 : Nat) = 2 ^ 5 from rfl, nat_bit 5 N]
  simp
set_option maxRecDepth 100000 in
set_option maxHeartbeats 1600000 in
theorem pvalid_any (t : Int) (w : World) : Calls Tryd.prog 107 #[.int .i64 t] w fun e w' => e = .returned (.bool (validB t)) ∧ w = w' := by
  have hcs : t < 1 ∨ 65535 < t ∨ (1 ≤ t ∧ t ≤ 255) ∨ (256 ≤ t ∧ t ≤ 65535) := by omega
  rcases hcs with h | h | ⟨h1, h2⟩ | ⟨h1, h2⟩
  · have HV := Lib.hid (show validB t = false by unfold validB; rw [if_pos (.inl h)])
    go_enter Tryd.func107, Tryd.ntmps107
    go_wp2
    go_ret
    exact ⟨ret_bool HV.out.symm, rfl⟩
  · have HV := Lib.hid (show validB t = false by unfold validB; rw [if_pos (.inr h)])
    have h' : ¬ t < 1 := by omega
    go_enter Tryd.func107, Tryd.ntmps107
    go_wp2
    go_ret
    exact ⟨ret_bool HV.out.symm, rfl⟩
  · have HV := Lib.hid (show validB t = (t % 32 != 31) by unfold validB; rw [if_neg (by omega), if_pos h2])
    obtain ⟨N, rfl⟩ := Int.eq_ofNat_of_zero_le (show 0 ≤ t by omega)
    have ha := and31 N (by omega)
    go_enter Tryd.func107, Tryd.ntmps107
    go_wp2
    go_ret
    exact ⟨ret_bool HV.out.symm, rfl⟩
  · have HV := Lib.hid (show validB t = (t / 256 % 32 == 31 && decide (31 ≤ t % 256) && decide (t % 256 ≤ 127)) by unfold validB; rw [if_neg (by omega), if_neg (by omega)])
    obtain ⟨N, rfl⟩ := Int.eq_ofNat_of_zero_le (show 0 ≤ t by omega)
    have ha := and255 N (by omega)
    have hq := and31 (N / 256) (by omega)
    have hq' : bits .and .i64 ((N : Int) / 256) 31 = (N : Int) / 256 % 32 := by simpa using hq
    have hcs : ¬ (N : Int) / 256 % 32 = 31 ∨ ((N : Int) / 256 % 32 = 31 ∧ ¬ 31 ≤ (N : Int) % 256) ∨ ((N : Int) / 256 % 32 = 31 ∧ 31 ≤ (N : Int) % 256) := by omega
    clear hq
    rcases hcs with k | ⟨k, k2⟩ | ⟨k, k2⟩
    · have kb : ((N : Int) / 256 % 32 == 31) = false := by rw [beq_eq_false_iff_ne]; exact k
      clear k
      go_enter Tryd.func107, Tryd.ntmps107
      go_wp2
      go_ret
      exact ⟨ret_bool (by rw [HV.out, kb]; rfl), rfl⟩
    · have kb : ((N : Int) / 256 % 32 == 31) = true := by rw [beq_iff_eq]; exact k
      have kc : decide (31 ≤ (N : Int) % 256) = false := by simpa using k2
      clear k k2
      go_enter Tryd.func107, Tryd.ntmps107
      go_wp2
      go_ret
      exact ⟨ret_bool (by rw [HV.out, kb, kc]; rfl), rfl⟩
    · have kb : ((N : Int) / 256 % 32 == 31) = true := by rw [beq_iff_eq]; exact k
      have kc : decide (31 ≤ (N : Int) % 256) = true := by simpa using k2
      clear k k2
      go_enter Tryd.func107, Tryd.ntmps107
      go_wp2
      go_ret
      exact ⟨ret_bool (by rw [HV.out, kb, kc]; rfl), rfl⟩

set_option maxRecDepth 100000 in
set_option maxHeartbeats 1600000 in
theorem rvalid_any (t : Int) (w : World) : Calls Tryd.prog 110 #[.int .i64 t] w fun e w' => e = .returned (.bool (validB t)) ∧ w = w' := by
  have hcs : t < 1 ∨ 65535 < t ∨ (1 ≤ t ∧ t ≤ 255) ∨ (256 ≤ t ∧ t ≤ 65535) := by omega
  rcases hcs with h | h | ⟨h1, h2⟩ | ⟨h1, h2⟩
  · have HV := Lib.hid (show validB t = false by unfold validB; rw [if_pos (.inl h)])
    go_enter Tryd.func110, Tryd.ntmps110
    go_wp2
    go_ret
    exact ⟨ret_bool HV.out.symm, rfl⟩
  · have HV := Lib.hid (show validB t = false by unfold validB; rw [if_pos (.inr h)])
    go_enter Tryd.func110, Tryd.ntmps110
    go_wp2
    go_ret
    exact ⟨ret_bool HV.out.symm, rfl⟩
  · have HV := Lib.hid (show validB t = (t % 32 != 31) by unfold validB; rw [if_neg (by omega), if_pos h2])
    go_enter Tryd.func110, Tryd.ntmps110
    go_wp2
    go_ret
    exact ⟨ret_bool HV.out.symm, rfl⟩
  · have HV := Lib.hid (show validB t = (t / 256 % 32 == 31 && decide (31 ≤ t % 256) && decide (t % 256 ≤ 127)) by unfold validB; rw [if_neg (by omega), if_neg (by omega)])
    have hcs : ¬ t / 256 % 32 = 31 ∨ (t / 256 % 32 = 31 ∧ ¬ 31 ≤ t % 256) ∨ (t / 256 % 32 = 31 ∧ 31 ≤ t % 256) := by omega
    rcases hcs with k | ⟨k, k2⟩ | ⟨k, k2⟩
    · have kb : (t / 256 % 32 == 31) = false := by rw [beq_eq_false_iff_ne]; exact k
      clear k
      go_enter Tryd.func110, Tryd.ntmps110
      go_wp2
      go_ret
      exact ⟨ret_bool (by rw [HV.out, kb]; rfl), rfl⟩
    · have kb : (t / 256 % 32 == 31) = true := by rw [beq_iff_eq]; exact k
      have kc : decide (31 ≤ t % 256) = false := by simpa using k2
      clear k k2
      go_enter Tryd.func110, Tryd.ntmps110
      go_wp2
      go_ret
      exact ⟨ret_bool (by rw [HV.out, kb, kc]; rfl), rfl⟩
    · have kb : (t / 256 % 32 == 31) = true := by rw [beq_iff_eq]; exact k
      have kc : decide (31 ≤ t % 256) = true := by simpa using k2
      clear k k2
      go_enter Tryd.func110, Tryd.ntmps110
      go_wp2
      go_ret
      exact ⟨ret_bool (by rw [HV.out, kb, kc]; rfl), rfl⟩

theorem validB_range {t : Int} (h : validB t = true) : 1 ≤ t ∧ t ≤ 65535 := by
  unfold validB at h
  split at h
  · cases h
  · omega

set_option maxRecDepth 100000 in
set_option maxHeartbeats 1600000 in
theorem pcons_any (t : Int) (w : World) : Calls Tryd.prog 106 #[.int .i64 t] w fun e w' => e = .returned (.bool (consB t)) ∧ w = w' := by
  have hv := pvalid_any t w
  by_cases hb : validB t = true
  · rw [hb] at hv
    have HV := Lib.hid hv
    obtain ⟨r1, r2⟩ := validB_range hb
    obtain ⟨N, rfl⟩ := Int.eq_ofNat_of_zero_le (show 0 ≤ t by omega)
    by_cases h : (N : Int) ≤ 255
    · have HC := Lib.hid (show consB N = ((N : Int) / 32 % 2 == 1) by unfold consB; rw [hb, if_pos h, Bool.true_and])
      have ha := and32 N (by omega)
      clear hb hv
      go_enter Tryd.func106, Tryd.ntmps106
      go_wp2_with (go_at_call 107; refine HV.out.mono ?_; rintro e w' ⟨rfl, rfl⟩)
      go_ret
      refine ⟨ret_bool ?_, rfl⟩
      rw [HC.out, Bool.eq_iff_iff]
      simp
      omega
    · have HC := Lib.hid (show consB N = ((N : Int) / 256 / 32 % 2 == 1) by unfold consB; rw [hb, if_neg h, Bool.true_and])
      have ha0 := and32 (N / 256) (by omega)
      have ha : bits .and .i64 ((N : Int) / 256) 32 = (N : Int) / 256 / 32 % 2 * 32 := by simpa using ha0
      have h' : (255 : Int) < (N : Int) := by omega
      clear hb hv ha0 h
      go_enter Tryd.func106, Tryd.ntmps106
      go_wp2_with (go_at_call 107; refine HV.out.mono ?_; rintro e w' ⟨rfl, rfl⟩)
      go_ret
      refine ⟨ret_bool ?_, rfl⟩
      rw [HC.out, Bool.eq_iff_iff]
      simp
      omega
  · have hb' : validB t = false := by simpa using hb
    rw [hb'] at hv
    have HV := Lib.hid hv
    have HC := Lib.hid (show consB t = false by unfold consB; rw [hb', Bool.false_and])
    clear hb hb' hv
    by_cases h : 255 < t
    all_goals
      go_enter Tryd.func106, Tryd.ntmps106
      go_wp2_with (go_at_call 107; refine HV.out.mono ?_; rintro e w' ⟨rfl, rfl⟩)
      go_ret
      exact ⟨ret_bool HC.out.symm, rfl⟩

set_option maxRecDepth 100000 in
theorem rfirst_any (t : Int) (w : World) (h0 : 0 ≤ t) (h1 : t ≤ 65535) : Calls Tryd.prog 111 #[.int .i64 t] w fun e w' => e = .returned (.int .i64 (if t ≤ 255 then t else t / 256)) ∧ w = w' := by
  by_cases h : 255 < t
  · have H := Lib.hid (show (if t ≤ 255 then t else t / 256) = t / 256 by rw [if_neg (by omega)])
    go_enter Tryd.func111, Tryd.ntmps111
    rw [H.out]
    go_wp2
    go_ret
    exact ⟨rfl, rfl⟩
  · have H := Lib.hid (show (if t ≤ 255 then t else t / 256) = t by rw [if_pos (by omega)])
    go_enter Tryd.func111, Tryd.ntmps111
    rw [H.out]
    go_wp2
    go_ret
    exact ⟨rfl, rfl⟩

set_option maxRecDepth 100000 in
set_option maxHeartbeats 1600000 in
theorem rcons_any (t : Int) (w : World) : Calls Tryd.prog 96 #[.int .i64 t] w fun e w' => e = .returned (.bool (consB t)) ∧ w = w' := by
  have hv := rvalid_any t w
  by_cases hb : validB t = true
  · rw [hb] at hv
    have HV := Lib.hid hv
    obtain ⟨r1, r2⟩ := validB_range hb
    have hf := rfirst_any t w (by omega) r2
    obtain ⟨F, hF⟩ : ∃ F, F = (if t ≤ 255 then t else t / 256) := ⟨_, rfl⟩
    have HC := Lib.hid (show consB t = (F / 32 % 2 == 1) by
      unfold consB
      rw [hb, Bool.true_and, hF]
      split <;> rfl)
    have hF0 : 0 ≤ F := by rw [hF]; split <;> omega
    have hF1 : F ≤ 65535 := by rw [hF]; split <;> omega
    rw [← hF] at hf
    have HF := Lib.hid hf
    clear hb hv hf hF
    go_enter Tryd.func96, Tryd.ntmps96
    go_wp2_with (first
      | (go_at_call 110; refine HV.out.mono ?_; rintro e w' ⟨rfl, rfl⟩)
      | (go_at_call 111; refine HF.out.mono ?_; rintro e w' ⟨rfl, rfl⟩))
    go_ret
    exact ⟨ret_bool (by rw [HC.out]), rfl⟩
  · have hb' : validB t = false := by simpa using hb
    rw [hb'] at hv
    have HV := Lib.hid hv
    have HC := Lib.hid (show consB t = false by unfold consB; rw [hb', Bool.false_and])
    clear hb hb' hv
    go_enter Tryd.func96, Tryd.ntmps96
    go_wp2_with (go_at_call 110; refine HV.out.mono ?_; rintro e w' ⟨rfl, rfl⟩)
    go_ret
    exact ⟨ret_bool HC.out.symm, rfl⟩

inductive T where
  | mk (tag : Int) (val : List UInt8) (kids : List T)
def T.tag : T → Int | .mk t _ _ => t
def T.val : T → List UInt8 | .mk _ v _ => v
def T.kids : T → List T | .mk _ _ k => k
def T.zero : T := .mk 0 [] []

mutual
/-- The object t lies at three cells from ⟨b, o⟩ on; all of it below block B. -/
def TAt (w : World) (B b o : Nat) : T → Prop
  | .mk tag val kids => w.cell? ⟨b, o, none⟩ = some (.int .i64 tag) ∧ (∃ v, w.cell? ⟨b, o + 1, none⟩ = some v ∧ SL w B v val) ∧
      ∃ A c, w.cell? ⟨b, o + 2, none⟩ = some (.slice A kids.length c) ∧ kids.length ≤ c ∧ c ≤ maxLen ∧ (0 < kids.length → ∃ b' o', A = some ⟨b', o', none⟩ ∧ b' < B ∧ TsAt w B b' o' kids)
def TsAt (w : World) (B b o : Nat) : List T → Prop
  | [] => True
  | t :: ts => TAt w B b o t ∧ TsAt w B b (o + 3) ts
end
/-- v is a slice of data objects that reads as ts. -/
def TL (w : World) (B : Nat) (v : Value) (ts : List T) : Prop :=
  ∃ A c, v = .slice A ts.length c ∧ ts.length ≤ c ∧ c ≤ maxLen ∧ Hid (0 < ts.length → ∃ b o, A = some ⟨b, o, none⟩ ∧ b < B ∧ TsAt w B b o ts)

theorem TAt.parts {w : World} {B b o : Nat} {t : T} (h : TAt w B b o t) : w.cell? ⟨b, o, none⟩ = some (.int .i64 t.tag) ∧ (∃ v, w.cell? ⟨b, o + 1, none⟩ = some v ∧ SL w B v t.val) ∧
    ∃ u, w.cell? ⟨b, o + 2, none⟩ = some u ∧ TL w B u t.kids := by
  cases t with
  | mk tag val kids =>
    unfold TAt at h
    obtain ⟨h1, h2, A, c, h3, h4, h5, h6⟩ := h
    exact ⟨h1, h2, _, h3, A, c, rfl, h4, h5, h6⟩
theorem TAt.cells {w : World} {B b o : Nat} {t : T} (h : TAt w B b o t) : ∃ A1 c1 A2 c2, w.cell? ⟨b, o, none⟩ = some (.int .i64 t.tag) ∧ w.cell? ⟨b, o + 1, none⟩ = some (.slice A1 t.val.length c1) ∧
    w.cell? ⟨b, o + 2, none⟩ = some (.slice A2 t.kids.length c2) ∧ SL w B (.slice A1 t.val.length c1) t.val ∧ TL w B (.slice A2 t.kids.length c2) t.kids := by
  obtain ⟨h1, ⟨v, h2, h3⟩, u, h4, h5⟩ := h.parts
  have h3' := h3
  have h5' := h5
  obtain ⟨A1, c1, rfl, _⟩ := h3'
  obtain ⟨A2, c2, rfl, _⟩ := h5'
  exact ⟨A1, c1, A2, c2, h1, h2, h4, h3, h5⟩
theorem TAt.make {w : World} {B b o : Nat} {t : T} (h1 : w.cell? ⟨b, o, none⟩ = some (.int .i64 t.tag)) (h2 : ∃ v, w.cell? ⟨b, o + 1, none⟩ = some v ∧ SL w B v t.val)
    (h3 : ∃ u, w.cell? ⟨b, o + 2, none⟩ = some u ∧ TL w B u t.kids) : TAt w B b o t := by
  cases t with
  | mk tag val kids =>
    unfold TAt
    obtain ⟨u, h3, A, c, rfl, h4, h5, h6⟩ := h3
    exact ⟨h1, h2, A, c, h3, h4, h5, h6⟩
theorem TsAt.get {w : World} {B b : Nat} : ∀ {ts : List T} {o k : Nat}, TsAt w B b o ts → (h : k < ts.length) → TAt w B b (o + k * 3) ts[k]
  | t :: ts, o, 0, h, _ => by unfold TsAt at h; exact h.1
  | t :: ts, o, k + 1, h, hk => by
    unfold TsAt at h
    have := TsAt.get (k := k) h.2 (by simpa using hk)
    rw [show o + (k + 1) * 3 = o + 3 + k * 3 by omega]
    exact this

mutual
theorem TAt.keep {w w' : World} {B B' : Nat} (hB : B ≤ B') (hk : ∀ p : Addr, p.block < B → w'.cell? p = w.cell? p) : ∀ (t : T) (b o : Nat), b < B → TAt w B b o t → TAt w' B' b o t
  | .mk tag val kids, b, o, hb, h => by
    unfold TAt at h ⊢
    obtain ⟨h1, ⟨v, h2, h2'⟩, A, c, h3, h4, h5, h6⟩ := h
    refine ⟨(hk ⟨b, o, none⟩ hb).trans h1, ⟨v, (hk ⟨b, o + 1, none⟩ hb).trans h2, (h2'.keep hk).more hB⟩, A, c, (hk ⟨b, o + 2, none⟩ hb).trans h3, h4, h5, fun hp => ?_⟩
    obtain ⟨b', o', hA, hb', hts⟩ := h6 hp
    exact ⟨b', o', hA, by omega, TsAt.keep hB hk kids b' o' hb' hts⟩
theorem TsAt.keep {w w' : World} {B B' : Nat} (hB : B ≤ B') (hk : ∀ p : Addr, p.block < B → w'.cell? p = w.cell? p) : ∀ (ts : List T) (b o : Nat), b < B → TsAt w B b o ts → TsAt w' B' b o ts
  | [], _, _, _, _ => by unfold TsAt; trivial
  | t :: ts, b, o, hb, h => by
    unfold TsAt at h ⊢
    exact ⟨TAt.keep hB hk t b o hb h.1, TsAt.keep hB hk ts b (o + 3) hb h.2⟩
end
theorem TL.keep {w w' : World} {B B' : Nat} {v : Value} {ts : List T} (h : TL w B v ts) (hB : B ≤ B') (hk : ∀ p : Addr, p.block < B → w'.cell? p = w.cell? p) : TL w' B' v ts := by
  obtain ⟨A, c, hv, h1, h2, h3⟩ := h
  refine ⟨A, c, hv, h1, h2, fun hp => ?_⟩
  obtain ⟨b, o, hA, hb, hts⟩ := h3.out hp
  exact ⟨b, o, hA, by omega, TsAt.keep hB hk ts b o hb hts⟩
theorem TL.below {w w' : World} {B : Nat} {v : Value} {ts : List T} (h : TL w B v ts) (hb : Below B w w') : TL w' B v ts := h.keep (Nat.le_refl _) fun _ hp => hb.cell hp
theorem TL.on {w w' : World} {v : Value} {ts : List T} (h : TL w w.heap.size v ts) (hb : Below w.heap.size w w') : TL w' w'.heap.size v ts := h.keep hb.size fun _ hp => hb.cell hp

mutual
def T.dep : T → Nat | .mk _ _ kids => depL kids + 1
def depL : List T → Nat | [] => 0 | t :: ts => max t.dep (depL ts)
end
theorem dep_kidsT (t : T) : depL t.kids + 1 = t.dep := by cases t; simp [T.kids, T.dep]
theorem depL_get : ∀ (ts : List T) (k : Nat) (h : k < ts.length), (ts[k]).dep ≤ depL ts
  | t :: ts, 0, _ => by simp [depL]; omega
  | t :: ts, k + 1, h => by
    have := depL_get ts k (by simpa using h)
    simp [depL]
    omega

/-- The bytes of a tag, and of a length. -/
def tagF (t : Int) : List UInt8 := if 255 < t then putL t.toNat 2 else putL t.toNat 1
def lenF (n : Nat) : List UInt8 := if n < 128 then [UInt8.ofNat n] else if n ≤ 255 then [129, UInt8.ofNat n] else [130, UInt8.ofNat (n / 256), UInt8.ofNat n]

def objOk (t : T) : Bool := if consB t.tag then decide (t.val.length = 0) else validB t.tag && decide (t.kids.length = 0)
mutual
def T.ok (d : Int) : T → Bool | .mk tag val kids => decide (d ≤ 8) && objOk (.mk tag val kids) && okL (d + 1) kids
def okL (d : Int) : List T → Bool | [] => true | t :: ts => t.ok d && okL d ts
end
theorem ok_partsT (d : Int) (t : T) : t.ok d = (decide (d ≤ 8) && objOk t && okL (d + 1) t.kids) := by cases t; simp [T.ok, T.kids]
mutual
def T.enc : T → List UInt8 | .mk tag val kids => tagF tag ++ (lenF (val ++ encL kids).length ++ (val ++ encL kids))
def encL : List T → List UInt8 | [] => [] | t :: ts => t.enc ++ encL ts
end
theorem enc_parts (t : T) : t.enc = tagF t.tag ++ (lenF (t.val ++ encL t.kids).length ++ (t.val ++ encL t.kids)) := by cases t; simp [T.enc, T.tag, T.val, T.kids]
theorem encL_take (ts : List T) (k : Nat) (h : k < ts.length) : encL (ts.take (k + 1)) = encL (ts.take k) ++ (ts[k]).enc := by
  induction ts generalizing k with
  | nil => simp at h
  | cons t ts ih =>
    cases k with
    | zero => simp [encL]
    | succ k =>
      have := ih k (by simpa using h)
      simp [encL] at this ⊢
      rw [this]
theorem okL_get (d : Int) : ∀ (ts : List T) (k : Nat) (h : k < ts.length), okL d ts = true → (ts[k]).ok d = true
  | t :: ts, 0, _, h => by simp [okL] at h; exact h.1
  | t :: ts, k + 1, hk, h => by
    simp [okL] at h
    exact okL_get d ts k (by simpa using hk) h.2
theorem okL_drop (d : Int) (ts : List T) (k : Nat) (h : k < ts.length) : okL d (ts.drop k) = ((ts[k]).ok d && okL d (ts.drop (k + 1))) := by
  rw [List.drop_eq_getElem_cons h, okL]

theorem clone_any (l : List UInt8) (v : Value) (w : World) (hl : SL w w.heap.size v l) (hs : l.length ≤ 100000000) :
    Calls Tryd.prog 118 #[v] w fun e w' => ∃ v', e = .returned v' ∧ SL w' w'.heap.size v' l ∧ Below w.heap.size w w' := by
  obtain ⟨A1, c1, rfl, h11, h12, h13⟩ := hl
  rcases A1 with _ | a
  · have h0 : l = [] := by
      rcases Nat.eq_zero_or_pos l.length with h | h
      · exact List.eq_nil_of_length_eq_zero h
      · obtain ⟨b, o, hA, _⟩ := h13 h
        cases hA
    subst h0
    exact (Tryd.bytes_Clone_nil 0 c1 w).mono fun e w' ⟨he, hw⟩ => ⟨_, he, SL.nil _ _ _ _ (Nat.zero_le _), by rw [hw]; exact Below.refl _ _⟩
  · refine (Tryd.bytes_Clone_at a l.length c1 (l.map fun x => (x.toNat : Int)) w (by simp) (by omega) (fun i hi => ?_)).mono fun e w' ⟨v', he, ho, _, hb⟩ => ⟨v', he, ?_, hb⟩
    · obtain ⟨b, o, hA, _, hc⟩ := h13 (by omega)
      simp only [Option.some.injEq] at hA
      subst hA
      rw [addr_add, hc i hi, map_nat_getD]
    · have e2 : (l.map fun x => (x.toNat : Int)).map (Value.int .u8) = l.map bv := by rw [List.map_map]; rfl
      rw [e2] at ho
      exact OB.sl (base := w.heap.size) ho


/-- v is a slice of byte slices that reads as ls; all of it lies below block B. -/
def LL (w : World) (B : Nat) (v : Value) (ls : List (List UInt8)) : Prop :=
  ∃ (A : Option Addr) (c : Nat) (vs : List Value), v = .slice A ls.length c ∧ ls.length ≤ c ∧ c ≤ maxLen ∧ vs.length = ls.length ∧
    Hid (0 < ls.length → ∃ b o, A = some ⟨b, o, none⟩ ∧ b < B ∧ ∀ k, k < ls.length → w.cell? ⟨b, o + k, none⟩ = some (vs.getD k (.slice none 0 0))) ∧
    Hid (∀ k, k < ls.length → SL w B (vs.getD k (.slice none 0 0)) (ls.getD k []))

/-- v is a slice of byte slices, it and they made by the call, in blocks from base on. -/
def OL (w : World) (base : Nat) (v : Value) (ls : List (List UInt8)) : Prop :=
  ∃ vs : List Value, w.ownsRow base 42 1 v ls.length vs ∧ (∀ u ∈ vs, u.oneCell' = true) ∧ ∀ k, k < ls.length → OB w base (vs.getD k (.slice none 0 0)) (ls.getD k [])

theorem info22 : (Tryd.prog.info? 42).map (fun i => (i.zero, i.size, i.bytes)) = some (some (.slice none 0 0), 1, 24) := by kernel_rfl

theorem OL.nil (w : World) (base : Nat) : OL w base (.slice none 0 0) [] := ⟨[], World.ownsRow_nil .., by simp, fun k hk => absurd hk (by simp)⟩

/-- An own row of byte slices in its block; a byte row never lies there. -/
theorem OB.ne_block {w : World} {base base' n : Nat} {v u : Value} {l : List UInt8} {vs : List Value} (h : OB w base v l) (h' : w.ownsRow base' 42 1 u n vs) : v.ownBlock = none ∨ v.ownBlock ≠ u.ownBlock := by
  rcases h.2 with ⟨rfl, _⟩ | ⟨g, cap, cur, rfl, _, hg, _⟩
  · exact .inl rfl
  · refine .inr fun e => ?_
    rcases h'.2 with ⟨rfl, _⟩ | ⟨g', cap', cur', rfl, _, hg', _⟩
    · cases e
    · simp only [Value.ownBlock, Option.some.injEq] at e
      subst e
      rw [hg] at hg'
      injection hg' with hg'
      injection hg' with _ ht
      exact absurd ht (by decide)

theorem OL.later {w W : World} {base : Nat} {v : Value} {ls : List (List UInt8)} (h : OL w base v ls) (hb : Below w.heap.size w W) : OL W base v ls := by
  obtain ⟨vs, h1, h2, h3⟩ := h
  refine ⟨vs, ?_, h2, fun k hk => (h3 k hk).later hb⟩
  exact h1.kept (row := none) ⟨hb.os, hb.tape, hb.output, hb.size, fun k hk _ => hb.block k hk⟩ (by
    cases hv : v.ownBlock with
    | none => exact .inl rfl
    | some k => exact .inr (by simp))

theorem OL.ll {w : World} {base : Nat} {v : Value} {ls : List (List UInt8)} (h : OL w base v ls) : LL w w.heap.size v ls := by
  obtain ⟨vs, h1, h2, h3⟩ := h
  have hlen : vs.length = ls.length := by have := h1.1; omega
  rcases h1.2 with ⟨rfl, h0⟩ | ⟨g, cap, cur, rfl, hb, hg, hn, hm, hs, ht⟩
  · exact ⟨none, 0, vs, by rw [h0], by omega, Nat.zero_le _, hlen, fun hp => absurd hp (by omega), fun k hk => (h3 k hk).sl⟩
  · refine ⟨some ⟨g, 0, none⟩, cap, vs, rfl, hn, hm, hlen, fun _ => ⟨g, 0, rfl, ?_, fun k hk => ?_⟩, fun k hk => (h3 k hk).sl⟩
    · rcases Nat.lt_or_ge g w.heap.size with hlt | hge
      · exact hlt
      · rw [Array.getElem?_eq_none hge] at hg; cases hg
    · have := World.ownsRow.cellAt (w := w) (base := base) (e := 42) (size := 1) (g := g) (n := ls.length) (cap := cap) (xs := vs) h1 (0 + k) (by omega)
      rw [this, Nat.zero_add, List.getD, List.getElem?_eq_getElem (by omega)]
      rfl

theorem OL.value {w : World} {base : Nat} {v : Value} {ls : List (List UInt8)} (h : OL w base v ls) : ∃ A c, v = .slice A ls.length c := by
  obtain ⟨A, c, vs, e, _⟩ := h.ll
  exact ⟨A, c, e⟩

/-- One byte slice of the call's own appended (it has just been laid into a block of its own, number B). -/
theorem wpList_appL {ops : Array Oper} {rest : List Oper} {o : Oper} {a : Act} {W : World} {Q : Exit → Act → World → Prop} (hgd : o.guard = none) (s x : Operand)
    (ho : o.op = .call { callee := .builtin .append, args := #[s, x], argTypes := #[112, 112] }) (w : World) (base : Nat) (v u : Value) (ls : List (List UInt8)) (l : List UInt8) (B : Nat)
    (hs : a.eval s = v) (hx : a.eval x = .slice (some ⟨B, 0, none⟩) 1 1) (hW : Below w.heap.size w W) (hown : OL w base v ls) (hu : OB w base u l) (hB : W.heap[B]? = some (.cells #[u] 42 (0, 0)))
    (hlen : ls.length ≤ 1000000) (hbase : base ≤ w.heap.size)
    (h : ∀ v' w', OL w' base v' (ls ++ [l]) → Below base w w' → wpList Tryd.prog ops Q rest (a.put o.dst v') w') : wpList Tryd.prog ops Q (o :: rest) a W := by
  obtain ⟨i0, hi0, hz0, hz1, hz2⟩ := info_parts info22
  obtain ⟨vs, h1, h2, h3⟩ := hown.later hW
  have hu' := hu.later hW
  have hsz := hW.size
  have hlen' : vs.length = ls.length := by have := h1.1; omega
  have hone : u.oneCell' = true := by
    obtain ⟨A, c, rfl⟩ := hu.value
    rfl
  refine wpList_append_lies W hgd s x 112 ho base 42 i0 (.slice none 0 0) 1 24 Tryd.underlying112 hi0 hz0 hz1 hz2 rfl (by omega) v ls.length vs hs h1 ⟨B, 0, none⟩ 1 1 [u] hx rfl
    (World.news_of_block (cs := #[u]) hB) (by intro y hy; simp at hy; subst hy; exact hone) (by omega) (by simp only [maxLen]; omega) (by omega) (by omega) W.heap.size rfl fun g cap w' k1 k2 k3 k4 => ?_
  have hl : (ls ++ [l]).length = ls.length + 1 := by simp
  refine h _ w' ⟨vs ++ [u], by rw [hl]; exact k1, ?_, fun k hk => ?_⟩ ((hW.mono hbase).grown k2 (by omega) (fun k hk => (h1.lt k hk).1))
  · intro y hy
    rcases List.mem_append.1 hy with hy | hy
    · exact h2 y hy
    · simp at hy; subst hy; exact hone
  · have hkept : ∀ {y : Value} {m : List UInt8}, OB W base y m → OB w' base y m := fun {y m} hy => World.ownsRow.kept hy k2 (OB.ne_block hy h1)
    by_cases e : k < ls.length
    · have e1 : (vs ++ [u]).getD k (.slice none 0 0) = vs.getD k (.slice none 0 0) := by simp [List.getD, List.getElem?_append, hlen', e]
      have e2 : (ls ++ [l]).getD k [] = ls.getD k [] := by simp [List.getD, List.getElem?_append, e]
      rw [e1, e2]
      exact hkept (h3 k e)
    · have ek : k = ls.length := by omega
      subst ek
      have e1 : (vs ++ [u]).getD ls.length (.slice none 0 0) = u := by simp [List.getD, ← hlen']
      have e2 : (ls ++ [l]).getD ls.length [] = l := by simp [List.getD]
      rw [e1, e2]
      exact hkept hu'

theorem clone_own (l : List UInt8) (v : Value) (w : World) (hl : SL w w.heap.size v l) (hs : l.length ≤ 100000000) :
    Calls Tryd.prog 118 #[v] w fun e w' => ∃ v', e = .returned v' ∧ OB w' w.heap.size v' l ∧ Below w.heap.size w w' := by
  obtain ⟨A1, c1, rfl, h11, h12, h13⟩ := hl
  rcases A1 with _ | a
  · have h0 : l = [] := by
      rcases Nat.eq_zero_or_pos l.length with h | h
      · exact List.eq_nil_of_length_eq_zero h
      · obtain ⟨b, o, hA, _⟩ := h13 h
        cases hA
    subst h0
    exact (Tryd.bytes_Clone_nil 0 c1 w).mono fun e w' ⟨he, hw⟩ => ⟨_, he, OB.nil _ _, by rw [hw]; exact Below.refl _ _⟩
  · refine (Tryd.bytes_Clone_at a l.length c1 (l.map fun x => (x.toNat : Int)) w (by simp) (by omega) (fun i hi => ?_)).mono fun e w' ⟨v', he, ho, _, hb⟩ => ⟨v', he, ?_, hb⟩
    · obtain ⟨b, o, hA, _, hc⟩ := h13 (by omega)
      simp only [Option.some.injEq] at hA
      subst hA
      rw [addr_add, hc i hi, map_nat_getD]
    · have e2 : (l.map fun x => (x.toNat : Int)).map (Value.int .u8) = l.map bv := by rw [List.map_map]; rfl
      rw [e2] at ho
      exact ho


theorem pow_256 (k : Nat) : (2 : Nat) ^ (8 * k) = 256 ^ k := by rw [Nat.pow_mul]
theorem shr_byte (N k : Nat) : (N : Int) / 2 ^ (8 * k) % 256 = ((UInt8.ofNat (N / 256 ^ k)).toNat : Int) := by
  have e2 : (2 : Int) ^ (8 * k) = ((256 ^ k : Nat) : Int) := by rw [← pow_256]; simp
  rw [e2]
  simp
/-- One round of Put. -/
theorem put_round {w : World} {base g k j : Nat} (N : Nat) (z : Int) (hz : z = ((UInt8.ofNat (N / 256 ^ j)).toNat : Int)) (h : OB w base (.slice (some ⟨g, 0, none⟩) k k) (List.replicate (k - j) 0 ++ putL N j)) (hj : j < k) :
    OB (w.setCell ⟨g, k - 1 - j, none⟩ (.int .u8 z)) base (.slice (some ⟨g, 0, none⟩) k k) (List.replicate (k - (j + 1)) 0 ++ putL N (j + 1)) := by
  have h1 := h.stored (k - 1 - j) (UInt8.ofNat (N / 256 ^ j)) z hz
  have h2 := replicate_set (k - j) (putL N j) (UInt8.ofNat (N / 256 ^ j)) (by omega)
  rw [show k - j - 1 = k - 1 - j from by omega] at h2
  rw [h2] at h1
  rw [show k - (j + 1) = k - 1 - j from by omega]
  exact h1

set_option maxRecDepth 100000 in
theorem pput_arg (n k : Int) (w : World) (h : k < 1 ∨ 8 < k) : Calls Tryd.prog 108 #[.int .i64 n, .int .i64 k] w fun e w' => e = .returned (.tuple #[.slice none 0 0, .int .i64 1]) ∧ w = w' := by
  rcases h with h | h
  · go_enter Tryd.func108, Tryd.ntmps108
    go_wp2
    go_ret2
    exact ⟨rfl, rfl⟩
  · have h' : ¬ k < 1 := by omega
    go_enter Tryd.func108, Tryd.ntmps108
    go_wp2
    go_ret2
    exact ⟨rfl, rfl⟩

set_option maxRecDepth 100000 in
theorem pput_neg (n k : Int) (w : World) (h : 1 ≤ k) (h' : k ≤ 8) (hn : n < 0) : Calls Tryd.prog 108 #[.int .i64 n, .int .i64 k] w fun e w' => e = .returned (.tuple #[.slice none 0 0, .int .i64 2]) ∧ w = w' := by
  go_enter Tryd.func108, Tryd.ntmps108
  go_wp2
  go_ret2
  exact ⟨rfl, rfl⟩

theorem shr_zero (N k : Nat) : ((N : Int) / 2 ^ (8 * k) != 0) = decide (256 ^ k ≤ N) := by
  have e2 : (2 : Int) ^ (8 * k) = ((256 ^ k : Nat) : Int) := by rw [← pow_256]; simp
  have hp : 0 < 256 ^ k := Nat.pow_pos (by omega)
  rw [e2, Bool.eq_iff_iff, bne_iff_ne, decide_eq_true_iff, ← Int.natCast_ediv]
  generalize 256 ^ k = m at hp
  constructor
  · intro h
    rcases Nat.lt_or_ge N m with hlt | hge
    · exact absurd (by rw [Nat.div_eq_of_lt hlt]; rfl) h
    · exact hge
  · intro h e
    have : 0 < N / m := Nat.div_pos h hp
    omega

set_option maxRecDepth 100000 in
set_option maxHeartbeats 800000 in
theorem pput_range (N k : Nat) (w : World) (h : 1 ≤ k) (h' : k ≤ 8) (h63 : N ≤ 9223372036854775807) (hn : 256 ^ k ≤ N) : Calls Tryd.prog 108 #[.int .i64 N, .int .i64 k] w fun e w' => e = .returned (.tuple #[.slice none 0 0, .int .i64 2]) ∧ w = w' := by
  have hz := shr_zero N k
  rw [decide_eq_true hn] at hz
  clear hn
  go_enter Tryd.func108, Tryd.ntmps108
  go_wp2
  go_ret2
  exact ⟨rfl, rfl⟩

set_option maxRecDepth 100000 in
set_option maxHeartbeats 800000 in
theorem pput_ok (N k : Nat) (w : World) (h : 1 ≤ k) (h' : k ≤ 8) (h63 : N ≤ 9223372036854775807) (hn : N < 256 ^ k) :
    Calls Tryd.prog 108 #[.int .i64 N, .int .i64 k] w fun e w' => ∃ v', e = .returned (.tuple #[v', .int .i64 0]) ∧ SL w' w'.heap.size v' (putL N k) ∧ Below w.heap.size w w' := by
  have hz := shr_zero N k
  rw [decide_eq_false (by omega)] at hz
  clear hn
  go_enter Tryd.func108, Tryd.ntmps108
  go_wp2_with (at_make; refine wpList_mk (by rfl) _ _ (by rfl) .i64 .i64 _ _ k (by rfl) (by rfl) (by rfl) (by rfl) (by omega) ?_; intro w1 hown1 hb1')
  go_loopw [28] (fun i wr => ∃ j : Nat, j ≤ k ∧ i = .int .i64 j ∧ OB wr w.heap.size (.slice (some ⟨w.heap.size, 0, none⟩) k k) (List.replicate (k - j) 0 ++ putL N j) ∧ Below w.heap.size w wr) (fun i _ => k - (intOf i).toNat)
  case atStart => exact ⟨0, Nat.zero_le _, rfl, by simpa [putL] using hown1, hb1'⟩
  case round =>
    obtain ⟨j, hj, rfl, hown, hbel⟩ := hrel
    by_cases h1 : j < k
    · have g3 := hown.cellAt (k - 1 - j) (by simp [putL_length]; omega)
      have g4 := hown.frozenAt (k - 1 - j)
      go_wp2
      go_roundw
      case rel => exact ⟨j + 1, by omega, by go_num, put_round N _ (shr_byte N j) hown h1, hbel.setCell (p := ⟨w.heap.size, k - 1 - j, none⟩) (Nat.le_refl _) _⟩
      case measure => simp [intOf]; omega
    · have hjk : j = k := by omega
      subst hjk
      go_wp2
      go_ret2
      exact ⟨_, rfl, by simpa using hown.sl, hbel⟩

theorem low_byte (N k : Nat) : ((N / 256 ^ k : Nat) : Int) % 256 = ((UInt8.ofNat (N / 256 ^ k)).toNat : Int) := by simp


/-- A literal of bytes in a new block. -/
theorem SL.lit (w : World) (l : List UInt8) (h : l.length ≤ 1000) : SL (w.alloc (.cells (l.map bv).toArray 5)) (w.heap.size + 1) (.slice (some ⟨w.heap.size, 0, none⟩) l.length l.length) l :=
  ⟨_, _, rfl, Nat.le_refl _, by simp only [maxLen]; omega, fun _ => ⟨w.heap.size, 0, rfl, Nat.lt_succ_self _, fun k hk => by
    rw [cell_of_row _ w.heap.size _ _ 5 (0, 0) (heap_alloc_new w _), Nat.zero_add, List.getElem?_toArray, map_bv_get l k hk]⟩⟩

theorem SL.lit' (w : World) (l : List UInt8) (h : l.length ≤ 1000) : SL (w.alloc (.cells (l.map bv).toArray 5)) (w.alloc (.cells (l.map bv).toArray 5)).heap.size (.slice (some ⟨w.heap.size, 0, none⟩) l.length l.length) l := by
  rw [alloc_size]; exact SL.lit w l h
theorem ex_put1 (w : World) : Calls Tryd.prog 108 #[.int .i64 258, .int .i64 3] w fun e w' => ∃ v', e = .returned (.tuple #[v', .int .i64 0]) ∧ SL w' w'.heap.size v' [0, 1, 2] ∧ Below w.heap.size w w' :=
  pput_ok 258 3 w (by decide) (by decide) (by decide) (by decide)
theorem ex_put2 (w : World) : Calls Tryd.prog 108 #[.int .i64 256, .int .i64 1] w fun e w' => e = .returned (.tuple #[.slice none 0 0, .int .i64 2]) ∧ w = w' :=
  pput_range 256 1 w (by decide) (by decide) (by decide) (by decide)

theorem SL.new (w : World) (cs : Array Value) (l : List UInt8) (hcs : cs = (l.map bv).toArray) (h : l.length ≤ 1000) :
    SL (w.alloc (.cells cs 5)) (w.alloc (.cells cs 5)).heap.size (.slice (some ⟨w.heap.size, 0, none⟩) l.length l.length) l := by
  subst hcs; exact SL.lit' w l h

set_option maxRecDepth 100000 in
theorem tagF_any (t : Int) (w : World) (h1 : 1 ≤ t) (h2 : t ≤ 65535) :
    Calls Tryd.prog 92 #[.int .i64 t] w fun e w' => ∃ v', e = .returned v' ∧ SL w' w'.heap.size v' (tagF t) ∧ Below w.heap.size w w' := by
  obtain ⟨N, rfl⟩ := Int.eq_ofNat_of_zero_le (show 0 ≤ t by omega)
  by_cases h : 255 < (N : Int)
  · have HT := Lib.hid (show tagF (N : Int) = putL N 2 by unfold tagF; rw [if_pos h, Int.toNat_natCast])
    have HC := Lib.hid (pput_ok N 2 w (by omega) (by omega) (by omega) (by omega))
    go_enter Tryd.func92, Tryd.ntmps92
    go_wp2_with (go_at_call 108; refine HC.out.mono ?_; rintro e w' ⟨v', rfl, hv', hb'⟩)
    go_ret
    exact ⟨v', rfl, by rw [HT.out]; exact hv', hb'⟩
  · have HT := Lib.hid (show tagF (N : Int) = putL N 1 by unfold tagF; rw [if_neg h, Int.toNat_natCast])
    have HC := Lib.hid (pput_ok N 1 w (by omega) (by omega) (by omega) (by omega))
    have h' : (N : Int) ≤ 255 := by omega
    clear h
    go_enter Tryd.func92, Tryd.ntmps92
    go_wp2_with (go_at_call 108; refine HC.out.mono ?_; rintro e w' ⟨v', rfl, hv', hb'⟩)
    go_ret
    exact ⟨v', rfl, by rw [HT.out]; exact hv', hb'⟩

theorem bv_ofNat (n : Nat) (z : Int) (h : z = ((n % 256 : Nat) : Int)) : Value.int .u8 z = bv (UInt8.ofNat n) := by
  subst h; simp [bv]
set_option maxRecDepth 100000 in
theorem lenF_any (n : Nat) (w : World) (h1 : n ≤ 10000000) :
    Calls Tryd.prog 93 #[.int .i64 n] w fun e w' => ∃ v', e = .returned v' ∧ SL w' w'.heap.size v' (lenF n) ∧ Below w.heap.size w w' := by
  by_cases h : n < 128
  · have HT := Lib.hid (show lenF n = [UInt8.ofNat n] by unfold lenF; rw [if_pos h])
    go_enter Tryd.func93, Tryd.ntmps93
    go_wp2
    go_ret
    refine ⟨_, rfl, ?_, alloc_below _ _⟩
    rw [HT.out]
    exact SL.new w _ [UInt8.ofNat n] (by simp [bv]; omega) (by simp)
  · by_cases h' : n ≤ 255
    · have HT := Lib.hid (show lenF n = [129, UInt8.ofNat n] by unfold lenF; rw [if_neg h, if_pos h'])
      go_enter Tryd.func93, Tryd.ntmps93
      go_wp2
      go_ret
      refine ⟨_, rfl, ?_, alloc_below _ _⟩
      rw [HT.out]
      exact SL.new w _ [129, UInt8.ofNat n] (by simp [bv]; omega) (by simp)
    · have HT := Lib.hid (show lenF n = [130, UInt8.ofNat (n / 256), UInt8.ofNat n] by unfold lenF; rw [if_neg h, if_neg h'])
      go_enter Tryd.func93, Tryd.ntmps93
      go_wp2
      go_ret
      refine ⟨_, rfl, ?_, alloc_below _ _⟩
      rw [HT.out]
      exact SL.new w _ [130, UInt8.ofNat (n / 256), UInt8.ofNat n] (by simp [bv]) (by simp)

set_option maxRecDepth 100000 in
set_option maxHeartbeats 1600000 in
theorem objOk_any (t : T) (v u : Value) (w : World) (hv : SL w w.heap.size v t.val) (hu : TL w w.heap.size u t.kids) :
    Calls Tryd.prog 91 #[.agg #[.int .i64 t.tag, v, u]] w fun e w' => e = .returned (.bool (objOk t)) ∧ Below w.heap.size w w' := by
  obtain ⟨A1, c1, rfl, _, _, _⟩ := hv
  obtain ⟨A2, c2, rfl, _, _, _⟩ := hu
  obtain ⟨tag, htag⟩ : ∃ x, x = t.tag := ⟨_, rfl⟩
  rw [← htag]
  have hc := fun W => pcons_any tag W
  have hv := fun W => pvalid_any tag W
  have hb : objOk t = if consB tag then decide (t.val.length = 0) else validB tag && decide (t.kids.length = 0) := by unfold objOk; rw [htag]
  obtain ⟨n1, hn1⟩ : ∃ x, x = t.val.length := ⟨_, rfl⟩
  obtain ⟨n2, hn2⟩ : ∃ x, x = t.kids.length := ⟨_, rfl⟩
  rw [← hn1, ← hn2] at hb ⊢
  have HB := Lib.hid hb
  clear hb htag hn1 hn2
  by_cases h1 : consB tag = true
  · rw [h1] at hc
    have HC := Lib.hid hc
    have HR := Lib.hid (show objOk t = decide (n1 = 0) by rw [HB.out, if_pos h1])
    clear hc hv h1
    go_enter Tryd.func91, Tryd.ntmps91
    go_wp2_with (go_at_call 106; refine (HC.out _).mono ?_; rintro e w' ⟨rfl, rfl⟩)
    go_ret
    exact ⟨ret_bool (by rw [HR.out]; exact natb n1), alloc_below _ _⟩
  · have h1' : consB tag = false := by simpa using h1
    rw [h1'] at hc
    have HC := Lib.hid hc
    have HR := Lib.hid (show objOk t = (validB tag && decide (n2 = 0)) by rw [HB.out, if_neg h1])
    by_cases h2 : validB tag = true
    · rw [h2] at hv
      have HV := Lib.hid hv
      have HR2 := Lib.hid (show objOk t = decide (n2 = 0) by rw [HR.out, h2, Bool.true_and])
      clear hc hv h1 h1' h2
      go_enter Tryd.func91, Tryd.ntmps91
      go_wp2_with (first
        | (go_at_call 106; refine (HC.out _).mono ?_; rintro e w' ⟨rfl, rfl⟩)
        | (go_at_call 107; refine (HV.out _).mono ?_; rintro e w' ⟨rfl, rfl⟩))
      go_ret
      exact ⟨ret_bool (by rw [HR2.out]; exact natb n2), alloc_below _ _⟩
    · have h2' : validB tag = false := by simpa using h2
      rw [h2'] at hv
      have HV := Lib.hid hv
      have HR2 := Lib.hid (show objOk t = false by rw [HR.out, h2', Bool.false_and])
      clear hc hv h1 h1' h2 h2'
      go_enter Tryd.func91, Tryd.ntmps91
      go_wp2_with (first
        | (go_at_call 106; refine (HC.out _).mono ?_; rintro e w' ⟨rfl, rfl⟩)
        | (go_at_call 107; refine (HV.out _).mono ?_; rintro e w' ⟨rfl, rfl⟩))
      go_ret
      exact ⟨ret_bool (by rw [HR2.out]), alloc_below _ _⟩

set_option maxRecDepth 100000 in
set_option maxHeartbeats 3200000 in
theorem okL_step (ts : List T) (ih : ∀ (ts' : List T) (v : Value) (d : Int) (w : World), depL ts' < depL ts → 1 ≤ d → d ≤ 9 → TL w w.heap.size v ts' →
      Calls Tryd.prog 78 #[v, .int .i64 d] w fun e w' => e = .returned (.bool (okL d ts')) ∧ Below w.heap.size w w')
    (v : Value) (d : Int) (w : World) (hd : 1 ≤ d) (hd2 : d ≤ 9) (hv : TL w w.heap.size v ts) :
    Calls Tryd.prog 78 #[v, .int .i64 d] w fun e w' => e = .returned (.bool (okL d ts)) ∧ Below w.heap.size w w' := by
  have IH := Lib.hid ih
  clear ih
  obtain ⟨A, c, rfl, h1, h2, h3⟩ := hv
  unfold maxLen at h2
  go_enter Tryd.func78, Tryd.ntmps78
  go_wp2_with fail
  go_loopw [9] (fun i wr => ∃ k : Nat, k ≤ ts.length ∧ i = .int .i64 k ∧ Below w.heap.size w wr ∧ Hid (okL d ts = okL d (ts.drop k))) (fun i _ => ts.length - (intOf i).toNat)
  case atStart => exact ⟨0, Nat.zero_le _, rfl, Below.refl _ _, rfl⟩
  case round =>
    obtain ⟨k, hk, rfl, hbel, hok⟩ := hrel
    by_cases hkl : k < ts.length
    · obtain ⟨b, o, rfl, hb, hts⟩ := h3.out (by omega)
      have hta := TsAt.get hts hkl
      have hst := (hok.out.trans (okL_drop d ts k hkl))
      have hdp := depL_get ts k hkl
      obtain ⟨t, ht⟩ : ∃ t, t = ts[k] := ⟨_, rfl⟩
      rw [← ht] at hta hst hdp
      rw [ok_partsT] at hst
      rw [← dep_kidsT] at hdp
      have hta' := TAt.keep hbel.size (fun p hp => hbel.cell hp) t b _ hb hta
      obtain ⟨A1, c1, A2, c2, g1, g2, g3, hv1, hu1⟩ := hta'.cells
      have hsz := hbel.size
      have HST := Lib.hid hst
      have HDP := Lib.hid hdp
      clear hts hta hta' ht hst hdp
      by_cases hd8 : d ≤ 8
      · have hd8b : decide (d ≤ 8) = true := decide_eq_true hd8
        have HST2 : Hid (okL d ts = (objOk t && okL (d + 1) t.kids && okL d (ts.drop (k + 1)))) := by
          have := HST.out
          rw [hd8b, Bool.true_and] at this
          exact this
        clear hd8b
        obtain ⟨X, hX⟩ : ∃ X, X = objOk t := ⟨_, rfl⟩
        have hc := fun W hv hu => objOk_any t (.slice A1 t.val.length c1) (.slice A2 t.kids.length c2) W hv hu
        simp only [← hX] at hc
        have HX := Lib.hid hX
        have HC := Lib.hid hc
        clear hc hX
        have hbn := alloc_below wr (Obj.cells #[Value.int IntKind.i64 t.tag, Value.slice A1 t.val.length c1, Value.slice A2 t.kids.length c2] 70)
        have HVN := Lib.hid (hv1.on hbn)
        have HUN := Lib.hid (hu1.on hbn)
        clear hbn
        cases X with
        | false =>
          go_wp2_with (go_at_call 91; refine (HC.out _ HVN.out HUN.out).mono ?_; rintro e w2 ⟨rfl, hb2⟩)
          go_ret
          exact ⟨ret_bool (by rw [HST2.out, ← HX.out]; rfl), hbel.trans ((after_alloc hb2).mono hsz)⟩
        | true =>
          obtain ⟨Y, hY⟩ : ∃ Y, Y = okL (d + 1) t.kids := ⟨_, rfl⟩
          have hih := fun W hu => IH.out t.kids (.slice A2 t.kids.length c2) (d + 1) W (Nat.lt_of_succ_le HDP.out) (by omega) (by omega) hu
          simp only [← hY] at hih
          have HY := Lib.hid hY
          have HI := Lib.hid hih
          clear hih hY
          cases Y with
          | false =>
            go_wp2_with (first
              | (go_at_call 91; refine (HC.out _ HVN.out HUN.out).mono ?_; rintro e w2 ⟨rfl, hb2⟩; have g4 := new_cell hb2 2 _ rfl; have HU2 := Lib.hid (HUN.out.on hb2))
              | (go_at_call 78; refine (HI.out _ HU2.out).mono ?_; rintro e w3 ⟨rfl, hb3⟩))
            go_ret
            have hw2 := hbel.trans ((after_alloc hb2).mono hsz)
            exact ⟨ret_bool (by rw [HST2.out, ← HX.out, ← HY.out]; rfl), hw2.trans (hb3.mono hw2.size)⟩
          | true =>
            go_wp2_with (first
              | (go_at_call 91; refine (HC.out _ HVN.out HUN.out).mono ?_; rintro e w2 ⟨rfl, hb2⟩; have g4 := new_cell hb2 2 _ rfl; have HU2 := Lib.hid (HUN.out.on hb2))
              | (go_at_call 78; refine (HI.out _ HU2.out).mono ?_; rintro e w3 ⟨rfl, hb3⟩))
            have hw2 := hbel.trans ((after_alloc hb2).mono hsz)
            go_roundw
            case rel => exact ⟨k + 1, by omega, by go_num, hw2.trans (hb3.mono hw2.size), by show _ = _; rw [HST2.out, ← HX.out, ← HY.out]; rfl⟩
            case measure => simp [intOf]; omega
      · have hd8b : decide (d ≤ 8) = false := decide_eq_false hd8
        have HST2 : Hid (okL d ts = false) := by
          have := HST.out
          rw [hd8b, Bool.false_and, Bool.false_and, Bool.false_and] at this
          exact this
        clear hd8b
        go_wp2_with fail
        go_ret
        exact ⟨ret_bool HST2.out.symm, hbel.trans ((alloc_below _ _).mono hsz)⟩
    · have hke : k = ts.length := by omega
      have HOK : Hid (okL d ts = true) := by
        show _ = _
        rw [hok.out, hke, List.drop_length, okL]
      clear hok
      subst hke
      go_wp2_with fail
      go_ret
      exact ⟨ret_bool HOK.out.symm, hbel⟩

theorem okL_any : ∀ (n : Nat) (ts : List T) (v : Value) (d : Int) (w : World), depL ts < n → 1 ≤ d → d ≤ 9 → TL w w.heap.size v ts →
    Calls Tryd.prog 78 #[v, .int .i64 d] w fun e w' => e = .returned (.bool (okL d ts)) ∧ Below w.heap.size w w'
  | 0, ts, v, d, w, h, _, _, _ => absurd h (by omega)
  | n + 1, ts, v, d, w, h, h1, h2, hv => okL_step ts (fun ts' v' d' w' h' => okL_any n ts' v' d' w' (by omega)) v d w h1 h2 hv

theorem LL.on {w w' : World} {v : Value} {ls : List (List UInt8)} (h : LL w w.heap.size v ls) (hb : Below w.heap.size w w') : LL w' w'.heap.size v ls := by
  obtain ⟨A, c, vs, rfl, h1, h2, h3, h4, h5⟩ := h
  refine ⟨A, c, vs, rfl, h1, h2, h3, fun hp => ?_, fun k hk => (h5.out k hk).on hb⟩
  obtain ⟨b, o, hA, hbb, hc⟩ := h4.out hp
  exact ⟨b, o, hA, Nat.lt_of_lt_of_le hbb hb.size, fun k hk => (hb.cell (p := ⟨b, o + k, none⟩) hbb).trans (hc k hk)⟩
theorem fresh_sl {w : World} {B : Nat} {v : Value} {l : List UInt8} (h : Lib.FreshBytes B w v l) : SL w w.heap.size v l := by
  obtain ⟨g, cap, zs, rfl, hg, h1, h2, hz, hr, hb, hc, _⟩ := h
  refine ⟨_, cap, rfl, h1, h2, fun hp => ⟨g, 0, rfl, ?_, fun k hk => ?_⟩⟩
  · exact World.block_lt_of_cell? w _ (hc 0 (by omega))
  · rw [Nat.zero_add, hc k (by omega)]
    have hkz : k < zs.length := by omega
    have hx := hr zs[k] (List.getElem_mem hkz)
    have e1 : zs.getD k 0 = zs[k] := by simp [List.getD, List.getElem?_eq_getElem hkz]
    have e2 : l.getD k 0 = UInt8.ofNat zs[k].toNat := by
      rw [← hb]
      simp [Lib.bytesOf, List.getD, hk, List.getElem?_eq_getElem hkz]
    rw [e1, e2]
    congr 2
    simp
    omega

theorem join_nosep (ls : List (List UInt8)) : Lib.join ls [] = ls.flatten := by
  cases ls with
  | nil => rfl
  | cons x r =>
    rw [Lib.join_cons, List.flatten_cons]
    congr 1
    simp [Lib.joinTail]
theorem sl_holds {w : World} {B : Nat} {v : Value} {l : List UInt8} (h : SL w B v l) : Lib.HoldsBytes w v l := by
  obtain ⟨A, c, rfl, _, _, h3⟩ := h
  refine ⟨A, c, rfl, fun hA => ?_, fun a hA i x hx => ?_⟩
  · rcases Nat.eq_zero_or_pos l.length with h0 | h0
    · exact List.eq_nil_of_length_eq_zero h0
    · obtain ⟨b, o, hA', _⟩ := h3 h0
      rw [hA] at hA'
      cases hA'
  · have hi : i < l.length := (List.getElem?_eq_some_iff.1 hx).1
    obtain ⟨b, o, hA', _, hc⟩ := h3 (by omega)
    rw [hA] at hA'
    cases hA'
    rw [addr_add, hc i hi]
    congr 2
    rw [List.getD, hx]
    rfl

/-- bytes.Join without a separator. -/
theorem bjoin_any (ls : List (List UInt8)) (v : Value) (w : World) (h : LL w w.heap.size v ls) (hn : ls.length ≤ 1000000) (hs : Lib.lens ls ≤ 10000000) :
    Calls Tryd.prog 109 #[v, .slice none 0 0] w fun e w' => ∃ v', e = .returned v' ∧ SL w' w'.heap.size v' ls.flatten ∧ Below w.heap.size w w' := by
  obtain ⟨A, c, vs, rfl, h1, h2, h3, h4, h5⟩ := h
  match ls, h1, h3, h4, h5, hn, hs with
  | [], h1, h3, h4, h5, hn, hs =>
    exact (Tryd.bytes_Join_none A c (.slice none 0 0) w).mono fun e w' ⟨he, hw⟩ => ⟨_, he, SL.nil _ _ _ _ (Nat.zero_le _), by rw [hw]; exact (Below.refl _ _).alloc (Nat.le_refl _) _⟩
  | [l0], h1, h3, h4, h5, hn, hs =>
    obtain ⟨b, o, rfl, hb, hc⟩ := h4.out (by simp)
    have hc0 : w.cell? ⟨b, o, none⟩ = some (vs.getD 0 (.slice none 0 0)) := hc 0 (by simp)
    have hs0 : SL w w.heap.size (vs.getD 0 (.slice none 0 0)) l0 := h5.out 0 (by simp)
    obtain ⟨A0, c0, e0, k1, k2, k3⟩ := hs0
    rw [e0] at hc0
    have hf : [l0].flatten = l0 := by simp
    rw [hf]
    rcases Nat.eq_zero_or_pos l0.length with h0 | h0
    · have hl : l0 = [] := List.eq_nil_of_length_eq_zero h0
      subst hl
      exact (Tryd.bytes_Join_one_empty b o c A0 c0 (.slice none 0 0) w hc0).mono fun e w' ⟨he, hw⟩ => ⟨_, he, SL.nil _ _ _ _ (Nat.zero_le _), by rw [hw]; exact Below.refl _ _⟩
    · obtain ⟨b0, o0, rfl, hb0, hcc⟩ := k3 h0
      refine (Tryd.bytes_Join_one b o c ⟨b0, o0, none⟩ c0 l0 (.slice none 0 0) w hc0 (fun i x hx => ?_) h0 ?_).mono fun e w' ⟨v', he, hf, hbl⟩ => ⟨v', he, fresh_sl hf, hbl⟩
      · have hi : i < l0.length := (List.getElem?_eq_some_iff.1 hx).1
        rw [addr_add, hcc i hi]
        congr 2
        rw [List.getD, hx]
        rfl
      · have : Lib.lens [l0] = l0.length := by simp [Lib.lens]
        omega
  | l0 :: l1 :: r, h1, h3, h4, h5, hn, hs =>
    obtain ⟨b, o, rfl, hb, hc⟩ := h4.out (by simp)
    have hP : Lib.PartsAt w ⟨b, o, none⟩ vs (l0 :: l1 :: r) := by
      refine ⟨h3, fun i u hu => ?_, fun i u l hu hl => ?_⟩
      · have hi : i < vs.length := (List.getElem?_eq_some_iff.1 hu).1
        rw [addr_add, hc i (by omega), List.getD, hu]
        rfl
      · have hi : i < vs.length := (List.getElem?_eq_some_iff.1 hu).1
        have := h5.out i (by omega)
        rw [List.getD, hu, List.getD, hl] at this
        exact sl_holds this
    have hS : Lib.HoldsBytes w (.slice none 0 0) [] := sl_holds (SL.nil w 0 0 none (Nat.zero_le _))
    refine (Tryd.bytes_Join_many b o _ c vs (l0 :: l1 :: r) (.slice none 0 0) [] w rfl (by simp) hP h1 hS (by omega) (by simp; omega)).mono fun e w' ⟨v', he, hf, hbl⟩ => ⟨v', he, ?_, hbl⟩
    rw [join_nosep] at hf
    exact fresh_sl hf

set_option maxRecDepth 100000 in
theorem pjoin_any (ls : List (List UInt8)) (v : Value) (w : World) (h : LL w w.heap.size v ls) (hn : ls.length ≤ 1000000) (hs : Lib.lens ls ≤ 10000000) :
    Calls Tryd.prog 94 #[v] w fun e w' => ∃ v', e = .returned v' ∧ SL w' w'.heap.size v' ls.flatten ∧ Below w.heap.size w w' := by
  have HC := Lib.hid (bjoin_any ls v w h hn hs)
  clear h
  go_enter Tryd.func94, Tryd.ntmps94
  go_wp2_with (go_at_call 109; refine HC.out.mono ?_; rintro e w' ⟨v', rfl, hv', hb'⟩)
  go_ret
  exact ⟨_, rfl, hv', hb'⟩

def padM (l : List UInt8) (n : Int) : List UInt8 := if n < 1 ∨ 65536 < n then [] else padL l n.toNat
def padC (n : Int) : Int := if n < 1 ∨ 65536 < n then 1 else 0
def unpM (l : List UInt8) : List UInt8 := (unpadL l).getD []
def unpC (l : List UInt8) : Int := if (unpadL l).isSome then 0 else 4
def putM (n k : Int) : List UInt8 := if k < 1 ∨ 8 < k then [] else if n < 0 ∨ (256 : Int) ^ k.toNat ≤ n then [] else putL n.toNat k.toNat
def putC (n k : Int) : Int := if k < 1 ∨ 8 < k then 1 else if n < 0 ∨ (256 : Int) ^ k.toNat ≤ n then 2 else 0

theorem nilSL (w : World) : SL w w.heap.size (.slice none 0 0) [] := SL.nil _ _ _ _ (Nat.zero_le _)

theorem unpC_some {l m : List UInt8} (h : unpadL l = some m) : unpC l = 0 ∧ unpM l = m := by simp [unpC, unpM, h]
theorem unpC_none {l : List UInt8} (h : unpadL l = none) : unpC l = 4 ∧ unpM l = [] := by simp [unpC, unpM, h]
theorem pow_cast (k : Nat) : (256 : Int) ^ k = ((256 ^ k : Nat) : Int) := by simp
theorem pput_all (n k : Int) (w : World) (h63 : n ≤ 9223372036854775807) :
    Calls Tryd.prog 108 #[.int .i64 n, .int .i64 k] w fun e w' => ∃ v', e = .returned (.tuple #[v', .int .i64 (putC n k)]) ∧ SL w' w'.heap.size v' (putM n k) ∧ Below w.heap.size w w' := by
  by_cases h : k < 1 ∨ 8 < k
  · refine (pput_arg n k w h).mono fun e w' ⟨he, hw⟩ => ⟨_, by rw [putC, if_pos h]; exact he, ?_, by rw [← hw]; exact Below.refl _ _⟩
    rw [putM, if_pos h]; exact nilSL _
  · by_cases hn : n < 0
    · have h2 : n < 0 ∨ (256 : Int) ^ k.toNat ≤ n := .inl hn
      refine (pput_neg n k w (by omega) (by omega) hn).mono fun e w' ⟨he, hw⟩ => ⟨_, by rw [putC, if_neg h, if_pos h2]; exact he, ?_, by rw [← hw]; exact Below.refl _ _⟩
      rw [putM, if_neg h, if_pos h2]; exact nilSL _
    · obtain ⟨N, rfl⟩ := Int.eq_ofNat_of_zero_le (show 0 ≤ n by omega)
      obtain ⟨K, rfl⟩ := Int.eq_ofNat_of_zero_le (show 0 ≤ k by omega)
      by_cases hb : 256 ^ K ≤ N
      · have h2 : (N : Int) < 0 ∨ (256 : Int) ^ (K : Int).toNat ≤ N := .inr (by rw [Int.toNat_natCast, pow_cast]; exact Int.ofNat_le.2 hb)
        refine (pput_range N K w (by omega) (by omega) (by omega) hb).mono fun e w' ⟨he, hw⟩ => ⟨_, by rw [putC, if_neg h, if_pos h2]; exact he, ?_, by rw [← hw]; exact Below.refl _ _⟩
        rw [putM, if_neg h, if_pos h2]; exact nilSL _
      · have h2 : ¬ ((N : Int) < 0 ∨ (256 : Int) ^ (K : Int).toNat ≤ N) := by
          rw [Int.toNat_natCast, pow_cast]
          intro hh
          rcases hh with hh | hh
          · omega
          · exact hb (Int.ofNat_le.1 hh)
        refine (pput_ok N K w (by omega) (by omega) (by omega) (by omega)).mono fun e w' ⟨v', he, h3, h4⟩ => ⟨v', by rw [putC, if_neg h, if_neg h2]; exact he, ?_, h4⟩
        rw [putM, if_neg h, if_neg h2]; exact h3

theorem lens_flatten (ls : List (List UInt8)) : Lib.lens ls = ls.flatten.length := by
  induction ls with
  | nil => rfl
  | cons x r ih =>
    have : Lib.lens (x :: r) = x.length + Lib.lens r := by simp [Lib.lens]
    rw [this, ih, List.flatten_cons, List.length_append]
theorem splitL_length (n : Nat) (hn : 1 ≤ n) : ∀ (f : Nat) (l : List UInt8), l.length ≤ f → (splitL l n).length ≤ l.length
  | 0, l, h => by
    have : l = [] := List.eq_nil_of_length_eq_zero (by omega)
    subst this; exact Nat.le_refl _
  | f + 1, l, h => by
    rcases Nat.eq_zero_or_pos l.length with h0 | h0
    · have : l = [] := List.eq_nil_of_length_eq_zero h0
      subst this; exact Nat.le_refl _
    · rw [splitL_step l n hn h0, List.length_cons]
      have := splitL_length n hn f (l.drop n) (by simp; omega)
      simp at this
      omega
theorem padL_mod (l : List UInt8) (n : Nat) (h : 0 < n) : (padL l n).length % n = 0 ∧ (padL l n).length ≤ l.length + n := by
  obtain ⟨h1, h2⟩ := pad_room l.length n h
  have e : (padL l n).length = (l.length / n + 1) * n := by simp [padL]; omega
  rw [e]
  exact ⟨Nat.mul_mod_left _ _, h2⟩
theorem put_back (n k : Int) (h63 : n ≤ 9223372036854775807) (h : putC n k = 0) : getN (putM n k) = n ∧ getE (putM n k) = 0 ∧ ((putM n k).length : Int) = k := by
  unfold putC at h
  unfold putM
  split at h
  · omega
  · rename_i hk
    split at h
    · omega
    · rename_i hn
      rw [if_neg hk, if_neg hn]
      obtain ⟨N, rfl⟩ := Int.eq_ofNat_of_zero_le (show 0 ≤ n by omega)
      obtain ⟨K, rfl⟩ := Int.eq_ofNat_of_zero_le (show 0 ≤ k by omega)
      rw [Int.toNat_natCast, Int.toNat_natCast] at *
      have hlt : N < 256 ^ K := by
        rcases Nat.lt_or_ge N (256 ^ K) with h | h
        · exact h
        · exact absurd (.inr (by rw [pow_cast]; exact Int.ofNat_le.2 h)) hn
      have hv : numL (putL N K) = N := by rw [numL_putL, Nat.mod_eq_of_lt hlt]
      have hl : (putL N K).length = K := putL_length N K
      have h8 : ¬ 8 < (putL N K).length := by omega
      have hbig : ¬ bigN < numL (putL N K) := by rw [hv]; unfold bigN; omega
      exact ⟨by rw [getN, if_neg h8, if_neg hbig, hv], by rw [getE, if_neg h8, if_neg hbig], by rw [hl]⟩


/-- v reads as l, and its bytes lie in blocks from lo on. -/
def FS (w : World) (lo : Nat) (v : Value) (l : List UInt8) : Prop := SL w w.heap.size v l ∧ Hid (0 < l.length → ∃ b, v.ownBlock = some b ∧ lo ≤ b)
theorem FS.on {w w' : World} {lo : Nat} {v : Value} {l : List UInt8} (h : FS w lo v l) (hb : Below w.heap.size w w') : FS w' lo v l := ⟨h.1.on hb, h.2⟩
theorem FS.more {w : World} {lo lo' : Nat} {v : Value} {l : List UInt8} (h : FS w lo v l) (hb : lo' ≤ lo) : FS w lo' v l := ⟨h.1, fun hp => by
  obtain ⟨b, h1, h2⟩ := h.2.out hp
  exact ⟨b, h1, Nat.le_trans hb h2⟩⟩
theorem OB.fs {w : World} {base : Nat} {v : Value} {l : List UInt8} (h : OB w base v l) : FS w base v l := ⟨h.sl, fun hp => by
  rcases h.2 with ⟨rfl, h0⟩ | ⟨g, cap, cur, rfl, hb, _⟩
  · omega
  · exact ⟨g, rfl, hb⟩⟩
theorem fresh_fs {w : World} {B : Nat} {v : Value} {l : List UInt8} (h : Lib.FreshBytes B w v l) : FS w B v l := ⟨fresh_sl h, fun _ => by
  obtain ⟨g, cap, zs, rfl, hg, _⟩ := h
  exact ⟨g, rfl, hg⟩⟩
theorem FS.nil (w : World) (lo c : Nat) (A : Option Addr) (hc : c ≤ maxLen) : FS w lo (.slice A 0 c) [] := ⟨SL.nil _ _ _ _ hc, fun hp => absurd hp (by simp)⟩

/-- An own row of byte slices; its entries lie apart from it. -/
def OM (w : World) (base : Nat) (v : Value) (ls : List (List UInt8)) : Prop :=
  ∃ vs : List Value, w.ownsRow base 42 1 v ls.length vs ∧ (∀ u ∈ vs, u.oneCell' = true) ∧ ∀ k, k < ls.length → SL w w.heap.size (vs.getD k (.slice none 0 0)) (ls.getD k []) ∧ (0 < (ls.getD k []).length → (vs.getD k (.slice none 0 0)).ownBlock ≠ v.ownBlock)
theorem OM.nil (w : World) (base : Nat) : OM w base (.slice none 0 0) [] := ⟨[], World.ownsRow_nil .., by simp, fun k hk => absurd hk (by simp)⟩
theorem OM.later {w W : World} {base : Nat} {v : Value} {ls : List (List UInt8)} (h : OM w base v ls) (hb : Below w.heap.size w W) : OM W base v ls := by
  obtain ⟨vs, h1, h2, h3⟩ := h
  refine ⟨vs, ?_, h2, fun k hk => ⟨(h3 k hk).1.on hb, (h3 k hk).2⟩⟩
  exact h1.kept (row := none) ⟨hb.os, hb.tape, hb.output, hb.size, fun k hk _ => hb.block k hk⟩ (by
    cases hv : v.ownBlock with
    | none => exact .inl rfl
    | some k => exact .inr (by simp))
theorem OM.ll {w : World} {base : Nat} {v : Value} {ls : List (List UInt8)} (h : OM w base v ls) : LL w w.heap.size v ls := by
  obtain ⟨vs, h1, h2, h3⟩ := h
  have hlen : vs.length = ls.length := by have := h1.1; omega
  rcases h1.2 with ⟨rfl, h0⟩ | ⟨g, cap, cur, rfl, hb, hg, hn, hm, hs, ht⟩
  · exact ⟨none, 0, vs, by rw [h0], by omega, Nat.zero_le _, hlen, fun hp => absurd hp (by omega), fun k hk => (h3 k hk).1⟩
  · refine ⟨some ⟨g, 0, none⟩, cap, vs, rfl, hn, hm, hlen, fun _ => ⟨g, 0, rfl, ?_, fun k hk => ?_⟩, fun k hk => (h3 k hk).1⟩
    · rcases Nat.lt_or_ge g w.heap.size with hlt | hge
      · exact hlt
      · rw [Array.getElem?_eq_none hge] at hg; cases hg
    · have := World.ownsRow.cellAt (w := w) (base := base) (e := 42) (size := 1) (g := g) (n := ls.length) (cap := cap) (xs := vs) h1 (0 + k) (by omega)
      rw [this, Nat.zero_add, List.getD, List.getElem?_eq_getElem (by omega)]
      rfl
theorem OM.lt {w : World} {base : Nat} {v : Value} {ls : List (List UInt8)} (h : OM w base v ls) : ∀ b, v.ownBlock = some b → b < w.heap.size := by
  obtain ⟨vs, h1, h2, h3⟩ := h
  intro b hb
  exact (h1.lt b hb).2

theorem SL.grown {W w1 : World} {u : Value} {l : List UInt8} {row : Option Nat} (h : SL W W.heap.size u l) (ha : 0 < l.length → u.ownBlock ≠ row) (hg : W.grownBy w1 row) : SL w1 w1.heap.size u l := by
  obtain ⟨A, c, rfl, h1, h2, h3⟩ := h
  refine ⟨A, c, rfl, h1, h2, fun hp => ?_⟩
  obtain ⟨b, o, rfl, hb, hc⟩ := h3 hp
  refine ⟨b, o, rfl, Nat.lt_of_lt_of_le hb hg.size, fun k hk => ?_⟩
  exact (hg.cell_far ⟨b, o + k, none⟩ hb (ha hp)).trans (hc k hk)

/-- Three fresh byte slices appended (they have just been laid into a block of their own, number B). -/
theorem wpList_appM {ops : Array Oper} {rest : List Oper} {o : Oper} {a : Act} {W : World} {Q : Exit → Act → World → Prop} (hgd : o.guard = none) (s x : Operand)
    (ho : o.op = .call { callee := .builtin .append, args := #[s, x], argTypes := #[112, 112] }) (w : World) (base lo : Nat) (v : Value) (ls : List (List UInt8)) (u1 u2 u3 : Value) (l1 l2 l3 : List UInt8) (B : Nat)
    (hs : a.eval s = v) (hx : a.eval x = .slice (some ⟨B, 0, none⟩) 3 3) (hW : Below w.heap.size w W) (hown : OM w base v ls) (hlo : ∀ b, v.ownBlock = some b → b < lo)
    (hu1 : FS w lo u1 l1) (hu2 : FS w lo u2 l2) (hu3 : FS w lo u3 l3) (hB : W.heap[B]? = some (.cells #[u1, u2, u3] 42 (0, 0)))
    (hlen : ls.length ≤ 1000000) (hbase : base ≤ w.heap.size)
    (h : ∀ v' w', OM w' base v' (ls ++ [l1, l2, l3]) → Below base w w' → wpList Tryd.prog ops Q rest (a.put o.dst v') w') : wpList Tryd.prog ops Q (o :: rest) a W := by
  obtain ⟨i0, hi0, hz0, hz1, hz2⟩ := info_parts info22
  have hown' := hown.later hW
  have hap : ∀ {u l}, FS w lo u l → SL W W.heap.size u l ∧ (0 < l.length → u.ownBlock ≠ v.ownBlock) := fun {u l} hu => ⟨hu.1.on hW, fun hp e => by
    obtain ⟨b, hb1, hb2⟩ := hu.2.out hp
    have := hlo b (by rw [← e, hb1])
    omega⟩
  have a1 := hap hu1
  have a2 := hap hu2
  have a3 := hap hu3
  have hone : ∀ {u l}, FS w lo u l → u.oneCell' = true := fun {u l} hu => by
    obtain ⟨A, c, rfl, _⟩ := hu.1
    rfl
  have hsz := hW.size
  obtain ⟨vs, h1, h2, h3⟩ := hown'
  have hlen' : vs.length = ls.length := by have := h1.1; omega
  refine wpList_append_lies W hgd s x 112 ho base 42 i0 (.slice none 0 0) 1 24 Tryd.underlying112 hi0 hz0 hz1 hz2 rfl (by omega) v ls.length vs hs h1 ⟨B, 0, none⟩ 3 3 [u1, u2, u3] hx rfl
    (World.news_of_block (cs := #[u1, u2, u3]) hB) (by intro y hy; simp at hy; rcases hy with rfl | rfl | rfl <;> first | exact hone hu1 | exact hone hu2 | exact hone hu3) (by omega) (by simp only [maxLen]; omega) (by omega) (by omega) W.heap.size rfl fun g cap w' k1 k2 k3 k4 => ?_
  have hl : (ls ++ [l1, l2, l3]).length = ls.length + 3 := by simp
  have hnew : ∀ {u l}, SL W W.heap.size u l ∧ (0 < l.length → u.ownBlock ≠ v.ownBlock) → SL w' w'.heap.size u l ∧ (0 < l.length → u.ownBlock ≠ some g) := fun {u l} hu => by
    refine ⟨hu.1.grown hu.2 k2, fun hp e => ?_⟩
    rcases k3 with k3 | k3
    · exact hu.2 hp (e.trans k3.symm)
    · obtain ⟨A, c, rfl, _, _, hr⟩ := hu.1
      obtain ⟨b, o, rfl, hb, _⟩ := hr hp
      simp only [Value.ownBlock, Option.some.injEq] at e
      omega
  refine h _ w' ⟨vs ++ [u1, u2, u3], by rw [hl]; exact k1, ?_, fun k hk => ?_⟩ ((hW.mono hbase).grown k2 (by omega) (fun k hk => (h1.lt k hk).1))
  · intro y hy
    rcases List.mem_append.1 hy with hy | hy
    · exact h2 y hy
    · simp at hy; rcases hy with rfl | rfl | rfl <;> first | exact hone hu1 | exact hone hu2 | exact hone hu3
  · have hcs : k < ls.length ∨ k = ls.length ∨ k = ls.length + 1 ∨ k = ls.length + 2 := by omega
    rcases hcs with e | rfl | rfl | rfl
    · have e1 : (vs ++ [u1, u2, u3]).getD k (.slice none 0 0) = vs.getD k (.slice none 0 0) := by simp [List.getD, List.getElem?_append, hlen', e]
      have e2 : (ls ++ [l1, l2, l3]).getD k [] = ls.getD k [] := by simp [List.getD, List.getElem?_append, e]
      rw [e1, e2]
      exact hnew (h3 k e)
    · have e1 : (vs ++ [u1, u2, u3]).getD ls.length (.slice none 0 0) = u1 := by simp [List.getD, ← hlen']
      have e2 : (ls ++ [l1, l2, l3]).getD ls.length [] = l1 := by simp [List.getD]
      rw [e1, e2]
      exact hnew a1
    · have e1 : (vs ++ [u1, u2, u3]).getD (ls.length + 1) (.slice none 0 0) = u2 := by simp [List.getD, ← hlen']
      have e2 : (ls ++ [l1, l2, l3]).getD (ls.length + 1) [] = l2 := by simp [List.getD]
      rw [e1, e2]
      exact hnew a2
    · have e1 : (vs ++ [u1, u2, u3]).getD (ls.length + 2) (.slice none 0 0) = u3 := by simp [List.getD, ← hlen']
      have e2 : (ls ++ [l1, l2, l3]).getD (ls.length + 2) [] = l3 := by simp [List.getD]
      rw [e1, e2]
      exact hnew a3

set_option maxRecDepth 100000 in
theorem pput_own (N k : Nat) (w : World) (h : 1 ≤ k) (h' : k ≤ 8) (h63 : N ≤ 9223372036854775807) (hn : N < 256 ^ k) :
    Calls Tryd.prog 108 #[.int .i64 N, .int .i64 k] w fun e w' => ∃ v', e = .returned (.tuple #[v', .int .i64 0]) ∧ FS w' w.heap.size v' (putL N k) ∧ Below w.heap.size w w' := by
  have hz := shr_zero N k
  rw [decide_eq_false (by omega)] at hz
  clear hn
  go_enter Tryd.func108, Tryd.ntmps108
  go_wp2_with (at_make; refine wpList_mk (by rfl) _ _ (by rfl) .i64 .i64 _ _ k (by rfl) (by rfl) (by rfl) (by rfl) (by omega) ?_; intro w1 hown1 hb1')
  go_loopw [28] (fun i wr => ∃ j : Nat, j ≤ k ∧ i = .int .i64 j ∧ OB wr w.heap.size (.slice (some ⟨w.heap.size, 0, none⟩) k k) (List.replicate (k - j) 0 ++ putL N j) ∧ Below w.heap.size w wr) (fun i _ => k - (intOf i).toNat)
  case atStart => exact ⟨0, Nat.zero_le _, rfl, by simpa [putL] using hown1, hb1'⟩
  case round =>
    obtain ⟨j, hj, rfl, hown, hbel⟩ := hrel
    by_cases h1 : j < k
    · have g3 := hown.cellAt (k - 1 - j) (by simp [putL_length]; omega)
      have g4 := hown.frozenAt (k - 1 - j)
      go_wp2
      go_roundw
      case rel => exact ⟨j + 1, by omega, by go_num, put_round N _ (shr_byte N j) hown h1, hbel.setCell (p := ⟨w.heap.size, k - 1 - j, none⟩) (Nat.le_refl _) _⟩
      case measure => simp [intOf]; omega
    · have hjk : j = k := by omega
      subst hjk
      go_wp2
      go_ret2
      exact ⟨_, rfl, by simpa using hown.fs, hbel⟩

set_option maxRecDepth 100000 in
theorem tagF_own (t : Int) (w : World) (h1 : 1 ≤ t) (h2 : t ≤ 65535) :
    Calls Tryd.prog 92 #[.int .i64 t] w fun e w' => ∃ v', e = .returned v' ∧ FS w' w.heap.size v' (tagF t) ∧ Below w.heap.size w w' := by
  obtain ⟨N, rfl⟩ := Int.eq_ofNat_of_zero_le (show 0 ≤ t by omega)
  by_cases h : 255 < (N : Int)
  · have HT := Lib.hid (show tagF (N : Int) = putL N 2 by unfold tagF; rw [if_pos h, Int.toNat_natCast])
    have HC := Lib.hid (pput_own N 2 w (by omega) (by omega) (by omega) (by omega))
    go_enter Tryd.func92, Tryd.ntmps92
    go_wp2_with (go_at_call 108; refine HC.out.mono ?_; rintro e w' ⟨v', rfl, hv', hb'⟩)
    go_ret
    exact ⟨v', rfl, by rw [HT.out]; exact hv', hb'⟩
  · have HT := Lib.hid (show tagF (N : Int) = putL N 1 by unfold tagF; rw [if_neg h, Int.toNat_natCast])
    have HC := Lib.hid (pput_own N 1 w (by omega) (by omega) (by omega) (by omega))
    have h' : (N : Int) ≤ 255 := by omega
    clear h
    go_enter Tryd.func92, Tryd.ntmps92
    go_wp2_with (go_at_call 108; refine HC.out.mono ?_; rintro e w' ⟨v', rfl, hv', hb'⟩)
    go_ret
    exact ⟨v', rfl, by rw [HT.out]; exact hv', hb'⟩

theorem FS.new (w : World) (cs : Array Value) (l : List UInt8) (hcs : cs = (l.map bv).toArray) (h : l.length ≤ 1000) :
    FS (w.alloc (.cells cs 5)) w.heap.size (.slice (some ⟨w.heap.size, 0, none⟩) l.length l.length) l := ⟨SL.new w cs l hcs h, fun _ => ⟨_, rfl, Nat.le_refl _⟩⟩
set_option maxRecDepth 100000 in
theorem lenF_own (n : Nat) (w : World) (h1 : n ≤ 10000000) :
    Calls Tryd.prog 93 #[.int .i64 n] w fun e w' => ∃ v', e = .returned v' ∧ FS w' w.heap.size v' (lenF n) ∧ Below w.heap.size w w' := by
  by_cases h : n < 128
  · have HT := Lib.hid (show lenF n = [UInt8.ofNat n] by unfold lenF; rw [if_pos h])
    go_enter Tryd.func93, Tryd.ntmps93
    go_wp2
    go_ret
    refine ⟨_, rfl, ?_, alloc_below _ _⟩
    rw [HT.out]
    exact FS.new w _ [UInt8.ofNat n] (by simp [bv]; omega) (by simp)
  · by_cases h' : n ≤ 255
    · have HT := Lib.hid (show lenF n = [129, UInt8.ofNat n] by unfold lenF; rw [if_neg h, if_pos h'])
      go_enter Tryd.func93, Tryd.ntmps93
      go_wp2
      go_ret
      refine ⟨_, rfl, ?_, alloc_below _ _⟩
      rw [HT.out]
      exact FS.new w _ [129, UInt8.ofNat n] (by simp [bv]; omega) (by simp)
    · have HT := Lib.hid (show lenF n = [130, UInt8.ofNat (n / 256), UInt8.ofNat n] by unfold lenF; rw [if_neg h, if_neg h'])
      go_enter Tryd.func93, Tryd.ntmps93
      go_wp2
      go_ret
      refine ⟨_, rfl, ?_, alloc_below _ _⟩
      rw [HT.out]
      exact FS.new w _ [130, UInt8.ofNat (n / 256), UInt8.ofNat n] (by simp [bv]) (by simp)

theorem bjoin_own (ls : List (List UInt8)) (v : Value) (w : World) (h : LL w w.heap.size v ls) (hn : ls.length ≤ 1000000) (hs : Lib.lens ls ≤ 10000000) :
    Calls Tryd.prog 109 #[v, .slice none 0 0] w fun e w' => ∃ v', e = .returned v' ∧ FS w' w.heap.size v' ls.flatten ∧ Below w.heap.size w w' := by
  obtain ⟨A, c, vs, rfl, h1, h2, h3, h4, h5⟩ := h
  match ls, h1, h3, h4, h5, hn, hs with
  | [], h1, h3, h4, h5, hn, hs =>
    exact (Tryd.bytes_Join_none A c (.slice none 0 0) w).mono fun e w' ⟨he, hw⟩ => ⟨_, he, FS.nil _ _ _ _ (Nat.zero_le _), by rw [hw]; exact (Below.refl _ _).alloc (Nat.le_refl _) _⟩
  | [l0], h1, h3, h4, h5, hn, hs =>
    obtain ⟨b, o, rfl, hb, hc⟩ := h4.out (by simp)
    have hc0 : w.cell? ⟨b, o, none⟩ = some (vs.getD 0 (.slice none 0 0)) := hc 0 (by simp)
    have hs0 : SL w w.heap.size (vs.getD 0 (.slice none 0 0)) l0 := h5.out 0 (by simp)
    obtain ⟨A0, c0, e0, k1, k2, k3⟩ := hs0
    rw [e0] at hc0
    have hf : [l0].flatten = l0 := by simp
    rw [hf]
    rcases Nat.eq_zero_or_pos l0.length with h0 | h0
    · have hl : l0 = [] := List.eq_nil_of_length_eq_zero h0
      subst hl
      exact (Tryd.bytes_Join_one_empty b o c A0 c0 (.slice none 0 0) w hc0).mono fun e w' ⟨he, hw⟩ => ⟨_, he, FS.nil _ _ _ _ (Nat.zero_le _), by rw [hw]; exact Below.refl _ _⟩
    · obtain ⟨b0, o0, rfl, hb0, hcc⟩ := k3 h0
      refine (Tryd.bytes_Join_one b o c ⟨b0, o0, none⟩ c0 l0 (.slice none 0 0) w hc0 (fun i x hx => ?_) h0 ?_).mono fun e w' ⟨v', he, hf, hbl⟩ => ⟨v', he, fresh_fs hf, hbl⟩
      · have hi : i < l0.length := (List.getElem?_eq_some_iff.1 hx).1
        rw [addr_add, hcc i hi]
        congr 2
        rw [List.getD, hx]
        rfl
      · have : Lib.lens [l0] = l0.length := by simp [Lib.lens]
        omega
  | l0 :: l1 :: r, h1, h3, h4, h5, hn, hs =>
    obtain ⟨b, o, rfl, hb, hc⟩ := h4.out (by simp)
    have hP : Lib.PartsAt w ⟨b, o, none⟩ vs (l0 :: l1 :: r) := by
      refine ⟨h3, fun i u hu => ?_, fun i u l hu hl => ?_⟩
      · have hi : i < vs.length := (List.getElem?_eq_some_iff.1 hu).1
        rw [addr_add, hc i (by omega), List.getD, hu]
        rfl
      · have hi : i < vs.length := (List.getElem?_eq_some_iff.1 hu).1
        have := h5.out i (by omega)
        rw [List.getD, hu, List.getD, hl] at this
        exact sl_holds this
    have hS : Lib.HoldsBytes w (.slice none 0 0) [] := sl_holds (SL.nil w 0 0 none (Nat.zero_le _))
    refine (Tryd.bytes_Join_many b o _ c vs (l0 :: l1 :: r) (.slice none 0 0) [] w rfl (by simp) hP h1 hS (by omega) (by simp; omega)).mono fun e w' ⟨v', he, hf, hbl⟩ => ⟨v', he, ?_, hbl⟩
    rw [join_nosep] at hf
    exact fresh_fs hf

set_option maxRecDepth 100000 in
theorem pjoin_own (ls : List (List UInt8)) (v : Value) (w : World) (h : LL w w.heap.size v ls) (hn : ls.length ≤ 1000000) (hs : Lib.lens ls ≤ 10000000) :
    Calls Tryd.prog 94 #[v] w fun e w' => ∃ v', e = .returned v' ∧ FS w' w.heap.size v' ls.flatten ∧ Below w.heap.size w w' := by
  have HC := Lib.hid (bjoin_own ls v w h hn hs)
  clear h
  go_enter Tryd.func94, Tryd.ntmps94
  go_wp2_with (go_at_call 109; refine HC.out.mono ?_; rintro e w' ⟨v', rfl, hv', hb'⟩)
  go_ret
  exact ⟨_, rfl, hv', hb'⟩

theorem encL_split (ts : List T) (k : Nat) : encL ts = encL (ts.take k) ++ encL (ts.drop k) := by
  induction ts generalizing k with
  | nil => simp [encL]
  | cons t ts ih =>
    cases k with
    | zero => simp [encL]
    | succ k => simp [encL]; exact ih k
theorem encL_take_le (ts : List T) (k : Nat) : (encL (ts.take k)).length ≤ (encL ts).length := by
  rw [encL_split ts k, List.length_append]; omega
theorem enc_length (t : T) : t.enc.length = (tagF t.tag).length + (lenF (t.val.length + (encL t.kids).length)).length + (t.val.length + (encL t.kids).length) := by
  rw [enc_parts]; simp; omega
/-- What an object of a valid list is. -/
theorem ok_obj {d : Int} {t : T} (h : t.ok d = true) : 1 ≤ t.tag ∧ t.tag ≤ 65535 ∧ okL (d + 1) t.kids = true := by
  rw [ok_partsT] at h
  simp only [Bool.and_eq_true] at h
  obtain ⟨⟨_, h2⟩, h3⟩ := h
  have hv : validB t.tag = true := by
    unfold objOk at h2
    split at h2
    · rename_i hc
      unfold consB at hc
      simp only [Bool.and_eq_true] at hc
      exact hc.1
    · simp only [Bool.and_eq_true] at h2
      exact h2.1
  exact ⟨(validB_range hv).1, (validB_range hv).2, h3⟩

/-- As new_cell, where a region has drawn. -/
theorem new_cellD {w w' : World} {cs : Array Value} {ty : TypeId} (h : Below (w.alloc (.cells cs ty)).drew.heap.size (w.alloc (.cells cs ty)).drew w') (i : Nat) (u : Value) (hu : cs[i]? = some u) : w'.cell? ⟨w.heap.size, i, none⟩ = some u := by
  rw [h.cell (p := ⟨w.heap.size, i, none⟩) (by show w.heap.size < (w.alloc (.cells cs ty)).heap.size; rw [alloc_size]; exact Nat.lt_succ_self _)]
  show (w.alloc (.cells cs ty)).cell? _ = _
  rw [cell_of_row _ w.heap.size i cs ty (0, 0) (heap_alloc_new w _), hu]

theorem after_alloc_drew {w w' : World} {o : Obj} (h : Below (w.alloc o).drew.heap.size (w.alloc o).drew w') : Below w.heap.size w w' :=
  ((alloc_below w o).drew).trans (h.mono (by show _ ≤ (w.alloc o).heap.size; rw [alloc_size]; exact Nat.le_succ _))

def SizeC (ts : List T) : Prop := ∀ (v : Value) (w : World), TL w w.heap.size v ts →
  Calls Tryd.prog 79 #[v] w fun e w' => e = .returned (.int .i64 ((encL ts).length : Int)) ∧ Below w.heap.size w w'

set_option maxRecDepth 100000 in
set_option maxHeartbeats 3200000 in
theorem size_step (ts : List T) (d : Int) (ih : ∀ (ts' : List T), depL ts' < depL ts → okL (d + 1) ts' = true → (encL ts').length ≤ 1000000 → SizeC ts')
    (hok : okL d ts = true) (hs : (encL ts).length ≤ 1000000) : SizeC ts := by
  intro v w hv
  have IH := Lib.hid ih
  have HOK := Lib.hid hok
  have HS := Lib.hid hs
  clear ih hok hs
  obtain ⟨A, c, rfl, h1, h2, h3⟩ := hv
  unfold maxLen at h2
  go_enter Tryd.func79, Tryd.ntmps79
  go_wp2_with fail
  go_loopw [3, 9] (fun n i wr => ∃ k : Nat, k ≤ ts.length ∧ i = .int .i64 k ∧ n = .int .i64 ((encL (ts.take k)).length : Int) ∧ Below w.heap.size w wr) (fun _ i _ => ts.length - (intOf i).toNat)
  case atStart => exact ⟨0, Nat.zero_le _, rfl, rfl, Below.refl _ _⟩
  case round =>
    obtain ⟨k, hk, rfl, rfl, hbel⟩ := hrel
    by_cases hkl : k < ts.length
    · obtain ⟨b, o, rfl, hb, hts⟩ := h3.out (by omega)
      have hta := TsAt.get hts hkl
      have hdp := depL_get ts k hkl
      have hob := ok_obj (okL_get d ts k hkl HOK.out)
      have hst := encL_take ts k hkl
      have hle := encL_take_le ts (k + 1)
      obtain ⟨t, ht⟩ : ∃ t, t = ts[k] := ⟨_, rfl⟩
      rw [← ht] at hta hst hdp hob
      rw [← dep_kidsT] at hdp
      have hlen : (encL (ts.take (k + 1))).length = (encL (ts.take k)).length + t.enc.length := by rw [hst, List.length_append]
      rw [enc_length] at hlen
      have hsn := HS.out
      obtain ⟨t1, t2, hkok⟩ := hob
      obtain ⟨K, hK⟩ : ∃ K, K = (encL t.kids).length := ⟨_, rfl⟩
      have hih := IH.out t.kids (by omega) hkok (by omega)
      unfold SizeC at hih
      simp only [← hK] at hih hlen
      obtain ⟨S0, hS0⟩ : ∃ S, S = (encL (ts.take k)).length := ⟨_, rfl⟩
      rw [← hS0] at hlen ⊢
      obtain ⟨S1, hS1⟩ : ∃ S, S = (encL (ts.take (k + 1))).length := ⟨_, rfl⟩
      rw [← hS1] at hlen hle
      have hS1le : S1 ≤ 1000000 := by omega
      have hta' := TAt.keep hbel.size (fun p hp => hbel.cell hp) t b _ hb hta
      obtain ⟨A1, c1, A2, c2, g1, g2, g3, hv1, hu1⟩ := hta'.cells
      have hsz := hbel.size
      obtain ⟨tag, htag⟩ : ∃ x, x = t.tag := ⟨_, rfl⟩
      rw [← htag] at t1 t2 hlen g1
      obtain ⟨V, hV⟩ : ∃ x, x = t.val.length := ⟨_, rfl⟩
      rw [← hV] at hlen g2
      obtain ⟨M, hM⟩ : ∃ x, x = t.kids.length := ⟨_, rfl⟩
      rw [← hM] at g3
      have hbn := (alloc_below wr (Obj.cells #[Value.int IntKind.i64 tag, Value.slice A1 V c1, Value.slice A2 M c2] 70)).drew
      have hu2 := hu1.on hbn
      rw [← hM] at hu2
      have HU := Lib.hid hu2
      have HI := Lib.hid hih
      have hVK : V + K ≤ 1000000 := by omega
      have HL := Lib.hid hlen
      have HS1 := Lib.hid hS1
      have hc1 := fun W => tagF_own tag W t1 t2
      have hc2 := fun W => lenF_own (V + K) W (by omega)
      simp only [Int.natCast_add] at hc2
      have hq1 : (tagF tag).length ≤ 1000000 := by omega
      have hq2 : (lenF (V + K)).length ≤ 1000000 := by omega
      have HC1 := Lib.hid hc1
      have HC2 := Lib.hid hc2
      have hsum : S0 + ((tagF tag).length + (lenF (V + K)).length + (V + K)) ≤ 1000000 := by omega
      clear hts hta hta' ht hst hdp hle hlen hS1 hkok hih hu2 hbn hv1 hu1 htag hV hM hc1 hc2 hsn hK hS0
      go_wp2_with fail
      have hwr : IntKind.i64.wrap ((V : Int) + (K : Int)) = ((V + K : Nat) : Int) := by rw [IntWalk.i64_in _ (by omega)]; omega
      go_region_held3 (fun w' => w'.cell? ⟨wr.heap.size, 1, none⟩ = some (.slice A1 V c1) ∧ w'.cell? ⟨wr.heap.size, 2, none⟩ = some (.slice A2 M c2) ∧ w'.cell? ⟨wr.heap.size, 0, none⟩ = some (.int .i64 tag))
        (first
          | (go_keep; done)
          | exact ⟨new_cellD hb2 1 _ rfl, new_cellD hb2 2 _ rfl, new_cellD hb2 0 _ rfl⟩)
        (first
          | (go_at_call 79; (with_reducible refine (HI.out _ _ HU.out).mono ?_); rintro e w2 ⟨rfl, hb2⟩))
      rename_i hH
      obtain ⟨q1, q2, q3⟩ := hH
      clear hwr
      have s2 : w.heap.size ≤ w2.heap.size := by have := hb2.size; have e : (wr.alloc (Obj.cells #[Value.int IntKind.i64 tag, Value.slice A1 V c1, Value.slice A2 M c2] 70)).drew.heap.size = wr.heap.size + 1 := alloc_size _ _; omega
      have hw2 : Below w.heap.size w w2 := hbel.trans ((after_alloc_drew hb2).mono hsz)
      go_wp2_with fail
      refine (HC1.out w2).mono ?_
      rintro e w3 ⟨v3, rfl, hv3, hb3⟩
      obtain ⟨A3, c3, rfl, _⟩ := hv3.1
      go_wp2_with fail
      refine (HC2.out w3).mono ?_
      rintro e w4 ⟨v4, rfl, hv4, hb4⟩
      obtain ⟨A4, c4, rfl, _⟩ := hv4.1
      have hw4 : Below w.heap.size w w4 := hw2.trans ((hb3.trans (hb4.mono hb3.size)).mono s2)
      go_wp2_with fail
      go_roundw
      case rel => exact ⟨k + 1, by omega, by go_num, by have := HL.out; rw [← HS1.out]; go_num, hw4⟩
      case measure => simp [intOf]; omega
    · have hke : k = ts.length := by omega
      have HE : Hid (encL (ts.take k) = encL ts) := by
        show _ = _
        rw [hke, List.take_length]
      rw [HE.out]
      go_wp2_with fail
      go_ret
      exact ⟨rfl, hbel⟩

theorem size_any : ∀ (n : Nat) (ts : List T) (d : Int), depL ts < n → okL d ts = true → (encL ts).length ≤ 1000000 → SizeC ts
  | 0, ts, d, h, _, _ => absurd h (by omega)
  | n + 1, ts, d, h, h1, h2 => size_step ts d (fun ts' h' hk hl => size_any n ts' (d + 1) (by omega) hk hl) h1 h2

/-- The parts of which encode joins the encoding. -/
def partsL (ts : List T) : List (List UInt8) := ts.flatMap fun t => [tagF t.tag, lenF (t.val ++ encL t.kids).length, t.val ++ encL t.kids]
theorem partsL_take (ts : List T) (k : Nat) (h : k < ts.length) : partsL (ts.take (k + 1)) = partsL (ts.take k) ++ [tagF (ts[k]).tag, lenF ((ts[k]).val ++ encL (ts[k]).kids).length, (ts[k]).val ++ encL (ts[k]).kids] := by
  unfold partsL
  rw [List.take_succ_eq_append_getElem h, List.flatMap_append]
  simp
theorem partsL_flatten (ts : List T) : (partsL ts).flatten = encL ts := by
  induction ts with
  | nil => rfl
  | cons t ts ih =>
    unfold partsL at ih ⊢
    rw [List.flatMap_cons, List.flatten_append, ih, encL, enc_parts]
    simp
theorem partsL_length (ts : List T) : (partsL ts).length = 3 * ts.length := by
  unfold partsL
  induction ts with
  | nil => rfl
  | cons t ts ih => rw [List.flatMap_cons, List.length_append, ih]; simp; omega
theorem lens_flat (ls : List (List UInt8)) : Lib.lens ls = ls.flatten.length := lens_flatten ls
theorem lenF_pos (n : Nat) : 1 ≤ (lenF n).length := by unfold lenF; split <;> (try split) <;> simp
theorem encL_count (ts : List T) : ts.length ≤ (encL ts).length := by
  induction ts with
  | nil => simp
  | cons t ts ih =>
    rw [encL, List.length_append, enc_length, List.length_cons]
    have := lenF_pos (t.val.length + (encL t.kids).length)
    omega

/-- Two byte slices in a block of their own. -/
theorem LL.two (w : World) (u1 u2 : Value) (l1 l2 : List UInt8) (h1 : SL w w.heap.size u1 l1) (h2 : SL w w.heap.size u2 l2) :
    LL (w.alloc (.cells #[u1, u2] 42)) (w.alloc (.cells #[u1, u2] 42)).heap.size (.slice (some ⟨w.heap.size, 0, none⟩) 2 2) [l1, l2] := by
  have hb := alloc_below w (.cells #[u1, u2] 42)
  refine ⟨some ⟨w.heap.size, 0, none⟩, 2, [u1, u2], rfl, Nat.le_refl _, by unfold maxLen; omega, rfl, fun _ => ⟨w.heap.size, 0, rfl, by rw [alloc_size]; omega, fun k hk => ?_⟩, fun k hk => ?_⟩
  · have hk' : k = 0 ∨ k = 1 := by simp at hk; omega
    rcases hk' with rfl | rfl
    · exact (cell_of_row _ w.heap.size 0 #[u1, u2] 42 (0, 0) (heap_alloc_new w _)).trans rfl
    · exact (cell_of_row _ w.heap.size 1 #[u1, u2] 42 (0, 0) (heap_alloc_new w _)).trans rfl
  · have hk' : k = 0 ∨ k = 1 := by simp at hk; omega
    rcases hk' with rfl | rfl
    · exact h1.on hb
    · exact h2.on hb

def EncC (ts : List T) : Prop := ∀ (v : Value) (w : World), TL w w.heap.size v ts →
  Calls Tryd.prog 80 #[v] w fun e w' => ∃ v', e = .returned v' ∧ FS w' w.heap.size v' (encL ts) ∧ Below w.heap.size w w'

set_option maxRecDepth 100000 in
set_option maxHeartbeats 3200000 in
theorem enc_step (ts : List T) (d : Int) (ih : ∀ (ts' : List T), depL ts' < depL ts → okL (d + 1) ts' = true → (encL ts').length ≤ 100000 → EncC ts')
    (hok : okL d ts = true) (hs : (encL ts).length ≤ 100000) : EncC ts := by
  intro v w hv
  have IH := Lib.hid ih
  have HOK := Lib.hid hok
  have HS := Lib.hid hs
  have hcn := encL_count ts
  have hcnt : ts.length ≤ 100000 := by omega
  clear ih hok hs hcn
  obtain ⟨A, c, rfl, h1, h2, h3⟩ := hv
  unfold maxLen at h2
  go_enter Tryd.func80, Tryd.ntmps80
  go_wp2_with fail
  go_loopw [3, 9] (fun n i wr => ∃ k : Nat, k ≤ ts.length ∧ i = .int .i64 k ∧ OM wr w.heap.size n (partsL (ts.take k)) ∧ Below w.heap.size w wr) (fun _ i _ => ts.length - (intOf i).toNat)
  case atStart => exact ⟨0, Nat.zero_le _, rfl, OM.nil _ _, Below.refl _ _⟩
  case round =>
    obtain ⟨k, hk, rfl, hom, hbel⟩ := hrel
    by_cases hkl : k < ts.length
    · obtain ⟨b, o, rfl, hb, hts⟩ := h3.out (by omega)
      have hta := TsAt.get hts hkl
      have hdp := depL_get ts k hkl
      have hob := ok_obj (okL_get d ts k hkl HOK.out)
      have hst := encL_take ts k hkl
      have hle := encL_take_le ts (k + 1)
      have hpt := partsL_take ts k hkl
      have hpl := partsL_length (ts.take k)
      rw [List.length_take] at hpl
      obtain ⟨t, ht⟩ : ∃ t, t = ts[k] := ⟨_, rfl⟩
      rw [← ht] at hta hst hdp hob hpt
      rw [← dep_kidsT] at hdp
      have hlen : (encL (ts.take (k + 1))).length = (encL (ts.take k)).length + t.enc.length := by rw [hst, List.length_append]
      rw [enc_length] at hlen
      have hsn := HS.out
      obtain ⟨t1, t2, hkok⟩ := hob
      have hih := IH.out t.kids (by omega) hkok (by omega)
      unfold EncC at hih
      have hta' := TAt.keep hbel.size (fun p hp => hbel.cell hp) t b _ hb hta
      obtain ⟨A1, c1, A2, c2, g1, g2, g3, hv1, hu1⟩ := hta'.cells
      have hsz := hbel.size
      obtain ⟨tag, htag⟩ : ∃ x, x = t.tag := ⟨_, rfl⟩
      rw [← htag] at t1 t2 hlen g1 hpt
      obtain ⟨C, hC⟩ : ∃ C, C = t.val ++ encL t.kids := ⟨_, rfl⟩
      have hCf : [t.val, encL t.kids].flatten = C := by rw [hC]; simp
      have hClen : C.length = t.val.length + (encL t.kids).length := by rw [hC, List.length_append]
      rw [← hC] at hpt
      rw [← hClen] at hlen
      obtain ⟨P, hP⟩ : ∃ P, P = partsL (ts.take k) := ⟨_, rfl⟩
      rw [← hP] at hpt hpl hom
      have HPT := Lib.hid hpt
      have hPl : P.length ≤ 300000 := by omega
      have hCl : C.length ≤ 100000 := by omega
      obtain ⟨V, hV⟩ : ∃ x, x = t.val.length := ⟨_, rfl⟩
      rw [← hV] at g2 hv1
      obtain ⟨M, hM⟩ : ∃ x, x = t.kids.length := ⟨_, rfl⟩
      rw [← hM] at g3 hu1
      have hbn := (alloc_below wr (Obj.cells #[Value.int IntKind.i64 tag, Value.slice A1 V c1, Value.slice A2 M c2] 70)).drew
      have HU := Lib.hid (hu1.on hbn)
      have HV := Lib.hid (hv1.on hbn)
      have HI := Lib.hid hih
      have HCF := Lib.hid hCf
      have HCL := Lib.hid hClen
      have HC1 := Lib.hid (fun W => tagF_own tag W t1 t2)
      have HC2 := Lib.hid (fun W => lenF_own C.length W (by omega))
      have HVl := Lib.hid hV
      clear hts hta hta' ht hst hdp hle hlen hkok hih hbn hv1 hu1 htag hV hM hsn hC hCf hClen hP hpt hpl
      go_wp2_with fail
      go_region_held3 (fun w' => w'.cell? ⟨wr.heap.size, 1, none⟩ = some (.slice A1 V c1) ∧ w'.cell? ⟨wr.heap.size, 2, none⟩ = some (.slice A2 M c2) ∧ w'.cell? ⟨wr.heap.size, 0, none⟩ = some (.int .i64 tag))
        (first
          | (go_keep; done)
          | exact ⟨new_cellD hb2 1 _ rfl, new_cellD hb2 2 _ rfl, new_cellD hb2 0 _ rfl⟩
          | exact ⟨new_cellD (hb2.alloc (by first | exact Nat.le_refl _ | exact hb2.size) _) 1 _ rfl, new_cellD (hb2.alloc (by first | exact Nat.le_refl _ | exact hb2.size) _) 2 _ rfl, new_cellD (hb2.alloc (by first | exact Nat.le_refl _ | exact hb2.size) _) 0 _ rfl⟩
          | exact ⟨new_cellD (hb2.trans ((after_alloc hb3).mono hb2.size)) 1 _ rfl, new_cellD (hb2.trans ((after_alloc hb3).mono hb2.size)) 2 _ rfl, new_cellD (hb2.trans ((after_alloc hb3).mono hb2.size)) 0 _ rfl⟩)
        (first
          | (go_at_call 80; (with_reducible refine (HI.out _ _ HU.out).mono ?_); rintro e w2 ⟨v2, rfl, hv2, hb2⟩; have hv2' := hv2.1; obtain ⟨A3, c3, rfl, _⟩ := hv2')
          | (go_at_call 94; refine (pjoin_own [t.val, encL t.kids] _ _ (LL.two w2 _ _ _ _ (by have := HVl.out; subst this; exact HV.out.on hb2) hv2.1) (by simp) (by have := HCL.out; simp [Lib.lens]; omega)).mono ?_; rintro e w3 ⟨v3, rfl, hv3, hb3⟩))
      rename_i hH
      obtain ⟨q1, q2, q3⟩ := hH
      rw [HCF.out] at hv3
      obtain ⟨A4, c4, rfl, _⟩ := id hv3.1
      have e2 : (wr.alloc (Obj.cells #[Value.int IntKind.i64 tag, Value.slice A1 V c1, Value.slice A2 M c2] 70)).drew.heap.size = wr.heap.size + 1 := alloc_size _ _
      have s2 := hb2.size
      have e3 := alloc_size w2 (Obj.cells #[Value.slice A1 V c1, Value.slice A3 (encL t.kids).length c3] 42)
      have s3 := hb3.size
      have b2 : Below wr.heap.size wr w2 := after_alloc_drew hb2
      have b3 : Below wr.heap.size wr w3 := b2.trans ((after_alloc hb3).mono b2.size)
      clear hb2 hb3
      have hlo := hom.lt
      go_wp2_with fail
      refine (HC1.out w3).mono ?_
      rintro e w4 ⟨v4, rfl, hv4, hb4⟩
      obtain ⟨A5, c5, rfl, _⟩ := id hv4.1
      go_wp2_with fail
      refine (HC2.out w4).mono ?_
      rintro e w5 ⟨v5, rfl, hv5, hb5⟩
      obtain ⟨A6, c6, rfl, _⟩ := id hv5.1
      have s4 := hb4.size
      have s5 := hb5.size
      have b5 : Below wr.heap.size wr w5 := b3.trans ((hb4.trans (hb5.mono s4)).mono b3.size)
      have s6 := b5.size
      go_wp2_with (at_builtin; refine wpList_appM rfl (.tmp 20) (.tmp 28) rfl w5 w.heap.size wr.heap.size u3 P _ _ _ (tagF tag) (lenF C.length) C w5.heap.size rfl rfl (alloc_below _ _) (hom.later b5) hlo ((hv4.on hb5).more (by omega)) (hv5.more (by omega)) (((hv3.on hb4).on hb5).more (by omega)) (heap_alloc_new w5 _) (by omega) (by omega) ?_; intro v6 w6 hv6 hb6)
      go_roundw
      case rel => exact ⟨k + 1, by omega, by go_num, by rw [HPT.out]; exact hv6, hbel.trans ((b5.mono hsz).trans hb6)⟩
      case measure => simp [intOf]; omega
    · have hke : k = ts.length := by omega
      rw [hke, List.take_length] at hom
      have HS' : Hid ((partsL ts).flatten.length ≤ 100000) := by show _ ≤ _; rw [partsL_flatten]; exact HS.out
      have HPL := Lib.hid (partsL_length ts)
      obtain ⟨A7, c7, vs7, e7, h7⟩ := id hom.ll
      subst e7
      have HOM := Lib.hid hom
      clear hom
      have hw : Below w.heap.size w wr := hbel
      go_wp2_with fail
      refine (pjoin_own (partsL ts) _ wr HOM.out.ll (by have := HPL.out; omega) (by rw [lens_flat]; exact Nat.le_trans HS'.out (by omega))).mono ?_
      rintro e w2 ⟨v2, rfl, hv2, hb2⟩
      go_wp2_with fail
      go_ret
      refine ⟨_, rfl, ?_, hbel.trans (hb2.mono hbel.size)⟩
      rw [partsL_flatten] at hv2
      exact hv2.more hbel.size
theorem enc_any : ∀ (n : Nat) (ts : List T) (d : Int), depL ts < n → okL d ts = true → (encL ts).length ≤ 100000 → EncC ts
  | 0, ts, d, h, _, _ => absurd h (by omega)
  | n + 1, ts, d, h, h1, h2 => enc_step ts d (fun ts' h' hk hl => enc_any n ts' (d + 1) (by omega) hk hl) h1 h2

/-- What Encode answers. -/
def encM (ts : List T) : List UInt8 := if okL 1 ts = true then (if 4096 < (encL ts).length then [] else encL ts) else []
def encE (ts : List T) : Int := if okL 1 ts = true then (if 4096 < (encL ts).length then 3 else 0) else 1
set_option maxRecDepth 100000 in
theorem pencode_any (ts : List T) (v : Value) (w : World) (hv : TL w w.heap.size v ts) (hs : (encL ts).length ≤ 100000) :
    Calls Tryd.prog 54 #[v] w fun e w' => ∃ v', e = .returned (.tuple #[v', .int .i64 (encE ts)]) ∧ SL w' w'.heap.size v' (encM ts) ∧ Below w.heap.size w w' := by
  have HS := Lib.hid hs
  clear hs
  have HV := Lib.hid hv
  have hc := okL_any (depL ts + 1) ts v 1 w (by omega) (by omega) (by omega) hv
  obtain ⟨A, c, rfl, h1, h2, h3⟩ := hv
  cases hok : okL 1 ts with
  | false =>
    rw [hok] at hc
    have HC := Lib.hid hc
    have HM := Lib.hid (show encM ts = [] by unfold encM; rw [hok]; rfl)
    have HE := Lib.hid (show encE ts = 1 by unfold encE; rw [hok]; rfl)
    clear hc hok
    go_enter Tryd.func54, Tryd.ntmps54
    rw [HM.out, HE.out]
    go_wp2_with (go_at_call 78; refine HC.out.mono ?_; rintro e w2 ⟨rfl, hb2⟩)
    go_ret2
    exact ⟨_, rfl, SL.nil _ _ _ _ (Nat.zero_le _), hb2⟩
  | true =>
    rw [hok] at hc
    have HC := Lib.hid hc
    have hsz := size_any (depL ts + 1) ts 1 (by omega) hok (Nat.le_trans HS.out (by omega))
    have hen := enc_any (depL ts + 1) ts 1 (by omega) hok HS.out
    unfold SizeC at hsz
    unfold EncC at hen
    by_cases hl : 4096 < (encL ts).length
    · have HM := Lib.hid (show encM ts = [] by unfold encM; rw [if_pos hok, if_pos hl])
      have HE := Lib.hid (show encE ts = 3 by unfold encE; rw [if_pos hok, if_pos hl])
      obtain ⟨S, hS⟩ : ∃ S, S = (encL ts).length := ⟨_, rfl⟩
      simp only [← hS] at hsz hl
      have HZ := Lib.hid hsz
      clear hc hok hsz hen hS
      go_enter Tryd.func54, Tryd.ntmps54
      rw [HM.out, HE.out]
      go_wp2_with (first
        | (go_at_call 78; refine HC.out.mono ?_; rintro e w2 ⟨rfl, hb2⟩)
        | (go_at_call 79; refine (HZ.out _ _ (HV.out.on hb2)).mono ?_; rintro e w3 ⟨rfl, hb3⟩))
      go_ret2
      exact ⟨_, rfl, SL.nil _ _ _ _ (Nat.zero_le _), hb2.trans (hb3.mono hb2.size)⟩
    · have HM := Lib.hid (show encM ts = encL ts by unfold encM; rw [if_pos hok, if_neg hl])
      have HE := Lib.hid (show encE ts = 0 by unfold encE; rw [if_pos hok, if_neg hl])
      obtain ⟨S, hS⟩ : ∃ S, S = (encL ts).length := ⟨_, rfl⟩
      simp only [← hS] at hsz hl
      have HZ := Lib.hid hsz
      have HN := Lib.hid hen
      clear hc hok hsz hen hS
      go_enter Tryd.func54, Tryd.ntmps54
      rw [HM.out, HE.out]
      go_wp2_with (first
        | (go_at_call 78; refine HC.out.mono ?_; rintro e w2 ⟨rfl, hb2⟩)
        | (go_at_call 79; refine (HZ.out _ _ (HV.out.on hb2)).mono ?_; rintro e w3 ⟨rfl, hb3⟩)
        | (go_at_call 80; refine (HN.out _ _ ((HV.out.on hb2).on hb3)).mono ?_; rintro e w4 ⟨v4, rfl, hv4, hb4⟩))
      go_ret2
      exact ⟨_, rfl, hv4.1, (hb2.trans (hb3.mono hb2.size)).trans (hb4.mono (hb2.trans (hb3.mono hb2.size)).size)⟩
end Go.Proofs.YtjkbfogjfgnhiaaDoor
