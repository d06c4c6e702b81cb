/-
  The walks of the reference's has, valid, Check.
-/
import Derived.Test.YtjkbfogjfgnhiaaDoorRva
namespace Go.Proofs.YtjkbfogjfgnhiaaDoor
set_option linter.unusedVariables false
set_option linter.unusedSimpArgs false
open Go.RowKit

set_option maxRecDepth 100000 in
theorem has_any (a b : Int) (w : World) : Calls Tryd.prog 47 #[.int .i64 a, .int .i64 b] w fun e w' => e = .returned (.bool (lvB a b)) ∧ w = w' := by
  have HL : Hid ((bits .and .i64 a b == b) = lvB a b) := rfl
  go_enter Tryd.func47, Tryd.ntmps47
  go_wp2_with fail
  go_ret
  exact ⟨ret_bool HL.out, rfl⟩
theorem lv_small (n : Int) (h1 : 1 ≤ n) (h2 : n ≤ 51) : lvB 51 n = decide (n.toNat &&& 51 = n.toNat) := by
  obtain ⟨m, rfl⟩ := Int.eq_ofNat_of_zero_le (show 0 ≤ n by omega)
  have hall : ∀ m : Fin 52, (bits .and .i64 51 ((m.val : Nat) : Int) == ((m.val : Nat) : Int)) = decide ((m.val : Int).toNat &&& 51 = (m.val : Int).toNat) := by decide
  exact hall ⟨m, by omega⟩
theorem lv_big (n : Int) (h : 51 < n) : lvB 51 n = false := by
  have e : bits .and .i64 51 n = ((51 &&& (BitVec.ofInt 64 n).toNat : Nat) : Int) := by
    show IntKind.i64.wrap ((BitVec.ofInt 64 51 &&& BitVec.ofInt 64 n).toNat : Int) = _
    rw [BitVec.toNat_and]
    have h1 : (BitVec.ofInt 64 51).toNat = 51 := by decide
    rw [h1]
    have h2 : 51 &&& (BitVec.ofInt 64 n).toNat ≤ 51 := Nat.and_le_left
    exact IntWalk.i64_in _ (by omega)
  have h2 : 51 &&& (BitVec.ofInt 64 n).toNat ≤ 51 := Nat.and_le_left
  unfold lvB
  rw [e]
  generalize 51 &&& (BitVec.ofInt 64 n).toNat = z at *
  rw [beq_eq_false_iff_ne]
  omega
theorem lv_all (n : Int) : lvN n = (decide (1 ≤ n) && lvB 51 n) := by
  unfold lvN
  by_cases h1 : 1 ≤ n
  · by_cases h2 : n ≤ 51
    · rw [lv_small n h1 h2]; simp [h1, h2]
    · rw [lv_big n (by omega)]; simp [h2]
  · simp [h1]

def RvC (c : Cn) : Prop := ∀ (v : Value) (w : World), KL w w.heap.size v c.kids →
  Calls Tryd.prog 40 #[.agg #[.int .i64 c.op, .int .i64 c.n, v]] w fun e w' => e = .returned (.bool c.ok) ∧ Below w.heap.size w w'

set_option maxRecDepth 100000 in
set_option maxHeartbeats 1600000 in
theorem rval0 (n : Int) (A : Option Addr) (K cap : Nat) (w : World) :
    Calls Tryd.prog 40 #[.agg #[.int .i64 0, .int .i64 n, .slice A K cap]] w fun e w' => e = .returned (.bool (okN 0 n K)) ∧ Below w.heap.size w w' := by
  by_cases hn : n = 0
  · subst hn
    have HR : Hid (((K : Int) == 0) = okN 0 0 K) := by show _ = _; rw [natb]; simp [okN]
    go_enter Tryd.func40, Tryd.ntmps40
    go_wp2_with fail
    go_ret
    exact ⟨ret_bool HR.out, alloc_below _ _⟩
  · have HR : Hid (okN 0 n K = false) := by show _ = _; simp [okN, hn]
    have hn1 : (n == 0) = false := by simpa using hn
    have hn2 : decide (n = 0) = false := decide_eq_false hn
    go_enter Tryd.func40, Tryd.ntmps40
    go_wp2_with fail
    go_ret
    exact ⟨ret_bool HR.out.symm, alloc_below _ _⟩

set_option maxRecDepth 100000 in
set_option maxHeartbeats 1600000 in
theorem rval1 (n : Int) (A : Option Addr) (K cap : Nat) (w : World) :
    Calls Tryd.prog 40 #[.agg #[.int .i64 1, .int .i64 n, .slice A K cap]] w fun e w' => e = .returned (.bool (okN 1 n K)) ∧ Below w.heap.size w w' := by
  by_cases hn : n = 0
  · subst hn
    have HR : Hid (((K : Int) == 0) = okN 1 0 K) := by show _ = _; rw [natb]; simp [okN]
    go_enter Tryd.func40, Tryd.ntmps40
    go_wp2_with fail
    go_ret
    exact ⟨ret_bool HR.out, alloc_below _ _⟩
  · have HR : Hid (okN 1 n K = false) := by show _ = _; simp [okN, hn]
    have hn1 : (n == 0) = false := by simpa using hn
    have hn2 : decide (n = 0) = false := decide_eq_false hn
    go_enter Tryd.func40, Tryd.ntmps40
    go_wp2_with fail
    go_ret
    exact ⟨ret_bool HR.out.symm, alloc_below _ _⟩

set_option maxRecDepth 100000 in
set_option maxHeartbeats 1600000 in
theorem rval2 (n : Int) (A : Option Addr) (K cap : Nat) (w : World) :
    Calls Tryd.prog 40 #[.agg #[.int .i64 2, .int .i64 n, .slice A K cap]] w fun e w' => e = .returned (.bool (okN 2 n K)) ∧ Below w.heap.size w w' := by
  by_cases h1 : 1 ≤ n
  · by_cases h2 : n ≤ 8
    · have HR : Hid (((K : Int) == 0) = okN 2 n K) := by show _ = _; rw [natb]; simp [okN, h1, h2]
      go_enter Tryd.func40, Tryd.ntmps40
      go_wp2_with fail
      go_ret
      exact ⟨ret_bool HR.out, alloc_below _ _⟩
    · have HR : Hid (okN 2 n K = false) := by show _ = _; simp [okN, h2]
      have hd : decide (n ≤ 8) = false := decide_eq_false h2
      go_enter Tryd.func40, Tryd.ntmps40
      go_wp2_with fail
      go_ret
      exact ⟨ret_bool HR.out.symm, alloc_below _ _⟩
  · have HR : Hid (okN 2 n K = false) := by show _ = _; simp [okN, h1]
    have hd : decide (1 ≤ n) = false := decide_eq_false h1
    go_enter Tryd.func40, Tryd.ntmps40
    go_wp2_with fail
    go_ret
    exact ⟨ret_bool HR.out.symm, alloc_below _ _⟩

set_option maxRecDepth 100000 in
set_option maxHeartbeats 1600000 in
theorem rval3 (n : Int) (A : Option Addr) (K cap : Nat) (w : World) :
    Calls Tryd.prog 40 #[.agg #[.int .i64 3, .int .i64 n, .slice A K cap]] w fun e w' => e = .returned (.bool (okN 3 n K)) ∧ Below w.heap.size w w' := by
  by_cases h1 : 1 ≤ n
  · by_cases h2 : n ≤ 8
    · have HR : Hid (((K : Int) == 0) = okN 3 n K) := by show _ = _; rw [natb]; simp [okN, h1, h2]
      go_enter Tryd.func40, Tryd.ntmps40
      go_wp2_with fail
      go_ret
      exact ⟨ret_bool HR.out, alloc_below _ _⟩
    · have HR : Hid (okN 3 n K = false) := by show _ = _; simp [okN, h2]
      have hd : decide (n ≤ 8) = false := decide_eq_false h2
      go_enter Tryd.func40, Tryd.ntmps40
      go_wp2_with fail
      go_ret
      exact ⟨ret_bool HR.out.symm, alloc_below _ _⟩
  · have HR : Hid (okN 3 n K = false) := by show _ = _; simp [okN, h1]
    have hd : decide (1 ≤ n) = false := decide_eq_false h1
    go_enter Tryd.func40, Tryd.ntmps40
    go_wp2_with fail
    go_ret
    exact ⟨ret_bool HR.out.symm, alloc_below _ _⟩

set_option maxRecDepth 100000 in
set_option maxHeartbeats 1600000 in
theorem rval4 (n : Int) (A : Option Addr) (K cap : Nat) (w : World) :
    Calls Tryd.prog 40 #[.agg #[.int .i64 4, .int .i64 n, .slice A K cap]] w fun e w' => e = .returned (.bool (okN 4 n K)) ∧ Below w.heap.size w w' := by
  by_cases h1 : 1 ≤ n
  · by_cases h2 : n ≤ 5
    · have HR : Hid (((K : Int) == 0) = okN 4 n K) := by show _ = _; rw [natb]; simp [okN, h1, h2]
      go_enter Tryd.func40, Tryd.ntmps40
      go_wp2_with fail
      go_ret
      exact ⟨ret_bool HR.out, alloc_below _ _⟩
    · have HR : Hid (okN 4 n K = false) := by show _ = _; simp [okN, h2]
      have hd : decide (n ≤ 5) = false := decide_eq_false h2
      go_enter Tryd.func40, Tryd.ntmps40
      go_wp2_with fail
      go_ret
      exact ⟨ret_bool HR.out.symm, alloc_below _ _⟩
  · have HR : Hid (okN 4 n K = false) := by show _ = _; simp [okN, h1]
    have hd : decide (1 ≤ n) = false := decide_eq_false h1
    go_enter Tryd.func40, Tryd.ntmps40
    go_wp2_with fail
    go_ret
    exact ⟨ret_bool HR.out.symm, alloc_below _ _⟩

set_option maxRecDepth 100000 in
set_option maxHeartbeats 1600000 in
theorem rval5 (n : Int) (A : Option Addr) (K cap : Nat) (w : World) :
    Calls Tryd.prog 40 #[.agg #[.int .i64 5, .int .i64 n, .slice A K cap]] w fun e w' => e = .returned (.bool (okN 5 n K)) ∧ Below w.heap.size w w' := by
  have hl := lv_all n
  have HX := Lib.hid fun W => has_any 51 n W
  generalize lvB 51 n = X at *
  by_cases h1 : 1 ≤ n
  · cases X with
    | true =>
      have HR : Hid (((K : Int) == 0) = okN 5 n K) := by show _ = _; rw [natb]; simp [okN, hl, h1]
      clear hl
      go_enter Tryd.func40, Tryd.ntmps40
      go_wp2_with fail
      refine (HX.out _).mono ?_
      rintro e w1 ⟨rfl, rfl⟩
      go_wp2_with fail
      go_ret
      exact ⟨ret_bool HR.out, alloc_below _ _⟩
    | false =>
      have HR : Hid (okN 5 n K = false) := by show _ = _; simp [okN, hl]
      clear hl
      go_enter Tryd.func40, Tryd.ntmps40
      go_wp2_with fail
      refine (HX.out _).mono ?_
      rintro e w1 ⟨rfl, rfl⟩
      go_wp2_with fail
      go_ret
      exact ⟨ret_bool HR.out.symm, alloc_below _ _⟩
  · have HR : Hid (okN 5 n K = false) := by show _ = _; simp [okN, hl, h1]
    have hd : decide (1 ≤ n) = false := decide_eq_false h1
    clear hl
    go_enter Tryd.func40, Tryd.ntmps40
    go_wp2_with fail
    go_ret
    exact ⟨ret_bool HR.out.symm, alloc_below _ _⟩

set_option maxRecDepth 100000 in
set_option maxHeartbeats 1600000 in
theorem rval6 (n : Int) (A : Option Addr) (K cap : Nat) (w : World) (hK : n ≠ 0 ∨ K = 0) :
    Calls Tryd.prog 40 #[.agg #[.int .i64 6, .int .i64 n, .slice A K cap]] w fun e w' => e = .returned (.bool (okN 6 n K)) ∧ Below w.heap.size w w' := by
  by_cases hn : n = 0
  · subst hn
    obtain rfl : K = 0 := by rcases hK with h | h; exact absurd rfl h; exact h
    have HR : Hid (okN 6 0 0 = false) := by show _ = _; decide
    go_enter Tryd.func40, Tryd.ntmps40
    go_wp2_with fail
    go_ret
    exact ⟨ret_bool HR.out.symm, alloc_below _ _⟩
  · have HR : Hid (okN 6 n K = false) := by show _ = _; simp [okN, hn]
    have hn1 : (n == 0) = false := by simpa using hn
    have hn2 : (n != 0) = true := by simpa using hn
    have hn3 : decide (n = 0) = false := decide_eq_false hn
    go_enter Tryd.func40, Tryd.ntmps40
    go_wp2_with fail
    go_ret
    exact ⟨ret_bool HR.out.symm, alloc_below _ _⟩

set_option maxRecDepth 100000 in
set_option maxHeartbeats 1600000 in
theorem rval7 (n : Int) (A : Option Addr) (K cap : Nat) (w : World) (hK : n ≠ 0 ∨ K = 0) :
    Calls Tryd.prog 40 #[.agg #[.int .i64 7, .int .i64 n, .slice A K cap]] w fun e w' => e = .returned (.bool (okN 7 n K)) ∧ Below w.heap.size w w' := by
  by_cases hn : n = 0
  · subst hn
    obtain rfl : K = 0 := by rcases hK with h | h; exact absurd rfl h; exact h
    have HR : Hid (okN 7 0 0 = false) := by show _ = _; decide
    go_enter Tryd.func40, Tryd.ntmps40
    go_wp2_with fail
    go_ret
    exact ⟨ret_bool HR.out.symm, alloc_below _ _⟩
  · have HR : Hid (okN 7 n K = false) := by show _ = _; simp [okN, hn]
    have hn1 : (n == 0) = false := by simpa using hn
    have hn2 : (n != 0) = true := by simpa using hn
    have hn3 : decide (n = 0) = false := decide_eq_false hn
    go_enter Tryd.func40, Tryd.ntmps40
    go_wp2_with fail
    go_ret
    exact ⟨ret_bool HR.out.symm, alloc_below _ _⟩

set_option maxRecDepth 100000 in
set_option maxHeartbeats 1600000 in
theorem rvalx (op n : Int) (A : Option Addr) (K cap : Nat) (w : World) (hop : op < 0 ∨ 8 ≤ op) :
    Calls Tryd.prog 40 #[.agg #[.int .i64 op, .int .i64 n, .slice A K cap]] w fun e w' => e = .returned (.bool (okN op n K)) ∧ Below w.heap.size w w' := by
  have HR := Lib.hid (okN_bad op n K hop)
  have a0 : (op == 0) = false := by rw [Bool.eq_false_iff]; intro h; have := eq_of_beq h; omega
  have b0 : decide (op = 0) = false := decide_eq_false (by omega)
  have a1 : (op == 1) = false := by rw [Bool.eq_false_iff]; intro h; have := eq_of_beq h; omega
  have b1 : decide (op = 1) = false := decide_eq_false (by omega)
  have a2 : (op == 2) = false := by rw [Bool.eq_false_iff]; intro h; have := eq_of_beq h; omega
  have b2 : decide (op = 2) = false := decide_eq_false (by omega)
  have a3 : (op == 3) = false := by rw [Bool.eq_false_iff]; intro h; have := eq_of_beq h; omega
  have b3 : decide (op = 3) = false := decide_eq_false (by omega)
  have a4 : (op == 4) = false := by rw [Bool.eq_false_iff]; intro h; have := eq_of_beq h; omega
  have b4 : decide (op = 4) = false := decide_eq_false (by omega)
  have a5 : (op == 5) = false := by rw [Bool.eq_false_iff]; intro h; have := eq_of_beq h; omega
  have b5 : decide (op = 5) = false := decide_eq_false (by omega)
  have a6 : (op == 6) = false := by rw [Bool.eq_false_iff]; intro h; have := eq_of_beq h; omega
  have b6 : decide (op = 6) = false := decide_eq_false (by omega)
  have a7 : (op == 7) = false := by rw [Bool.eq_false_iff]; intro h; have := eq_of_beq h; omega
  have b7 : decide (op = 7) = false := decide_eq_false (by omega)
  go_enter Tryd.func40, Tryd.ntmps40
  go_wp2_with fail
  go_ret
  exact ⟨ret_bool HR.out.symm, alloc_below _ _⟩

set_option maxRecDepth 100000 in
set_option maxHeartbeats 3200000 in
theorem rvall6 (ts : List Cn) (v : Value) (w : World) (hC : ∀ (k : Nat) (h : k < ts.length), RvC ts[k]) (hk : KL w w.heap.size v ts) (hp : 0 < ts.length) :
    Calls Tryd.prog 40 #[.agg #[.int .i64 6, .int .i64 0, v]] w fun e w' => e = .returned (.bool (okK ts)) ∧ Below w.heap.size w w' := by
  have HCC := Lib.hid hC
  clear hC
  obtain ⟨A, cap, rfl, h1, h2, h3⟩ := hk
  unfold maxLen at h2
  have HN0 := Lib.hid (heap_alloc_new w (bx 6 0 A ts.length cap))
  have HS0 := Lib.hid (alloc_size w (bx 6 0 A ts.length cap))
  have HB0 := Lib.hid (alloc_below w (bx 6 0 A ts.length cap))
  have hne : ((ts.length : Int) == 0) = false := by rw [natb]; exact decide_eq_false (by omega)
  have hne2 : decide (ts.length = 0) = false := decide_eq_false (by omega)
  have hne3 : decide ((ts.length : Int) = 0) = false := decide_eq_false (by omega)
  go_enter Tryd.func40, Tryd.ntmps40
  go_wp2_with fail
  clear hne hne2 hne3
  go_loopw [3] (fun i wr => ∃ (k : Nat), k ≤ ts.length ∧ i = .int .i64 k ∧ Hid (okK ts = okK (ts.drop k)) ∧ Hid (Below (w.heap.size + 1) (w.alloc (bx 6 0 A ts.length cap)) wr)) (fun i _ => ts.length - (intOf i).toNat)
  case atStart => exact ⟨0, Nat.zero_le _, rfl, rfl, Below.refl _ _⟩
  case round =>
    obtain ⟨k, hkl, rfl, HR, HB⟩ := hrel
    have hn1 := (HB.out.block w.heap.size (by omega)).trans HN0.out
    have q2 := cell_of_row _ _ 2 _ _ _ hn1
    have HBW := Lib.hid (HB0.out.trans (HB.out.mono (by omega)))
    clear hn1
    by_cases hlt : k < ts.length
    · obtain ⟨b1, o1, rfl, hb1, hts⟩ := h3.out (by omega)
      have hta := CnsAt.get hts hlt
      have hdr := okK_drop ts k hlt
      have hcc := HCC.out k hlt
      obtain ⟨t, ht⟩ : ∃ t, t = ts[k] := ⟨_, rfl⟩
      rw [← ht] at hta hdr hcc
      have hta' := CnAt.keep HBW.out.size (fun p hp => HBW.out.cell hp) t b1 _ hb1 hta
      obtain ⟨A2, c2, g1, g2, g3, hu⟩ := hta'.cells
      have HV := Lib.hid (hcc (.slice A2 t.kids.length c2) wr hu)
      have HDR := Lib.hid hdr
      clear hta hta' hts ht hu hdr hcc
      generalize t.ok = X at *
      go_wp2_with fail
      refine HV.out.mono ?_
      rintro e w2 ⟨rfl, hb2⟩
      have HB2 := Lib.hid (HB.out.trans (hb2.mono (show w.heap.size + 1 ≤ wr.heap.size by have := HB.out.size; rw [HS0.out] at this; exact this)))
      clear hb2
      cases X with
      | false =>
        go_wp2_with fail
        go_ret
        exact ⟨ret_bool (by rw [HR.out, HDR.out, Bool.false_and]), HB0.out.trans (HB2.out.mono (by omega))⟩
      | true =>
        go_wp2_with fail
        go_roundw
        case rel => exact ⟨k + 1, by omega, by go_num, by show _ = _; rw [HR.out, HDR.out, Bool.true_and], HB2⟩
        case measure => simp [intOf]; omega
    · have HR2 : Hid (okK ts = true) := by show _ = _; rw [HR.out, show k = ts.length by omega, List.drop_length, okK]
      go_wp2_with fail
      go_ret
      exact ⟨ret_bool HR2.out.symm, HBW.out⟩

set_option maxRecDepth 100000 in
set_option maxHeartbeats 3200000 in
theorem rvall7 (ts : List Cn) (v : Value) (w : World) (hC : ∀ (k : Nat) (h : k < ts.length), RvC ts[k]) (hk : KL w w.heap.size v ts) (hp : 0 < ts.length) :
    Calls Tryd.prog 40 #[.agg #[.int .i64 7, .int .i64 0, v]] w fun e w' => e = .returned (.bool (okK ts)) ∧ Below w.heap.size w w' := by
  have HCC := Lib.hid hC
  clear hC
  obtain ⟨A, cap, rfl, h1, h2, h3⟩ := hk
  unfold maxLen at h2
  have HN0 := Lib.hid (heap_alloc_new w (bx 7 0 A ts.length cap))
  have HS0 := Lib.hid (alloc_size w (bx 7 0 A ts.length cap))
  have HB0 := Lib.hid (alloc_below w (bx 7 0 A ts.length cap))
  have hne : ((ts.length : Int) == 0) = false := by rw [natb]; exact decide_eq_false (by omega)
  have hne2 : decide (ts.length = 0) = false := decide_eq_false (by omega)
  have hne3 : decide ((ts.length : Int) = 0) = false := decide_eq_false (by omega)
  go_enter Tryd.func40, Tryd.ntmps40
  go_wp2_with fail
  clear hne hne2 hne3
  go_loopw [3] (fun i wr => ∃ (k : Nat), k ≤ ts.length ∧ i = .int .i64 k ∧ Hid (okK ts = okK (ts.drop k)) ∧ Hid (Below (w.heap.size + 1) (w.alloc (bx 7 0 A ts.length cap)) wr)) (fun i _ => ts.length - (intOf i).toNat)
  case atStart => exact ⟨0, Nat.zero_le _, rfl, rfl, Below.refl _ _⟩
  case round =>
    obtain ⟨k, hkl, rfl, HR, HB⟩ := hrel
    have hn1 := (HB.out.block w.heap.size (by omega)).trans HN0.out
    have q2 := cell_of_row _ _ 2 _ _ _ hn1
    have HBW := Lib.hid (HB0.out.trans (HB.out.mono (by omega)))
    clear hn1
    by_cases hlt : k < ts.length
    · obtain ⟨b1, o1, rfl, hb1, hts⟩ := h3.out (by omega)
      have hta := CnsAt.get hts hlt
      have hdr := okK_drop ts k hlt
      have hcc := HCC.out k hlt
      obtain ⟨t, ht⟩ : ∃ t, t = ts[k] := ⟨_, rfl⟩
      rw [← ht] at hta hdr hcc
      have hta' := CnAt.keep HBW.out.size (fun p hp => HBW.out.cell hp) t b1 _ hb1 hta
      obtain ⟨A2, c2, g1, g2, g3, hu⟩ := hta'.cells
      have HV := Lib.hid (hcc (.slice A2 t.kids.length c2) wr hu)
      have HDR := Lib.hid hdr
      clear hta hta' hts ht hu hdr hcc
      generalize t.ok = X at *
      go_wp2_with fail
      refine HV.out.mono ?_
      rintro e w2 ⟨rfl, hb2⟩
      have HB2 := Lib.hid (HB.out.trans (hb2.mono (show w.heap.size + 1 ≤ wr.heap.size by have := HB.out.size; rw [HS0.out] at this; exact this)))
      clear hb2
      cases X with
      | false =>
        go_wp2_with fail
        go_ret
        exact ⟨ret_bool (by rw [HR.out, HDR.out, Bool.false_and]), HB0.out.trans (HB2.out.mono (by omega))⟩
      | true =>
        go_wp2_with fail
        go_roundw
        case rel => exact ⟨k + 1, by omega, by go_num, by show _ = _; rw [HR.out, HDR.out, Bool.true_and], HB2⟩
        case measure => simp [intOf]; omega
    · have HR2 : Hid (okK ts = true) := by show _ = _; rw [HR.out, show k = ts.length by omega, List.drop_length, okK]
      go_wp2_with fail
      go_ret
      exact ⟨ret_bool HR2.out.symm, HBW.out⟩

theorem rv_step (c : Cn) (ih : ∀ c' : Cn, c'.dep < c.dep → RvC c') : RvC c := by
  intro v w hk
  have hp := ok_parts c
  have hC : ∀ (k : Nat) (h : k < c.kids.length), RvC c.kids[k] := fun k h => ih _ (by have := depK_get c.kids k h; have := dep_kids c; omega)
  obtain ⟨A, cap, rfl, h1, h2, h3⟩ := id hk
  obtain ⟨op, n, ts⟩ := c
  simp only [Cn.op, Cn.n, Cn.kids] at *
  rw [hp]
  by_cases hlow : op < 0 ∨ 8 ≤ op
  · have := okN_bad op n ts.length hlow
    refine (rvalx op n A ts.length cap w hlow).mono ?_
    rw [this]
    rintro e w1 ⟨rfl, hb⟩
    exact ⟨rfl, hb⟩
  · by_cases hl : op < 6
    · have key : Calls Tryd.prog 40 #[.agg #[.int .i64 op, .int .i64 n, .slice A ts.length cap]] w fun e w' => e = .returned (.bool (okN op n ts.length)) ∧ Below w.heap.size w w' := by
        have : op = 0 ∨ op = 1 ∨ op = 2 ∨ op = 3 ∨ op = 4 ∨ op = 5 := by omega
        rcases this with rfl | rfl | rfl | rfl | rfl | rfl
        · exact rval0 n A _ cap w
        · exact rval1 n A _ cap w
        · exact rval2 n A _ cap w
        · exact rval3 n A _ cap w
        · exact rval4 n A _ cap w
        · exact rval5 n A _ cap w
      refine key.mono ?_
      rintro e w1 ⟨rfl, hb⟩
      refine ⟨ret_bool ?_, hb⟩
      cases hx : okN op n ts.length with
      | false => rfl
      | true =>
        have := (okN_op hx).2.2.2.2.2.1 (by omega)
        rw [List.eq_nil_of_length_eq_zero this, okK]
        rfl
    · by_cases hb : n ≠ 0 ∨ ts.length = 0
      · have key : Calls Tryd.prog 40 #[.agg #[.int .i64 op, .int .i64 n, .slice A ts.length cap]] w fun e w' => e = .returned (.bool (okN op n ts.length)) ∧ Below w.heap.size w w' := by
          have : op = 6 ∨ op = 7 := by omega
          rcases this with rfl | rfl
          · exact rval6 n A _ cap w hb
          · exact rval7 n A _ cap w hb
        have hf : okN op n ts.length = false := by
          have : op = 6 ∨ op = 7 := by omega
          rcases this with rfl | rfl
          · rcases hb with h | h <;> simp [okN, h]
          · rcases hb with h | h <;> simp [okN, h]
        refine key.mono ?_
        rintro e w1 ⟨rfl, hb⟩
        exact ⟨ret_bool (by rw [hf, Bool.false_and]), hb⟩
      · obtain rfl : n = 0 := by omega
        have hpos : 0 < ts.length := by omega
        have ht : okN op 0 ts.length = true := by
          have : op = 6 ∨ op = 7 := by omega
          rcases this with rfl | rfl <;> simp [okN, hpos]
        rw [ht, Bool.true_and]
        have : op = 6 ∨ op = 7 := by omega
        rcases this with rfl | rfl
        · exact rvall6 ts _ w hC hk hpos
        · exact rvall7 ts _ w hC hk hpos
theorem rv_any : ∀ (n : Nat) (c : Cn), c.dep < n → RvC c
  | 0, c, h => absurd h (by omega)
  | n + 1, c, h => rv_step c fun c' h' => rv_any n c' (by omega)

set_option maxRecDepth 100000 in
set_option maxHeartbeats 3200000 in
theorem rchk_any (c : Cn) (v : Value) (w : World) (hk : KL w w.heap.size v c.kids) (hc : c.cnt ≤ 400) :
    Calls Tryd.prog 18 #[.agg #[.int .i64 c.op, .int .i64 c.n, v]] w fun e w' => e = .returned (.int .i64 (chkC 1 3 c)) ∧ Below w.heap.size w w' := by
  have hdc := Cn.dep_cnt c
  obtain ⟨A, cap, rfl, h1, h2, h3⟩ := id hk
  have ha := alloc_below w (bx c.op c.n A c.kids.length cap)
  have HN0 := Lib.hid (heap_alloc_new w (bx c.op c.n A c.kids.length cap))
  have HS0 := Lib.hid (alloc_size w (bx c.op c.n A c.kids.length cap))
  have HV := Lib.hid (rv_any (c.dep + 1) c (by omega) _ _ (hk.on ha))
  have HN := Lib.hid fun (W : World) hu => nod_any (c.dep + 1) c (by omega) (.slice A c.kids.length cap) W hc hu
  have HD := Lib.hid fun (W : World) hu => dep_any (c.dep + 1) c (by omega) (.slice A c.kids.length cap) W (by omega) hu
  have HC : Hid (chkC 1 3 c = if c.ok then (if 16 < c.cnt ∨ 8 < c.dep then 3 else 0) else 1) := rfl
  have HK := Lib.hid (hk.on ha)
  have HA := Lib.hid ha
  clear hk ha h3
  generalize c.ok = X at *
  generalize c.cnt = M at *
  generalize c.dep = D at *
  cases X with
  | false =>
    go_enter Tryd.func18, Tryd.ntmps18
    go_wp2_with fail
    refine HV.out.mono ?_
    rintro e w1 ⟨rfl, hb1⟩
    go_wp2_with fail
    go_ret
    exact ⟨ret_int HC.out.symm, HA.out.trans (hb1.mono HA.out.size)⟩
  | true =>
    by_cases hm : 16 < M
    · have HR : Hid (chkC 1 3 c = 3) := by show _ = _; rw [HC.out]; simp [hm]
      clear HC
      go_enter Tryd.func18, Tryd.ntmps18
      go_wp2_with fail
      refine HV.out.mono ?_
      rintro e w1 ⟨rfl, hb1⟩
      have k0 := (hb1.block w.heap.size (by rw [HS0.out]; omega)).trans HN0.out
      have g0 := cell_of_row _ _ 0 _ _ _ k0
      have g1 := cell_of_row _ _ 1 _ _ _ k0
      have g2 := cell_of_row _ _ 2 _ _ _ k0
      have HB1 := Lib.hid (HA.out.trans (hb1.mono HA.out.size))
      have HK1 := Lib.hid (HK.out.on hb1)
      clear hb1 k0
      go_wp2_with fail
      refine (HN.out _ HK1.out).mono ?_
      rintro e w2 ⟨rfl, hb2⟩
      have HB2 := Lib.hid (HB1.out.trans (hb2.mono HB1.out.size))
      clear hb2
      go_wp2_with fail
      go_ret
      exact ⟨ret_int HR.out.symm, HB2.out⟩
    · have hmd : decide (16 < M) = false := decide_eq_false hm
      have HR : Hid (chkC 1 3 c = if 8 < D then 3 else 0) := by show _ = _; rw [HC.out]; simp [hm]
      clear HC
      go_enter Tryd.func18, Tryd.ntmps18
      go_wp2_with fail
      refine HV.out.mono ?_
      rintro e w1 ⟨rfl, hb1⟩
      have k0 := (hb1.block w.heap.size (by rw [HS0.out]; omega)).trans HN0.out
      have g0 := cell_of_row _ _ 0 _ _ _ k0
      have g1 := cell_of_row _ _ 1 _ _ _ k0
      have g2 := cell_of_row _ _ 2 _ _ _ k0
      have HB1 := Lib.hid (HA.out.trans (hb1.mono HA.out.size))
      have HK1 := Lib.hid (HK.out.on hb1)
      have hs1 : w.heap.size < w1.heap.size := by have := hb1.size; rw [HS0.out] at this; omega
      have K0 := Lib.hid k0
      clear hb1 k0
      go_wp2_with fail
      refine (HN.out _ HK1.out).mono ?_
      rintro e w2 ⟨rfl, hb2⟩
      have k2 := (hb2.block w.heap.size hs1).trans K0.out
      have r0 := cell_of_row _ _ 0 _ _ _ k2
      have r1 := cell_of_row _ _ 1 _ _ _ k2
      have r2 := cell_of_row _ _ 2 _ _ _ k2
      have HB2 := Lib.hid (HB1.out.trans (hb2.mono HB1.out.size))
      have HK2 := Lib.hid (HK1.out.on hb2)
      clear hb2 k2 g0 g1 g2
      go_wp2_with fail
      refine (HD.out _ HK2.out).mono ?_
      rintro e w3 ⟨rfl, hb3⟩
      have HB3 := Lib.hid (HB2.out.trans (hb3.mono HB2.out.size))
      clear hb3
      by_cases h8 : 8 < D
      · have HR2 : Hid (chkC 1 3 c = 3) := by show _ = _; rw [HR.out, if_pos h8]
        go_wp2_with fail
        go_ret
        exact ⟨ret_int HR2.out.symm, HB3.out⟩
      · have HR2 : Hid (chkC 1 3 c = 0) := by show _ = _; rw [HR.out, if_neg h8]
        have h8d : decide (8 < D) = false := decide_eq_false h8
        go_wp2_with fail
        go_ret
        exact ⟨ret_int HR2.out.symm, HB3.out⟩
end Go.Proofs.YtjkbfogjfgnhiaaDoor
