/-
  The walks of the reference's satisfied and Holds.
-/
import Derived.Test.YtjkbfogjfgnhiaaDoorRvb
namespace Go.Proofs.YtjkbfogjfgnhiaaDoor
set_option linter.unusedVariables false
set_option linter.unusedSimpArgs false
open Go.RowKit

def RsC (c : Cn) : Prop := ∀ (s : Sc) (v : Value) (w : World), c.ok = true → KL w w.heap.size v c.kids →
  Calls Tryd.prog 44 #[.agg #[.int .i64 c.op, .int .i64 c.n, v], .agg #[.int .i64 s.pins, .int .i64 s.keys, .int .i64 s.state, .int .i64 s.level]] w fun e w' => e = .returned (.bool (c.sat s)) ∧ Below w.heap.size w w'
theorem pow_i64 (n : Int) (h1 : 1 ≤ n) (h2 : n ≤ 51) : IntKind.i64.wrap (1 * 2 ^ n.toNat) = 2 ^ n.toNat := by
  obtain ⟨m, rfl⟩ := Int.eq_ofNat_of_zero_le (show 0 ≤ n by omega)
  have hall : ∀ m : Fin 52, IntKind.i64.wrap (1 * 2 ^ ((m.val : Nat) : Int).toNat) = 2 ^ ((m.val : Nat) : Int).toNat := by decide
  exact hall ⟨m, by omega⟩
theorem lv_pow (x n : Int) (h1 : 1 ≤ n) (h2 : n ≤ 8) : lvB x (2 ^ n.toNat) = tbI x n.toNat := bit_ref x n.toNat (by omega)
theorem allS_drop (s : Sc) (ts : List Cn) (k : Nat) (h : k < ts.length) : allS s (ts.drop k) = ((ts[k]).sat s && allS s (ts.drop (k + 1))) := by rw [List.drop_eq_getElem_cons h, allS]
theorem anyS_drop (s : Sc) (ts : List Cn) (k : Nat) (h : k < ts.length) : anyS s (ts.drop k) = ((ts[k]).sat s || anyS s (ts.drop (k + 1))) := by rw [List.drop_eq_getElem_cons h, anyS]

set_option maxRecDepth 100000 in
set_option maxHeartbeats 1600000 in
theorem rs0_any (n : Int) (A : Option Addr) (K cap : Nat) (s : Sc) (w : World) :
    Calls Tryd.prog 44 #[.agg #[.int .i64 0, .int .i64 n, .slice A K cap], .agg #[.int .i64 s.pins, .int .i64 s.keys, .int .i64 s.state, .int .i64 s.level]] w fun e w' => e = .returned (.bool false) ∧ Below w.heap.size w w' := by
  go_enter Tryd.func44, Tryd.ntmps44
  go_wp2_with fail
  go_ret
  exact ⟨rfl, alloc2_below _ _ _⟩

set_option maxRecDepth 100000 in
set_option maxHeartbeats 1600000 in
theorem rs1_any (n : Int) (A : Option Addr) (K cap : Nat) (s : Sc) (w : World) :
    Calls Tryd.prog 44 #[.agg #[.int .i64 1, .int .i64 n, .slice A K cap], .agg #[.int .i64 s.pins, .int .i64 s.keys, .int .i64 s.state, .int .i64 s.level]] w fun e w' => e = .returned (.bool true) ∧ Below w.heap.size w w' := by
  go_enter Tryd.func44, Tryd.ntmps44
  go_wp2_with fail
  go_ret
  exact ⟨rfl, alloc2_below _ _ _⟩

set_option maxRecDepth 100000 in
set_option maxHeartbeats 1600000 in
theorem rs2_any (n : Int) (A : Option Addr) (K cap : Nat) (s : Sc) (w : World) (h1 : 1 ≤ n) (h2 : n ≤ 8) :
    Calls Tryd.prog 44 #[.agg #[.int .i64 2, .int .i64 n, .slice A K cap], .agg #[.int .i64 s.pins, .int .i64 s.keys, .int .i64 s.state, .int .i64 s.level]] w fun e w' => e = .returned (.bool (tbI s.pins n.toNat)) ∧ Below w.heap.size w w' := by
  have h3 : 0 ≤ n := by omega
  have h4 : n ≤ 64 := by omega
  have h5 : n ≤ 18446744073709551615 := by omega
  have HW := pow_i64 n h1 (by omega)
  have HL := Lib.hid (lv_pow s.pins n h1 h2)
  obtain ⟨P, hP⟩ : ∃ P : Int, (2 : Int) ^ n.toNat = P := ⟨_, rfl⟩
  rw [hP] at HW HL
  have HW1 : IntKind.i64.wrap (2 ^ n.toNat) = P := by rw [← HW, hP, Int.one_mul]
  rw [hP] at HW1
  have HX := Lib.hid fun W => has_any s.pins P W
  have HP := Lib.hid hP
  go_enter Tryd.func44, Tryd.ntmps44
  go_wp2_with fail
  refine (HX.out _).mono ?_
  rintro e w1 ⟨rfl, rfl⟩
  rw [HL.out]
  go_wp2_with fail
  go_ret
  exact ⟨rfl, alloc2_below _ _ _⟩

set_option maxRecDepth 100000 in
set_option maxHeartbeats 1600000 in
theorem rs3_any (n : Int) (A : Option Addr) (K cap : Nat) (s : Sc) (w : World) (h1 : 1 ≤ n) (h2 : n ≤ 8) :
    Calls Tryd.prog 44 #[.agg #[.int .i64 3, .int .i64 n, .slice A K cap], .agg #[.int .i64 s.pins, .int .i64 s.keys, .int .i64 s.state, .int .i64 s.level]] w fun e w' => e = .returned (.bool (tbI s.keys n.toNat)) ∧ Below w.heap.size w w' := by
  have h3 : 0 ≤ n := by omega
  have h4 : n ≤ 64 := by omega
  have h5 : n ≤ 18446744073709551615 := by omega
  have HW := pow_i64 n h1 (by omega)
  have HL := Lib.hid (lv_pow s.keys n h1 h2)
  obtain ⟨P, hP⟩ : ∃ P : Int, (2 : Int) ^ n.toNat = P := ⟨_, rfl⟩
  rw [hP] at HW HL
  have HW1 : IntKind.i64.wrap (2 ^ n.toNat) = P := by rw [← HW, hP, Int.one_mul]
  rw [hP] at HW1
  have HX := Lib.hid fun W => has_any s.keys P W
  have HP := Lib.hid hP
  go_enter Tryd.func44, Tryd.ntmps44
  go_wp2_with fail
  refine (HX.out _).mono ?_
  rintro e w1 ⟨rfl, rfl⟩
  rw [HL.out]
  go_wp2_with fail
  go_ret
  exact ⟨rfl, alloc2_below _ _ _⟩

set_option maxRecDepth 100000 in
set_option maxHeartbeats 1600000 in
theorem rs4_any (n : Int) (A : Option Addr) (K cap : Nat) (s : Sc) (w : World) :
    Calls Tryd.prog 44 #[.agg #[.int .i64 4, .int .i64 n, .slice A K cap], .agg #[.int .i64 s.pins, .int .i64 s.keys, .int .i64 s.state, .int .i64 s.level]] w fun e w' => e = .returned (.bool (decide (n ≤ s.state))) ∧ Below w.heap.size w w' := by
  go_enter Tryd.func44, Tryd.ntmps44
  go_wp2_with fail
  go_ret
  exact ⟨rfl, alloc2_below _ _ _⟩

set_option maxRecDepth 100000 in
set_option maxHeartbeats 1600000 in
theorem rs5_any (n : Int) (A : Option Addr) (K cap : Nat) (s : Sc) (w : World) :
    Calls Tryd.prog 44 #[.agg #[.int .i64 5, .int .i64 n, .slice A K cap], .agg #[.int .i64 s.pins, .int .i64 s.keys, .int .i64 s.state, .int .i64 s.level]] w fun e w' => e = .returned (.bool (lvB s.level n)) ∧ Below w.heap.size w w' := by
  have HX := Lib.hid fun W => has_any s.level n W
  go_enter Tryd.func44, Tryd.ntmps44
  go_wp2_with fail
  refine (HX.out _).mono ?_
  rintro e w1 ⟨rfl, rfl⟩
  go_wp2_with fail
  go_ret
  exact ⟨rfl, alloc2_below _ _ _⟩

set_option maxRecDepth 100000 in
set_option maxHeartbeats 6400000 in
theorem rsl6_any (n : Int) (ts : List Cn) (hC : ∀ (k : Nat) (h : k < ts.length), RsC ts[k]) (hok : okK ts = true) (s : Sc) (v : Value) (w : World) (hk : KL w w.heap.size v ts) :
    Calls Tryd.prog 44 #[.agg #[.int .i64 6, .int .i64 n, v], .agg #[.int .i64 s.pins, .int .i64 s.keys, .int .i64 s.state, .int .i64 s.level]] w fun e w' => e = .returned (.bool (allS s ts)) ∧ Below w.heap.size w w' := by
  have HCC := Lib.hid hC
  have HOK := Lib.hid hok
  clear hC hok
  obtain ⟨A, cap, rfl, h1, h2, h3⟩ := hk
  unfold maxLen at h2
  have HN0 : Hid (((w.alloc (bx 6 n A ts.length cap)).alloc s.row).heap[w.heap.size + 1]? = some s.row) := by
    have := heap_alloc_new (w.alloc (bx 6 n A ts.length cap)) s.row
    rw [alloc_size] at this
    exact this
  have HN1 := Lib.hid ((Below.heap_alloc (w.alloc (bx 6 n A ts.length cap)) s.row w.heap.size (by rw [alloc_size]; omega)).trans (heap_alloc_new w (bx 6 n A ts.length cap)))
  have HS0 := Lib.hid (show ((w.alloc (bx 6 n A ts.length cap)).alloc s.row).heap.size = w.heap.size + 2 by rw [alloc_size, alloc_size])
  have HS1 := Lib.hid (alloc_size w (bx 6 n A ts.length cap))
  have HB0 := Lib.hid (alloc2_below w (bx 6 n A ts.length cap) s.row)
  go_enter Tryd.func44, Tryd.ntmps44
  go_wp2_with fail
  go_loopw [5] (fun i wr => ∃ (k : Nat), k ≤ ts.length ∧ i = .int .i64 k ∧ Hid (allS s ts = allS s (ts.drop k)) ∧ Hid (Below (w.heap.size + 2) ((w.alloc (bx 6 n A ts.length cap)).alloc s.row) wr)) (fun i _ => ts.length - (intOf i).toNat)
  case atStart => exact ⟨0, Nat.zero_le _, rfl, rfl, Below.refl _ _⟩
  case round =>
    obtain ⟨k, hkl, rfl, HR, HB⟩ := hrel
    have hn1 := (HB.out.block w.heap.size (by omega)).trans HN1.out
    have hn2 := (HB.out.block (w.heap.size + 1) (by omega)).trans HN0.out
    have q2 := cell_of_row _ _ 2 _ _ _ hn1
    have s0 := cell_of_row _ _ 0 _ _ _ hn2
    have s1 := cell_of_row _ _ 1 _ _ _ hn2
    have s2 := cell_of_row _ _ 2 _ _ _ hn2
    have s3 := cell_of_row _ _ 3 _ _ _ hn2
    have HBW := Lib.hid (HB0.out.trans (HB.out.mono (by omega)))
    have hsr : w.heap.size + 2 ≤ wr.heap.size := by have := HB.out.size; rw [HS0.out] at this; exact this
    clear hn1 hn2
    by_cases hlt : k < ts.length
    · obtain ⟨b1, o1, rfl, hb1, hts⟩ := h3.out (by omega)
      have hta := CnsAt.get hts hlt
      have hdr := allS_drop s ts k hlt
      have hcc := HCC.out k hlt
      have hokt := okK_get ts k hlt HOK.out
      obtain ⟨t, ht⟩ : ∃ t, t = ts[k] := ⟨_, rfl⟩
      rw [← ht] at hta hdr hcc hokt
      have hta' := CnAt.keep HBW.out.size (fun p hp => HBW.out.cell hp) t b1 _ hb1 hta
      obtain ⟨A2, c2, g1, g2, g3, hu⟩ := hta'.cells
      have HV : Hid (∀ W, Below wr.heap.size wr W → Calls Tryd.prog 44 #[.agg #[.int .i64 t.op, .int .i64 t.n, .slice A2 t.kids.length c2], .agg #[.int .i64 s.pins, .int .i64 s.keys, .int .i64 s.state, .int .i64 s.level]] W fun e w' => e = .returned (.bool (t.sat s)) ∧ Below W.heap.size W w') := fun W hW => hcc s _ W hokt (hu.on hW)
      have HDR := Lib.hid hdr
      have hbd := Lib.hid ((Below.refl wr.heap.size wr).drew)
      clear hta hta' hts ht hu hdr hcc hokt
      generalize t.sat s = X at *
      have i1 : (0 : Int) ≤ (k : Int) := by omega
      have i2 : (k : Int) < (ts.length : Int) := by omega
      have hbb : b1 < wr.heap.size := by omega
      cases X with
      | false =>
        go_wp2_with fail
        go_region_held3 (fun w' => w'.cell? ⟨w.heap.size, 2, none⟩ = some (.slice (some ⟨b1, o1, none⟩) ts.length cap) ∧ w'.cell? ⟨w.heap.size + 1, 0, none⟩ = some (.int .i64 s.pins) ∧ w'.cell? ⟨w.heap.size + 1, 1, none⟩ = some (.int .i64 s.keys) ∧ w'.cell? ⟨w.heap.size + 1, 2, none⟩ = some (.int .i64 s.state) ∧ w'.cell? ⟨w.heap.size + 1, 3, none⟩ = some (.int .i64 s.level) ∧ w'.cell? ⟨b1, o1 + k * 3, none⟩ = some (.int .i64 t.op) ∧ w'.cell? ⟨b1, o1 + k * 3 + 1, none⟩ = some (.int .i64 t.n) ∧ w'.cell? ⟨b1, o1 + k * 3 + 2, none⟩ = some (.slice A2 t.kids.length c2))
          (first
            | (go_keep; done)
            | exact ⟨(hbx.cell (p := ⟨w.heap.size, 2, none⟩) (show w.heap.size < wr.heap.size by omega)).trans q2, (hbx.cell (p := ⟨w.heap.size + 1, 0, none⟩) (show w.heap.size + 1 < wr.heap.size by omega)).trans s0, (hbx.cell (p := ⟨w.heap.size + 1, 1, none⟩) (show w.heap.size + 1 < wr.heap.size by omega)).trans s1, (hbx.cell (p := ⟨w.heap.size + 1, 2, none⟩) (show w.heap.size + 1 < wr.heap.size by omega)).trans s2, (hbx.cell (p := ⟨w.heap.size + 1, 3, none⟩) (show w.heap.size + 1 < wr.heap.size by omega)).trans s3, (hbx.cell (p := ⟨b1, o1 + k * 3, none⟩) hbb).trans g1, (hbx.cell (p := ⟨b1, o1 + k * 3 + 1, none⟩) hbb).trans g2, (hbx.cell (p := ⟨b1, o1 + k * 3 + 2, none⟩) hbb).trans g3⟩)
          (first
            | (go_at_call 44; (with_reducible refine (HV.out _ hbd.out).mono ?_); rintro e wx ⟨rfl, hbx⟩))
        go_wp2_with fail
        go_ret
        exact ⟨ret_bool (by rw [HR.out, HDR.out, Bool.false_and]), HBW.out.trans ((hbd.out.trans hbx).mono HBW.out.size)⟩
      | true =>
        go_wp2_with fail
        go_region_held3 (fun w' => w'.cell? ⟨w.heap.size, 2, none⟩ = some (.slice (some ⟨b1, o1, none⟩) ts.length cap) ∧ w'.cell? ⟨w.heap.size + 1, 0, none⟩ = some (.int .i64 s.pins) ∧ w'.cell? ⟨w.heap.size + 1, 1, none⟩ = some (.int .i64 s.keys) ∧ w'.cell? ⟨w.heap.size + 1, 2, none⟩ = some (.int .i64 s.state) ∧ w'.cell? ⟨w.heap.size + 1, 3, none⟩ = some (.int .i64 s.level) ∧ w'.cell? ⟨b1, o1 + k * 3, none⟩ = some (.int .i64 t.op) ∧ w'.cell? ⟨b1, o1 + k * 3 + 1, none⟩ = some (.int .i64 t.n) ∧ w'.cell? ⟨b1, o1 + k * 3 + 2, none⟩ = some (.slice A2 t.kids.length c2))
          (first
            | (go_keep; done)
            | exact ⟨(hbx.cell (p := ⟨w.heap.size, 2, none⟩) (show w.heap.size < wr.heap.size by omega)).trans q2, (hbx.cell (p := ⟨w.heap.size + 1, 0, none⟩) (show w.heap.size + 1 < wr.heap.size by omega)).trans s0, (hbx.cell (p := ⟨w.heap.size + 1, 1, none⟩) (show w.heap.size + 1 < wr.heap.size by omega)).trans s1, (hbx.cell (p := ⟨w.heap.size + 1, 2, none⟩) (show w.heap.size + 1 < wr.heap.size by omega)).trans s2, (hbx.cell (p := ⟨w.heap.size + 1, 3, none⟩) (show w.heap.size + 1 < wr.heap.size by omega)).trans s3, (hbx.cell (p := ⟨b1, o1 + k * 3, none⟩) hbb).trans g1, (hbx.cell (p := ⟨b1, o1 + k * 3 + 1, none⟩) hbb).trans g2, (hbx.cell (p := ⟨b1, o1 + k * 3 + 2, none⟩) hbb).trans g3⟩)
          (first
            | (go_at_call 44; (with_reducible refine (HV.out _ hbd.out).mono ?_); rintro e wx ⟨rfl, hbx⟩))
        go_wp2_with fail
        go_roundw
        case rel => exact ⟨k + 1, by omega, by go_num, by show _ = _; rw [HR.out, HDR.out, Bool.true_and], HB.out.trans ((hbd.out.trans hbx).mono hsr)⟩
        case measure => simp [intOf]; omega
    · have HR2 : Hid (allS s ts = true) := by show _ = _; rw [HR.out, show k = ts.length by omega, List.drop_length, allS]
      go_wp2_with fail
      go_ret
      exact ⟨ret_bool HR2.out.symm, HBW.out⟩

set_option maxRecDepth 100000 in
set_option maxHeartbeats 6400000 in
theorem rsl7_any (n : Int) (ts : List Cn) (hC : ∀ (k : Nat) (h : k < ts.length), RsC ts[k]) (hok : okK ts = true) (s : Sc) (v : Value) (w : World) (hk : KL w w.heap.size v ts) :
    Calls Tryd.prog 44 #[.agg #[.int .i64 7, .int .i64 n, v], .agg #[.int .i64 s.pins, .int .i64 s.keys, .int .i64 s.state, .int .i64 s.level]] w fun e w' => e = .returned (.bool (anyS s ts)) ∧ Below w.heap.size w w' := by
  have HCC := Lib.hid hC
  have HOK := Lib.hid hok
  clear hC hok
  obtain ⟨A, cap, rfl, h1, h2, h3⟩ := hk
  unfold maxLen at h2
  have HN0 : Hid (((w.alloc (bx 7 n A ts.length cap)).alloc s.row).heap[w.heap.size + 1]? = some s.row) := by
    have := heap_alloc_new (w.alloc (bx 7 n A ts.length cap)) s.row
    rw [alloc_size] at this
    exact this
  have HN1 := Lib.hid ((Below.heap_alloc (w.alloc (bx 7 n A ts.length cap)) s.row w.heap.size (by rw [alloc_size]; omega)).trans (heap_alloc_new w (bx 7 n A ts.length cap)))
  have HS0 := Lib.hid (show ((w.alloc (bx 7 n A ts.length cap)).alloc s.row).heap.size = w.heap.size + 2 by rw [alloc_size, alloc_size])
  have HS1 := Lib.hid (alloc_size w (bx 7 n A ts.length cap))
  have HB0 := Lib.hid (alloc2_below w (bx 7 n A ts.length cap) s.row)
  go_enter Tryd.func44, Tryd.ntmps44
  go_wp2_with fail
  go_loopw [6] (fun i wr => ∃ (k : Nat), k ≤ ts.length ∧ i = .int .i64 k ∧ Hid (anyS s ts = anyS s (ts.drop k)) ∧ Hid (Below (w.heap.size + 2) ((w.alloc (bx 7 n A ts.length cap)).alloc s.row) wr)) (fun i _ => ts.length - (intOf i).toNat)
  case atStart => exact ⟨0, Nat.zero_le _, rfl, rfl, Below.refl _ _⟩
  case round =>
    obtain ⟨k, hkl, rfl, HR, HB⟩ := hrel
    have hn1 := (HB.out.block w.heap.size (by omega)).trans HN1.out
    have hn2 := (HB.out.block (w.heap.size + 1) (by omega)).trans HN0.out
    have q2 := cell_of_row _ _ 2 _ _ _ hn1
    have s0 := cell_of_row _ _ 0 _ _ _ hn2
    have s1 := cell_of_row _ _ 1 _ _ _ hn2
    have s2 := cell_of_row _ _ 2 _ _ _ hn2
    have s3 := cell_of_row _ _ 3 _ _ _ hn2
    have HBW := Lib.hid (HB0.out.trans (HB.out.mono (by omega)))
    have hsr : w.heap.size + 2 ≤ wr.heap.size := by have := HB.out.size; rw [HS0.out] at this; exact this
    clear hn1 hn2
    by_cases hlt : k < ts.length
    · obtain ⟨b1, o1, rfl, hb1, hts⟩ := h3.out (by omega)
      have hta := CnsAt.get hts hlt
      have hdr := anyS_drop s ts k hlt
      have hcc := HCC.out k hlt
      have hokt := okK_get ts k hlt HOK.out
      obtain ⟨t, ht⟩ : ∃ t, t = ts[k] := ⟨_, rfl⟩
      rw [← ht] at hta hdr hcc hokt
      have hta' := CnAt.keep HBW.out.size (fun p hp => HBW.out.cell hp) t b1 _ hb1 hta
      obtain ⟨A2, c2, g1, g2, g3, hu⟩ := hta'.cells
      have HV : Hid (∀ W, Below wr.heap.size wr W → Calls Tryd.prog 44 #[.agg #[.int .i64 t.op, .int .i64 t.n, .slice A2 t.kids.length c2], .agg #[.int .i64 s.pins, .int .i64 s.keys, .int .i64 s.state, .int .i64 s.level]] W fun e w' => e = .returned (.bool (t.sat s)) ∧ Below W.heap.size W w') := fun W hW => hcc s _ W hokt (hu.on hW)
      have HDR := Lib.hid hdr
      have hbd := Lib.hid ((Below.refl wr.heap.size wr).drew)
      clear hta hta' hts ht hu hdr hcc hokt
      generalize t.sat s = X at *
      have i1 : (0 : Int) ≤ (k : Int) := by omega
      have i2 : (k : Int) < (ts.length : Int) := by omega
      have hbb : b1 < wr.heap.size := by omega
      cases X with
      | true =>
        go_wp2_with fail
        go_region_held3 (fun w' => w'.cell? ⟨w.heap.size, 2, none⟩ = some (.slice (some ⟨b1, o1, none⟩) ts.length cap) ∧ w'.cell? ⟨w.heap.size + 1, 0, none⟩ = some (.int .i64 s.pins) ∧ w'.cell? ⟨w.heap.size + 1, 1, none⟩ = some (.int .i64 s.keys) ∧ w'.cell? ⟨w.heap.size + 1, 2, none⟩ = some (.int .i64 s.state) ∧ w'.cell? ⟨w.heap.size + 1, 3, none⟩ = some (.int .i64 s.level) ∧ w'.cell? ⟨b1, o1 + k * 3, none⟩ = some (.int .i64 t.op) ∧ w'.cell? ⟨b1, o1 + k * 3 + 1, none⟩ = some (.int .i64 t.n) ∧ w'.cell? ⟨b1, o1 + k * 3 + 2, none⟩ = some (.slice A2 t.kids.length c2))
          (first
            | (go_keep; done)
            | exact ⟨(hbx.cell (p := ⟨w.heap.size, 2, none⟩) (show w.heap.size < wr.heap.size by omega)).trans q2, (hbx.cell (p := ⟨w.heap.size + 1, 0, none⟩) (show w.heap.size + 1 < wr.heap.size by omega)).trans s0, (hbx.cell (p := ⟨w.heap.size + 1, 1, none⟩) (show w.heap.size + 1 < wr.heap.size by omega)).trans s1, (hbx.cell (p := ⟨w.heap.size + 1, 2, none⟩) (show w.heap.size + 1 < wr.heap.size by omega)).trans s2, (hbx.cell (p := ⟨w.heap.size + 1, 3, none⟩) (show w.heap.size + 1 < wr.heap.size by omega)).trans s3, (hbx.cell (p := ⟨b1, o1 + k * 3, none⟩) hbb).trans g1, (hbx.cell (p := ⟨b1, o1 + k * 3 + 1, none⟩) hbb).trans g2, (hbx.cell (p := ⟨b1, o1 + k * 3 + 2, none⟩) hbb).trans g3⟩)
          (first
            | (go_at_call 44; (with_reducible refine (HV.out _ hbd.out).mono ?_); rintro e wx ⟨rfl, hbx⟩))
        go_wp2_with fail
        go_ret
        exact ⟨ret_bool (by rw [HR.out, HDR.out, Bool.true_or]), HBW.out.trans ((hbd.out.trans hbx).mono HBW.out.size)⟩
      | false =>
        go_wp2_with fail
        go_region_held3 (fun w' => w'.cell? ⟨w.heap.size, 2, none⟩ = some (.slice (some ⟨b1, o1, none⟩) ts.length cap) ∧ w'.cell? ⟨w.heap.size + 1, 0, none⟩ = some (.int .i64 s.pins) ∧ w'.cell? ⟨w.heap.size + 1, 1, none⟩ = some (.int .i64 s.keys) ∧ w'.cell? ⟨w.heap.size + 1, 2, none⟩ = some (.int .i64 s.state) ∧ w'.cell? ⟨w.heap.size + 1, 3, none⟩ = some (.int .i64 s.level) ∧ w'.cell? ⟨b1, o1 + k * 3, none⟩ = some (.int .i64 t.op) ∧ w'.cell? ⟨b1, o1 + k * 3 + 1, none⟩ = some (.int .i64 t.n) ∧ w'.cell? ⟨b1, o1 + k * 3 + 2, none⟩ = some (.slice A2 t.kids.length c2))
          (first
            | (go_keep; done)
            | exact ⟨(hbx.cell (p := ⟨w.heap.size, 2, none⟩) (show w.heap.size < wr.heap.size by omega)).trans q2, (hbx.cell (p := ⟨w.heap.size + 1, 0, none⟩) (show w.heap.size + 1 < wr.heap.size by omega)).trans s0, (hbx.cell (p := ⟨w.heap.size + 1, 1, none⟩) (show w.heap.size + 1 < wr.heap.size by omega)).trans s1, (hbx.cell (p := ⟨w.heap.size + 1, 2, none⟩) (show w.heap.size + 1 < wr.heap.size by omega)).trans s2, (hbx.cell (p := ⟨w.heap.size + 1, 3, none⟩) (show w.heap.size + 1 < wr.heap.size by omega)).trans s3, (hbx.cell (p := ⟨b1, o1 + k * 3, none⟩) hbb).trans g1, (hbx.cell (p := ⟨b1, o1 + k * 3 + 1, none⟩) hbb).trans g2, (hbx.cell (p := ⟨b1, o1 + k * 3 + 2, none⟩) hbb).trans g3⟩)
          (first
            | (go_at_call 44; (with_reducible refine (HV.out _ hbd.out).mono ?_); rintro e wx ⟨rfl, hbx⟩))
        go_wp2_with fail
        go_roundw
        case rel => exact ⟨k + 1, by omega, by go_num, by show _ = _; rw [HR.out, HDR.out, Bool.false_or], HB.out.trans ((hbd.out.trans hbx).mono hsr)⟩
        case measure => simp [intOf]; omega
    · have HR2 : Hid (anyS s ts = false) := by show _ = _; rw [HR.out, show k = ts.length by omega, List.drop_length, anyS]
      go_wp2_with fail
      go_ret
      exact ⟨ret_bool HR2.out.symm, HBW.out⟩

theorem rs_step (c : Cn) (ih : ∀ c' : Cn, c'.dep < c.dep → RsC c') : RsC c := by
  intro s v w hok hk
  have hs := sat_parts s c
  have hp := ok_parts c
  rw [hok] at hp
  have hp' : okN c.op c.n c.kids.length = true ∧ okK c.kids = true := by simpa using hp.symm
  have ho := okN_op hp'.1
  have hC : ∀ (k : Nat) (h : k < c.kids.length), RsC c.kids[k] := fun k h => ih _ (by have := depK_get c.kids k h; have := dep_kids c; omega)
  obtain ⟨A, cap, rfl, h1, h2, h3⟩ := id hk
  obtain ⟨op, n, ts⟩ := c
  simp only [Cn.op, Cn.n, Cn.kids] at *
  rw [hs]
  rcases ho with ⟨rfl | rfl | rfl | rfl | rfl | rfl | rfl | rfl, h2, h4, h5, _⟩
  · exact rs0_any n A _ cap s w
  · exact rs1_any n A _ cap s w
  · exact rs2_any n A _ cap s w (by omega) (by omega)
  · exact rs3_any n A _ cap s w (by omega) (by omega)
  · exact rs4_any n A _ cap s w
  · exact rs5_any n A _ cap s w
  · exact rsl6_any n ts hC hp'.2 s _ w hk
  · exact rsl7_any n ts hC hp'.2 s _ w hk
theorem rs_any : ∀ (n : Nat) (c : Cn), c.dep < n → RsC c
  | 0, c, h => absurd h (by omega)
  | n + 1, c, h => rs_step c fun c' h' => rs_any n c' (by omega)

set_option maxRecDepth 100000 in
set_option maxHeartbeats 1600000 in
theorem rholds_any (c : Cn) (s : Sc) (v : Value) (w : World) (hk : KL w w.heap.size v c.kids) (hc : c.cnt ≤ 400) :
    Calls Tryd.prog 20 #[.agg #[.int .i64 c.op, .int .i64 c.n, v], .agg #[.int .i64 s.pins, .int .i64 s.keys, .int .i64 s.state, .int .i64 s.level]] w fun e w' => e = .returned (.bool (holdB s c)) ∧ Below w.heap.size w w' := by
  obtain ⟨A, cap, rfl, _, _, _⟩ := id hk
  have ha := alloc2_below w (Obj.cells #[Value.int IntKind.i64 c.op, Value.int IntKind.i64 c.n, Value.slice A c.kids.length cap] 24) s.row
  have hn0 := heap_alloc_new (w.alloc (Obj.cells #[Value.int IntKind.i64 c.op, Value.int IntKind.i64 c.n, Value.slice A c.kids.length cap] 24)) s.row
  rw [alloc_size] at hn0
  have hn1 := (Below.heap_alloc (w.alloc (Obj.cells #[Value.int IntKind.i64 c.op, Value.int IntKind.i64 c.n, Value.slice A c.kids.length cap] 24)) s.row w.heap.size (by rw [alloc_size]; omega)).trans (heap_alloc_new w (Obj.cells #[Value.int IntKind.i64 c.op, Value.int IntKind.i64 c.n, Value.slice A c.kids.length cap] 24))
  have hsz : ((w.alloc (Obj.cells #[Value.int IntKind.i64 c.op, Value.int IntKind.i64 c.n, Value.slice A c.kids.length cap] 24)).alloc s.row).heap.size = w.heap.size + 2 := by rw [alloc_size, alloc_size]
  have HQ := Lib.hid (rchk_any c _ _ (hk.on ha) hc)
  have HH := Lib.hid fun (W : World) (hok : c.ok = true) hk' => rs_any (c.dep + 1) c (by omega) s (.slice A c.kids.length cap) W hok hk'
  have HB : Hid (holdB s c = (decide (chkC 1 3 c = 0) && c.sat s)) := rfl
  have HO := Lib.hid (@chk_ok c)
  have HA := Lib.hid ha
  have HN0 := Lib.hid hn0
  have HN1 := Lib.hid hn1
  have HK := Lib.hid (hk.on ha)
  have HSZ := Lib.hid hsz
  clear ha hn0 hn1 hk hsz
  generalize hE : chkC 1 3 c = E at *
  have HE := Lib.hid hE
  clear hE
  by_cases h0 : E = 0
  · subst h0
    go_enter Tryd.func20, Tryd.ntmps20
    go_wp2_with fail
    refine HQ.out.mono ?_
    rintro e w1 ⟨rfl, hb1⟩
    have k0 := (hb1.block (w.heap.size + 1) (by rw [HSZ.out]; omega)).trans HN0.out
    have k1 := (hb1.block w.heap.size (by rw [HSZ.out]; omega)).trans HN1.out
    have g0 := cell_of_row _ _ 0 _ _ _ k0
    have g1 := cell_of_row _ _ 1 _ _ _ k0
    have g2 := cell_of_row _ _ 2 _ _ _ k0
    have g3 := cell_of_row _ _ 3 _ _ _ k0
    have q0 := cell_of_row _ _ 0 _ _ _ k1
    have q1 := cell_of_row _ _ 1 _ _ _ k1
    have q2 := cell_of_row _ _ 2 _ _ _ k1
    have HH2 := Lib.hid (HH.out w1 (HO.out (by first | exact trivial | rfl)) (HK.out.on hb1))
    have HB1 := Lib.hid (HA.out.trans (hb1.mono HA.out.size))
    clear k0 k1 hb1
    generalize c.sat s = X at *
    go_wp2_with fail
    refine HH2.out.mono ?_
    rintro e w2 ⟨rfl, hb2⟩
    go_wp2_with fail
    go_ret
    exact ⟨ret_bool (by rw [HB.out]; simp), HB1.out.trans (hb2.mono HB1.out.size)⟩
  · have h0b : (E == 0) = false := by simpa using h0
    have h0d : decide (E = 0) = false := decide_eq_false h0
    go_enter Tryd.func20, Tryd.ntmps20
    go_wp2_with fail
    refine HQ.out.mono ?_
    rintro e w1 ⟨rfl, hb1⟩
    go_wp2_with fail
    go_ret
    exact ⟨ret_bool (by rw [HB.out]; simp [h0]), HA.out.trans (hb1.mono HA.out.size)⟩
end Go.Proofs.YtjkbfogjfgnhiaaDoor
