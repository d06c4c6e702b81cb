/-
  The walks of the laws' left and few, of the reference's nodes and depth.
-/
import Derived.Test.YtjkbfogjfgnhiaaDoorHoc
namespace Go.Proofs.YtjkbfogjfgnhiaaDoor
set_option linter.unusedVariables false
set_option linter.unusedSimpArgs false
open Go.RowKit

/-- A condition, boxed. -/
def bx (op n : Int) (A : Option Addr) (K cap : Nat) : Obj := .cells #[.int .i64 op, .int .i64 n, .slice A K cap] 24 (0, 0)

def LeftC (c : Cn) : Prop := ∀ (v : Value) (b : Int) (w : World), 0 ≤ b → b ≤ 200 → KL w w.heap.size v c.kids →
  Calls Tryd.prog 38 #[.agg #[.int .i64 c.op, .int .i64 c.n, v], .int .i64 b] w fun e w' => e = .returned (.int .i64 (c.left b)) ∧ Below w.heap.size w w'

set_option maxRecDepth 100000 in
set_option maxHeartbeats 3200000 in
theorem left_step (c : Cn) (ih : ∀ c' : Cn, c'.dep < c.dep → LeftC c') : LeftC c := by
  obtain ⟨op, n, ts⟩ := c
  intro v b0 w hb1 hb2 hk
  have hkd := dep_kids (.mk op n ts)
  have HL := Lib.hid (left_parts (.mk op n ts) b0)
  have IH := Lib.hid ih
  clear ih
  simp only [Cn.kids, Cn.op, Cn.n] at hk hkd HL ⊢
  generalize (Cn.mk op n ts).left b0 = R at *
  generalize (Cn.mk op n ts).dep = DD at *
  obtain ⟨A, cap, rfl, h1, h2, h3⟩ := hk
  unfold maxLen at h2
  have hn0 := heap_alloc_new w (bx op n A ts.length cap)
  have hs0 := alloc_size w (bx op n A ts.length cap)
  have hb0 := alloc_below w (bx op n A ts.length cap)
  have HN0 := Lib.hid hn0
  have HS0 := Lib.hid hs0
  have HB0 := Lib.hid hb0
  clear hn0 hs0 hb0
  go_enter Tryd.func38, Tryd.ntmps38
  go_wp2_with fail
  go_loopw [1, 5] (fun bv i wr => ∃ (k : Nat) (b : Int), k ≤ ts.length ∧ i = .int .i64 k ∧ bv = .int .i64 b ∧ -1 ≤ b ∧ b ≤ 200 ∧ Hid (R = leftK (ts.drop k) b) ∧ Hid (Below (w.heap.size + 1) (w.alloc (bx op n A ts.length cap)) wr)) (fun _ i _ => ts.length - (intOf i).toNat)
  case atStart => exact ⟨0, b0 - 1, Nat.zero_le _, rfl, rfl, by omega, by omega, HL, Below.refl _ _⟩
  case round =>
    obtain ⟨k, b, hkl, rfl, rfl, r1, r2, HR, HB⟩ := hrel
    have hn1 := (HB.out.block w.heap.size (by omega)).trans HN0.out
    have q2 := cell_of_row _ _ 2 _ _ _ hn1
    have hbw := HB0.out.trans (HB.out.mono (by omega))
    have HBW := Lib.hid hbw
    clear hn1 hbw
    by_cases hlt : k < ts.length
    · by_cases hbn : 0 ≤ b
      · obtain ⟨b1, o1, rfl, hb1, hts⟩ := h3.out (by omega)
        have hta := CnsAt.get hts hlt
        have hdp := depK_get ts k hlt
        have hdr := leftK_drop ts k hlt b hbn
        obtain ⟨t, ht⟩ : ∃ t, t = ts[k] := ⟨_, rfl⟩
        rw [← ht] at hta hdp hdr
        have hta' := CnAt.keep HBW.out.size (fun p hp => HBW.out.cell hp) t b1 _ hb1 hta
        obtain ⟨A2, c2, g1, g2, g3, hu⟩ := hta'.cells
        have hrg := Cn.left_range t b hbn r2
        have HV := Lib.hid (IH.out t (by omega) (.slice A2 t.kids.length c2) b wr hbn r2 hu)
        have HDR := Lib.hid hdr
        clear hta hta' hts ht hu hdr
        generalize t.left b = Z at *
        go_wp2_with fail
        refine HV.out.mono ?_
        rintro e w2 ⟨rfl, hb2⟩
        have HB2 := Lib.hid (HB.out.trans (hb2.mono (show w.heap.size + 1 ≤ wr.heap.size by have := HB.out.size; rw [HS0.out] at this; exact this)))
        clear hb2
        go_wp2_with fail
        go_roundw
        case rel => exact ⟨k + 1, Z, by omega, by go_num, rfl, hrg.1, hrg.2.1, by show _ = _; rw [HR.out, HDR.out], HB2⟩
        case measure => simp [intOf]; omega
      · have HR2 : Hid (R = b) := by show _ = _; rw [HR.out, leftK_neg _ _ (by omega)]
        have hneg : b < 0 := by omega
        go_wp2_with fail
        go_ret
        exact ⟨ret_int HR2.out.symm, HBW.out⟩
    · have HR2 : Hid (R = b) := by show _ = _; rw [HR.out, show k = ts.length by omega, List.drop_length, leftK]
      go_wp2_with fail
      go_ret
      exact ⟨ret_int HR2.out.symm, HBW.out⟩
theorem left_any : ∀ (n : Nat) (c : Cn), c.dep < n → LeftC c
  | 0, c, h => absurd h (by omega)
  | n + 1, c, h => left_step c fun c' h' => left_any n c' (by omega)

set_option maxRecDepth 100000 in
set_option maxHeartbeats 1600000 in
theorem few_any (ts : List Cn) (v : Value) (w : World) (hk : KL w w.heap.size v ts) :
    Calls Tryd.prog 15 #[v] w fun e w' => e = .returned (.bool (ts.all fewB)) ∧ Below w.heap.size w w' := by
  obtain ⟨A, cap, rfl, h1, h2, h3⟩ := hk
  unfold maxLen at h2
  go_enter Tryd.func15, Tryd.ntmps15
  go_wp2_with fail
  go_loopw [3] (fun i wr => ∃ (k : Nat), k ≤ ts.length ∧ i = .int .i64 k ∧ Hid (ts.all fewB = (ts.drop k).all fewB) ∧ Hid (Below w.heap.size w wr)) (fun i _ => ts.length - (intOf i).toNat)
  case atStart => exact ⟨0, Nat.zero_le _, rfl, rfl, Below.refl _ _⟩
  case round =>
    obtain ⟨k, hkl, rfl, HR, HB⟩ := hrel
    by_cases hlt : k < ts.length
    · obtain ⟨b1, o1, rfl, hb1, hts⟩ := h3.out (by omega)
      have hta := CnsAt.get hts hlt
      have hdr : (ts.drop k).all fewB = (fewB ts[k] && (ts.drop (k + 1)).all fewB) := by rw [List.drop_eq_getElem_cons hlt, List.all_cons]
      obtain ⟨t, ht⟩ : ∃ t, t = ts[k] := ⟨_, rfl⟩
      rw [← ht] at hta hdr
      have hta' := CnAt.keep HB.out.size (fun p hp => HB.out.cell hp) t b1 _ hb1 hta
      obtain ⟨A2, c2, g1, g2, g3, hu⟩ := hta'.cells
      have HV := Lib.hid (left_any (t.dep + 1) t (by omega) (.slice A2 t.kids.length c2) 200 wr (by omega) (by omega) hu)
      have HF : Hid (fewB t = decide (0 ≤ t.left 200)) := rfl
      have HDR := Lib.hid hdr
      clear hta hta' hts ht hu hdr
      generalize t.left 200 = Z at *
      by_cases hz : 0 ≤ Z
      · have HF2 : Hid (fewB t = true) := by show _ = _; rw [HF.out]; exact decide_eq_true hz
        go_wp2_with fail
        refine HV.out.mono ?_
        rintro e w2 ⟨rfl, hb2⟩
        have HB2 := Lib.hid (HB.out.trans (hb2.mono HB.out.size))
        clear hb2
        go_wp2_with fail
        go_roundw
        case rel => exact ⟨k + 1, by omega, by go_num, by show _ = _; rw [HR.out, HDR.out, HF2.out, Bool.true_and], HB2⟩
        case measure => simp [intOf]; omega
      · have HF2 : Hid (fewB t = false) := by show _ = _; rw [HF.out]; exact decide_eq_false hz
        have hz2 : Z < 0 := by omega
        go_wp2_with fail
        refine HV.out.mono ?_
        rintro e w2 ⟨rfl, hb2⟩
        have HB2 := Lib.hid (HB.out.trans (hb2.mono HB.out.size))
        clear hb2
        go_wp2_with fail
        go_ret
        exact ⟨ret_bool (by rw [HR.out, HDR.out, HF2.out, Bool.false_and]), HB2.out⟩
    · have HR2 : Hid (ts.all fewB = true) := by show _ = _; rw [HR.out, show k = ts.length by omega, List.drop_length, List.all_nil]
      go_wp2_with fail
      go_ret
      exact ⟨ret_bool HR2.out.symm, HB.out⟩

def NodC (c : Cn) : Prop := ∀ (v : Value) (w : World), c.cnt ≤ 400 → KL w w.heap.size v c.kids →
  Calls Tryd.prog 41 #[.agg #[.int .i64 c.op, .int .i64 c.n, v]] w fun e w' => e = .returned (.int .i64 (c.cnt : Int)) ∧ Below w.heap.size w w'
set_option maxRecDepth 100000 in
set_option maxHeartbeats 3200000 in
theorem nod_step (c : Cn) (ih : ∀ c' : Cn, c'.dep < c.dep → NodC c') : NodC c := by
  obtain ⟨op, n, ts⟩ := c
  intro v w hcn hk
  have hkd := dep_kids (.mk op n ts)
  have hkc := cnt_kids (.mk op n ts)
  have IH := Lib.hid ih
  clear ih
  simp only [Cn.kids, Cn.op, Cn.n] at hk hkd hkc ⊢
  generalize (Cn.mk op n ts).cnt = R at *
  generalize (Cn.mk op n ts).dep = DD at *
  obtain ⟨A, cap, rfl, h1, h2, h3⟩ := hk
  unfold maxLen at h2
  have HN0 := Lib.hid (heap_alloc_new w (bx op n A ts.length cap))
  have HS0 := Lib.hid (alloc_size w (bx op n A ts.length cap))
  have HB0 := Lib.hid (alloc_below w (bx op n A ts.length cap))
  go_enter Tryd.func41, Tryd.ntmps41
  go_wp2_with fail
  go_loopw [3, 4] (fun m i wr => ∃ (k M : Nat), k ≤ ts.length ∧ i = .int .i64 k ∧ m = .int .i64 M ∧ M + cntK (ts.drop k) = R ∧ Hid (Below (w.heap.size + 1) (w.alloc (bx op n A ts.length cap)) wr)) (fun _ i _ => ts.length - (intOf i).toNat)
  case atStart => exact ⟨0, 1, Nat.zero_le _, rfl, rfl, by rw [List.drop_zero]; omega, Below.refl _ _⟩
  case round =>
    obtain ⟨k, M, hkl, rfl, rfl, hM, HB⟩ := hrel
    have hn1 := (HB.out.block w.heap.size (by omega)).trans HN0.out
    have q2 := cell_of_row _ _ 2 _ _ _ hn1
    have HBW := Lib.hid (HB0.out.trans (HB.out.mono (by omega)))
    clear hn1
    by_cases hlt : k < ts.length
    · obtain ⟨b1, o1, rfl, hb1, hts⟩ := h3.out (by omega)
      have hta := CnsAt.get hts hlt
      have hdp := depK_get ts k hlt
      have hdr := cntK_drop ts k hlt
      obtain ⟨t, ht⟩ : ∃ t, t = ts[k] := ⟨_, rfl⟩
      rw [← ht] at hta hdp hdr
      have hta' := CnAt.keep HBW.out.size (fun p hp => HBW.out.cell hp) t b1 _ hb1 hta
      obtain ⟨A2, c2, g1, g2, g3, hu⟩ := hta'.cells
      have HV := Lib.hid (IH.out t (by omega) (.slice A2 t.kids.length c2) wr (by omega) hu)
      have hM2 : M + t.cnt + cntK (ts.drop (k + 1)) = R := by omega
      have HM2 := Lib.hid hM2
      have hz1 : M + t.cnt ≤ 400 := by omega
      clear hta hta' hts ht hu hdr hM hM2
      generalize t.cnt = Z at *
      go_wp2_with fail
      refine HV.out.mono ?_
      rintro e w2 ⟨rfl, hb2⟩
      have HB2 := Lib.hid (HB.out.trans (hb2.mono (show w.heap.size + 1 ≤ wr.heap.size by have := HB.out.size; rw [HS0.out] at this; exact this)))
      clear hb2
      go_wp2_with fail
      go_roundw
      case rel => exact ⟨k + 1, M + Z, by omega, by go_num, by go_num, HM2.out, HB2⟩
      case measure => simp [intOf]; omega
    · have HR2 : Hid ((M : Int) = (R : Int)) := by
        show _ = _
        rw [show k = ts.length by omega, List.drop_length, cntK] at hM
        omega
      clear hM
      go_wp2_with fail
      go_ret
      exact ⟨ret_int HR2.out, HBW.out⟩
theorem nod_any : ∀ (n : Nat) (c : Cn), c.dep < n → NodC c
  | 0, c, h => absurd h (by omega)
  | n + 1, c, h => nod_step c fun c' h' => nod_any n c' (by omega)

def DepC (c : Cn) : Prop := ∀ (v : Value) (w : World), c.dep ≤ 400 → KL w w.heap.size v c.kids →
  Calls Tryd.prog 42 #[.agg #[.int .i64 c.op, .int .i64 c.n, v]] w fun e w' => e = .returned (.int .i64 (c.dep : Int)) ∧ Below w.heap.size w w'
set_option maxRecDepth 100000 in
set_option maxHeartbeats 3200000 in
theorem dep_step (c : Cn) (ih : ∀ c' : Cn, c'.dep < c.dep → DepC c') : DepC c := by
  obtain ⟨op, n, ts⟩ := c
  intro v w hcn hk
  have hkd := dep_kids (.mk op n ts)
  have IH := Lib.hid ih
  clear ih
  simp only [Cn.kids, Cn.op, Cn.n] at hk hkd ⊢
  generalize (Cn.mk op n ts).dep = R at *
  obtain ⟨A, cap, rfl, h1, h2, h3⟩ := hk
  unfold maxLen at h2
  have HN0 := Lib.hid (heap_alloc_new w (bx op n A ts.length cap))
  have HS0 := Lib.hid (alloc_size w (bx op n A ts.length cap))
  have HB0 := Lib.hid (alloc_below w (bx op n A ts.length cap))
  go_enter Tryd.func42, Tryd.ntmps42
  go_wp2_with fail
  go_loopw [3, 4] (fun m i wr => ∃ (k M : Nat), k ≤ ts.length ∧ i = .int .i64 k ∧ m = .int .i64 M ∧ max M (depK (ts.drop k)) + 1 = R ∧ Hid (Below (w.heap.size + 1) (w.alloc (bx op n A ts.length cap)) wr)) (fun _ i _ => ts.length - (intOf i).toNat)
  case atStart => exact ⟨0, 0, Nat.zero_le _, rfl, rfl, by rw [List.drop_zero]; omega, Below.refl _ _⟩
  case round =>
    obtain ⟨k, M, hkl, rfl, rfl, hM, HB⟩ := hrel
    have hn1 := (HB.out.block w.heap.size (by omega)).trans HN0.out
    have q2 := cell_of_row _ _ 2 _ _ _ hn1
    have HBW := Lib.hid (HB0.out.trans (HB.out.mono (by omega)))
    clear hn1
    by_cases hlt : k < ts.length
    · obtain ⟨b1, o1, rfl, hb1, hts⟩ := h3.out (by omega)
      have hta := CnsAt.get hts hlt
      have hdp := depK_get ts k hlt
      have hdr := depK_drop ts k hlt
      obtain ⟨t, ht⟩ : ∃ t, t = ts[k] := ⟨_, rfl⟩
      rw [← ht] at hta hdp hdr
      have hta' := CnAt.keep HBW.out.size (fun p hp => HBW.out.cell hp) t b1 _ hb1 hta
      obtain ⟨A2, c2, g1, g2, g3, hu⟩ := hta'.cells
      have HV := Lib.hid (IH.out t (by omega) (.slice A2 t.kids.length c2) wr (by omega) hu)
      have HM2 := Lib.hid (show max (max M t.dep) (depK (ts.drop (k + 1))) + 1 = R by omega)
      clear hta hta' hts ht hu hdr hM
      generalize t.dep = Z at *
      by_cases hmz : M < Z
      · have HMX := Lib.hid (show max M Z = Z by omega)
        go_wp2_with fail
        refine HV.out.mono ?_
        rintro e w2 ⟨rfl, hb2⟩
        have HB2 := Lib.hid (HB.out.trans (hb2.mono (show w.heap.size + 1 ≤ wr.heap.size by have := HB.out.size; rw [HS0.out] at this; exact this)))
        clear hb2
        go_wp2_with fail
        go_roundw
        case rel => exact ⟨k + 1, Z, by omega, by go_num, rfl, by rw [← HMX.out]; exact HM2.out, HB2⟩
        case measure => simp [intOf]; omega
      · have HMX := Lib.hid (show max M Z = M by omega)
        go_wp2_with fail
        refine HV.out.mono ?_
        rintro e w2 ⟨rfl, hb2⟩
        have HB2 := Lib.hid (HB.out.trans (hb2.mono (show w.heap.size + 1 ≤ wr.heap.size by have := HB.out.size; rw [HS0.out] at this; exact this)))
        clear hb2
        go_wp2_with fail
        go_roundw
        case rel => exact ⟨k + 1, M, by omega, by go_num, rfl, by have := HM2.out; rw [HMX.out] at this; exact this, HB2⟩
        case measure => simp [intOf]; omega
    · have HR2 : Hid (((M : Int) + 1) = (R : Int)) := by
        show _ = _
        rw [show k = ts.length by omega, List.drop_length, depK] at hM
        omega
      have hM2 : M ≤ 400 := by omega
      clear hM
      go_wp2_with fail
      go_ret
      exact ⟨ret_int HR2.out, HBW.out⟩
theorem dep_any : ∀ (n : Nat) (c : Cn), c.dep < n → DepC c
  | 0, c, h => absurd h (by omega)
  | n + 1, c, h => dep_step c fun c' h' => dep_any n c' (by omega)
end Go.Proofs.YtjkbfogjfgnhiaaDoor
