
/-
  The walks of the laws' left and few, of the reference's nodes and depth.
-/
import Derived.Test.YtkjcafhaenkpbaaDoorHoc
namespace Go.Proofs.YtkjcafhaenkpbaaDoor
set_option linter.unusedVariables false
set_option linter.unusedSimpArgs false
open Go.RowKit

/-- A condition, boxed. -/
def bx (op n : Int) (A : Option Addr) (K cap : Nat) : Obj := .cells #[.int .i64 op, .int .i64 n, .slice A K cap] 46 (0, 0)

def NodC (c : Cn) : Prop := ∀ (v : Value) (w : World), c.cnt ≤ 3000000 → KL w w.heap.size v c.kids →
  Calls Tryd.prog 78 #[.agg #[.int .i64 c.op, .int .i64 c.n, v]] w fun e w' => e = .returned (.int .i64 (c.cnt : Int)) ∧ Below w.heap.size w w'
set_option maxRecDepth 100000 in
set_option maxHeartbeats 3200000 in
theorem nod_step (c : Cn) (ih : ∀ c' : Cn, c'.dep < c.dep → NodC c') : NodC c := by
  obtain ⟨op, n, ts⟩ := c
  intro v w hcn hk
  have hkd := dep_kids (.mk op n ts)
  have hkc := cnt_kids (.mk op n ts)
  have IH := Lib.hid ih
  clear ih
  simp only [Cn.kids, Cn.op, Cn.n] at hk hkd hkc ⊢
  generalize (Cn.mk op n ts).cnt = R at *
  generalize (Cn.mk op n ts).dep = DD at *
  obtain ⟨A, cap, rfl, h1, h2, h3⟩ := hk
  unfold maxLen at h2
  have HN0 := Lib.hid (heap_alloc_new w (bx op n A ts.length cap))
  have HS0 := Lib.hid (alloc_size w (bx op n A ts.length cap))
  have HB0 := Lib.hid (alloc_below w (bx op n A ts.length cap))
  go_enter Tryd.func78, Tryd.ntmps78
  go_wp2_with fail
  go_loopw [3, 4] (fun m i wr => ∃ (k M : Nat), k ≤ ts.length ∧ i = .int .i64 k ∧ m = .int .i64 M ∧ M + cntK (ts.drop k) = R ∧ Hid (Below (w.heap.size + 1) (w.alloc (bx op n A ts.length cap)) wr)) (fun _ i _ => ts.length - (intOf i).toNat)
  case atStart => exact ⟨0, 1, Nat.zero_le _, rfl, rfl, by rw [List.drop_zero]; omega, Below.refl _ _⟩
  case round =>
    obtain ⟨k, M, hkl, rfl, rfl, hM, HB⟩ := hrel
    have hn1 := (HB.out.block w.heap.size (by omega)).trans HN0.out
    have q2 := cell_of_row _ _ 2 _ _ _ hn1
    have HBW := Lib.hid (HB0.out.trans (HB.out.mono (by omega)))
    clear hn1
    by_cases hlt : k < ts.length
    · obtain ⟨b1, o1, rfl, hb1, hts⟩ := h3.out (by omega)
      have hta := CnsAt.get hts hlt
      have hdp := depK_get ts k hlt
      have hdr := cntK_drop ts k hlt
      obtain ⟨t, ht⟩ : ∃ t, t = ts[k] := ⟨_, rfl⟩
      rw [← ht] at hta hdp hdr
      have hta' := CnAt.keep HBW.out.size (fun p hp => HBW.out.cell hp) t b1 _ hb1 hta
      obtain ⟨A2, c2, g1, g2, g3, hu⟩ := hta'.cells
      have HV := Lib.hid (IH.out t (by omega) (.slice A2 t.kids.length c2) wr (by omega) hu)
      have hM2 : M + t.cnt + cntK (ts.drop (k + 1)) = R := by omega
      have HM2 := Lib.hid hM2
      have hz1 : M + t.cnt ≤ 3000000 := by omega
      clear hta hta' hts ht hu hdr hM hM2
      generalize t.cnt = Z at *
      go_wp2_with fail
      refine HV.out.mono ?_
      rintro e w2 ⟨rfl, hb2⟩
      have HB2 := Lib.hid (HB.out.trans (hb2.mono (show w.heap.size + 1 ≤ wr.heap.size by have := HB.out.size; rw [HS0.out] at this; exact this)))
      clear hb2
      go_wp2_with fail
      go_roundw
      case rel => exact ⟨k + 1, M + Z, by omega, by go_num, by go_num, HM2.out, HB2⟩
      case measure => simp [intOf]; omega
    · have HR2 : Hid ((M : Int) = (R : Int)) := by
        show _ = _
        rw [show k = ts.length by omega, List.drop_length, cntK] at hM
        omega
      clear hM
      go_wp2_with fail
      go_ret
      exact ⟨ret_int HR2.out, HBW.out⟩
theorem nod_any : ∀ (n : Nat) (c : Cn), c.dep < n → NodC c
  | 0, c, h => absurd h (by omega)
  | n + 1, c, h => nod_step c fun c' h' => nod_any n c' (by omega)

def DepC (c : Cn) : Prop := ∀ (v : Value) (w : World), c.dep ≤ 3000000 → KL w w.heap.size v c.kids →
  Calls Tryd.prog 79 #[.agg #[.int .i64 c.op, .int .i64 c.n, v]] w fun e w' => e = .returned (.int .i64 (c.dep : Int)) ∧ Below w.heap.size w w'
set_option maxRecDepth 100000 in
set_option maxHeartbeats 3200000 in
theorem dep_step (c : Cn) (ih : ∀ c' : Cn, c'.dep < c.dep → DepC c') : DepC c := by
  obtain ⟨op, n, ts⟩ := c
  intro v w hcn hk
  have hkd := dep_kids (.mk op n ts)
  have IH := Lib.hid ih
  clear ih
  simp only [Cn.kids, Cn.op, Cn.n] at hk hkd ⊢
  generalize (Cn.mk op n ts).dep = R at *
  obtain ⟨A, cap, rfl, h1, h2, h3⟩ := hk
  unfold maxLen at h2
  have HN0 := Lib.hid (heap_alloc_new w (bx op n A ts.length cap))
  have HS0 := Lib.hid (alloc_size w (bx op n A ts.length cap))
  have HB0 := Lib.hid (alloc_below w (bx op n A ts.length cap))
  go_enter Tryd.func79, Tryd.ntmps79
  go_wp2_with fail
  go_loopw [3, 4] (fun m i wr => ∃ (k M : Nat), k ≤ ts.length ∧ i = .int .i64 k ∧ m = .int .i64 M ∧ max M (depK (ts.drop k)) + 1 = R ∧ Hid (Below (w.heap.size + 1) (w.alloc (bx op n A ts.length cap)) wr)) (fun _ i _ => ts.length - (intOf i).toNat)
  case atStart => exact ⟨0, 0, Nat.zero_le _, rfl, rfl, by rw [List.drop_zero]; omega, Below.refl _ _⟩
  case round =>
    obtain ⟨k, M, hkl, rfl, rfl, hM, HB⟩ := hrel
    have hn1 := (HB.out.block w.heap.size (by omega)).trans HN0.out
    have q2 := cell_of_row _ _ 2 _ _ _ hn1
    have HBW := Lib.hid (HB0.out.trans (HB.out.mono (by omega)))
    clear hn1
    by_cases hlt : k < ts.length
    · obtain ⟨b1, o1, rfl, hb1, hts⟩ := h3.out (by omega)
      have hta := CnsAt.get hts hlt
      have hdp := depK_get ts k hlt
      have hdr := depK_drop ts k hlt
      obtain ⟨t, ht⟩ : ∃ t, t = ts[k] := ⟨_, rfl⟩
      rw [← ht] at hta hdp hdr
      have hta' := CnAt.keep HBW.out.size (fun p hp => HBW.out.cell hp) t b1 _ hb1 hta
      obtain ⟨A2, c2, g1, g2, g3, hu⟩ := hta'.cells
      have HV := Lib.hid (IH.out t (by omega) (.slice A2 t.kids.length c2) wr (by omega) hu)
      have HM2 := Lib.hid (show max (max M t.dep) (depK (ts.drop (k + 1))) + 1 = R by omega)
      clear hta hta' hts ht hu hdr hM
      generalize t.dep = Z at *
      by_cases hmz : M < Z
      · have HMX := Lib.hid (show max M Z = Z by omega)
        go_wp2_with fail
        refine HV.out.mono ?_
        rintro e w2 ⟨rfl, hb2⟩
        have HB2 := Lib.hid (HB.out.trans (hb2.mono (show w.heap.size + 1 ≤ wr.heap.size by have := HB.out.size; rw [HS0.out] at this; exact this)))
        clear hb2
        go_wp2_with fail
        go_roundw
        case rel => exact ⟨k + 1, Z, by omega, by go_num, rfl, by rw [← HMX.out]; exact HM2.out, HB2⟩
        case measure => simp [intOf]; omega
      · have HMX := Lib.hid (show max M Z = M by omega)
        go_wp2_with fail
        refine HV.out.mono ?_
        rintro e w2 ⟨rfl, hb2⟩
        have HB2 := Lib.hid (HB.out.trans (hb2.mono (show w.heap.size + 1 ≤ wr.heap.size by have := HB.out.size; rw [HS0.out] at this; exact this)))
        clear hb2
        go_wp2_with fail
        go_roundw
        case rel => exact ⟨k + 1, M, by omega, by go_num, rfl, by have := HM2.out; rw [HMX.out] at this; exact this, HB2⟩
        case measure => simp [intOf]; omega
    · have HR2 : Hid (((M : Int) + 1) = (R : Int)) := by
        show _ = _
        rw [show k = ts.length by omega, List.drop_length, depK] at hM
        omega
      have hM2 : M ≤ 3000000 := by omega
      clear hM
      go_wp2_with fail
      go_ret
      exact ⟨ret_int HR2.out, HBW.out⟩
theorem dep_any : ∀ (n : Nat) (c : Cn), c.dep < n → DepC c
  | 0, c, h => absurd h (by omega)
  | n + 1, c, h => dep_step c fun c' h' => dep_any n c' (by omega)
end Go.Proofs.YtkjcafhaenkpbaaDoor
