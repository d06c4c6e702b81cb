
/-
  The walks of the kinds of blocks: checkInf, control, compose.
-/
import Derived.Test.YtijiggfeamibkaaDoorKd
namespace Go.Proofs.YtijiggfeamibkaaDoor
set_option linter.unusedVariables false
set_option linter.unusedSimpArgs false
open Go.RowKit

theorem pnum_any (l : List UInt8) (g : Nat) (v : Value) (w : World) (hv : SL w w.heap.size v l) (hg : g < 256) : Calls Tryd.prog 89 #[v, .int .u8 (g : Int)] w fun e w' => e = .returned (.int .i64 (numE l g)) ∧ w = w' := by
  obtain ⟨A, c, rfl, k1, k2, k3⟩ := hv
  unfold maxLen at k2
  by_cases h : l.length = 1
  · obtain ⟨b, o, rfl, hb, hc⟩ := k3 (by omega)
    have g0 : w.cell? ⟨b, o, none⟩ = some (.int .u8 ((l.getD 0 0).toNat : Int)) := hc 0 (by omega)
    have hx := (l.getD 0 0).toNat_lt
    have HE0 : numE l g = if 1 ≤ (l.getD 0 0).toNat ∧ (l.getD 0 0).toNat ≤ g then 0 else 4 := by unfold numE; simp [h]
    clear hc k3
    generalize l.getD 0 0 = x at *
    rw [h] at k1
    rw [h]
    clear h
    by_cases h0 : x.toNat = 0
    · have HE : Hid (numE l g = 4) := by show _ = _; rw [HE0, if_neg (by omega)]
      have q0 : ((x.toNat : Int) == 0) = true := by rw [beq_iff_eq]; omega
      clear HE0 h0
      go_enter Tryd.func89, Tryd.ntmps89
      go_wp2
      go_ret
      exact ⟨by rw [HE.out]; rfl, rfl⟩
    · have q0 : ((x.toNat : Int) == 0) = false := by rw [beq_eq_false_iff_ne]; omega
      by_cases h1 : x.toNat ≤ g
      · have HE : Hid (numE l g = 0) := by show _ = _; rw [HE0, if_pos (by omega)]
        have q1 : decide (g < x.toNat) = false := by rw [decide_eq_false_iff_not]; omega
        clear HE0 h0
        go_enter Tryd.func89, Tryd.ntmps89
        go_wp2
        go_ret
        exact ⟨by rw [HE.out]; rfl, rfl⟩
      · have HE : Hid (numE l g = 4) := by show _ = _; rw [HE0, if_neg (by omega)]
        have q1 : decide (g < x.toNat) = true := by rw [decide_eq_true_iff]; omega
        clear HE0 h0
        go_enter Tryd.func89, Tryd.ntmps89
        go_wp2
        go_ret
        exact ⟨by rw [HE.out]; rfl, rfl⟩
  · have HE : Hid (numE l g = 4) := by show _ = _; unfold numE; rw [if_neg (by omega)]
    have q0 : ((l.length : Int) == 1) = false := by rw [beq_eq_false_iff_ne]; omega
    have q1 : ((l.length : Int) != 1) = true := by rw [bne_iff_ne]; omega
    clear h k3
    go_enter Tryd.func89, Tryd.ntmps89
    go_wp2
    go_ret
    exact ⟨by rw [HE.out]; rfl, rfl⟩

theorem pinf_inf (s : Int) (m : Bool) (l : List UInt8) (v : Value) (w : World) (hv : SL w w.heap.size v l) : Calls Tryd.prog 50 #[.agg #[.int .i64 s, .bool m], v] w fun e w' => e = .returned (.int .i64 ((Kd.inf s m).infE l)) ∧ Below w.heap.size w w' := by
  obtain ⟨A, c, rfl, k1, k2, k3⟩ := hv
  unfold maxLen at k2
  clear k3
  by_cases h : 254 < l.length
  · have HE : Hid ((Kd.inf s m).infE l = 3) := by show _ = _; simp only [Kd.infE]; rw [if_pos h]
    go_enter Tryd.func50, Tryd.ntmps50
    go_wp2
    go_ret
    exact ⟨by rw [HE.out]; rfl, alloc_below _ _⟩
  · have HE : Hid ((Kd.inf s m).infE l = 0) := by show _ = _; simp only [Kd.infE]; rw [if_neg h]
    have h' : l.length ≤ 254 := by omega
    clear h
    go_enter Tryd.func50, Tryd.ntmps50
    go_wp2
    go_ret
    exact ⟨by rw [HE.out]; rfl, alloc_below _ _⟩
theorem pinf_rdy (s t : Int) (l : List UInt8) (v : Value) (w : World) (hv : SL w w.heap.size v l) : Calls Tryd.prog 79 #[.agg #[.int .i64 s, .int .i64 t], v] w fun e w' => e = .returned (.int .i64 ((Kd.rdy s t).infE l)) ∧ Below w.heap.size w w' := by
  obtain ⟨A, c, rfl, k1, k2, k3⟩ := hv
  clear k3
  have HE : Hid ((Kd.rdy s t).infE l = emptyE l) := rfl
  go_enter Tryd.func79, Tryd.ntmps79
  go_wp2_with fail
  refine (pempty_any l _ _ _ _ rfl).mono ?_
  rintro e w1 ⟨rfl, rfl⟩
  go_wp2_with fail
  go_ret
  exact ⟨by rw [HE.out]; rfl, alloc_below _ _⟩
theorem pinf_sup (t : Int) (a : Bool) (l : List UInt8) (v : Value) (w : World) (hv : SL w w.heap.size v l) : Calls Tryd.prog 85 #[.agg #[.int .i64 t, .bool a], v] w fun e w' => e = .returned (.int .i64 ((Kd.sup t a).infE l)) ∧ Below w.heap.size w w' := by
  have HV := Lib.hid (fun (o : Obj) => hv.on (alloc_below w o))
  obtain ⟨A, c, rfl, k1, k2, k3⟩ := hv
  clear k3
  by_cases h1 : t = 1
  · subst h1
    have HE : Hid ((Kd.sup 1 a).infE l = numE l 254) := rfl
    go_enter Tryd.func85, Tryd.ntmps85
    go_wp2_with fail
    refine (pnum_any l 254 _ _ (HV.out _) (by omega)).mono ?_
    rintro e w1 ⟨rfl, rfl⟩
    go_wp2_with fail
    go_ret
    exact ⟨by rw [HE.out]; rfl, alloc_below _ _⟩
  · have q1 : (t == 1) = false := beq_eq_false_iff_ne.2 h1
    by_cases h3 : t = 3
    · subst h3
      have HE : Hid ((Kd.sup 3 a).infE l = numE l 255) := rfl
      clear q1
      go_enter Tryd.func85, Tryd.ntmps85
      go_wp2_with fail
      refine (pnum_any l 255 _ _ (HV.out _) (by omega)).mono ?_
      rintro e w1 ⟨rfl, rfl⟩
      go_wp2_with fail
      go_ret
      exact ⟨by rw [HE.out]; rfl, alloc_below _ _⟩
    · have q3 : (t == 3) = false := beq_eq_false_iff_ne.2 h3
      have HE : Hid ((Kd.sup t a).infE l = emptyE l) := by show _ = _; simp only [Kd.infE]; rw [if_neg h1, if_neg h3]
      clear h1 h3
      go_enter Tryd.func85, Tryd.ntmps85
      go_wp2_with fail
      refine (pempty_any l _ _ _ _ rfl).mono ?_
      rintro e w1 ⟨rfl, rfl⟩
      go_wp2_with fail
      go_ret
      exact ⟨by rw [HE.out]; rfl, alloc_below _ _⟩

theorem pmask_yes (n : Int) (w : World) : Calls Tryd.prog 54 #[.bool true, .int .u8 n] w fun e w' => e = .returned (.int .u8 n) ∧ w = w' := by
  go_enter Tryd.func54, Tryd.ntmps54
  go_wp2
  go_ret
  exact ⟨rfl, rfl⟩
theorem pmask_no (n : Int) (w : World) : Calls Tryd.prog 54 #[.bool false, .int .u8 n] w fun e w' => e = .returned (.int .u8 0) ∧ w = w' := by
  go_enter Tryd.func54, Tryd.ntmps54
  go_wp2
  go_ret
  exact ⟨rfl, rfl⟩
def mskN (b : Bool) (n : Int) : Int := if b then n else 0
theorem pmask_any (b : Bool) (n : Int) (w : World) : Calls Tryd.prog 54 #[.bool b, .int .u8 n] w fun e w' => e = .returned (.int .u8 (mskN b n)) ∧ w' = w := by
  cases b
  · exact (pmask_no n w).mono fun _ _ ⟨h, h'⟩ => ⟨h, h'.symm⟩
  · exact (pmask_yes n w).mono fun _ _ ⟨h, h'⟩ => ⟨h, h'.symm⟩

theorem pctl_rdy (s c : Int) (w : World) (h : (Kd.rdy s c).rng = true) : Calls Tryd.prog 80 #[.agg #[.int .i64 s, .int .i64 c]] w fun e w' => e = .returned (.int .u8 ((Kd.rdy s c).ctl : Int)) ∧ Below w.heap.size w w' := by
  simp only [Kd.rng, Bool.and_eq_true] at h
  rcases bit_cases h.1 with rfl | rfl <;> rcases rc_cases h.2 with rfl | rfl | rfl
  all_goals
    clear h
    go_enter Tryd.func80, Tryd.ntmps80
    go_wp2
    go_ret
    exact ⟨rfl, alloc_below _ _⟩
set_option maxRecDepth 100000 in
theorem pctl_inf (s : Int) (m : Bool) (w : World) (h : (Kd.inf s m).rng = true) : Calls Tryd.prog 51 #[.agg #[.int .i64 s, .bool m]] w fun e w' => e = .returned (.int .u8 ((Kd.inf s m).ctl : Int)) ∧ Below w.heap.size w w' := by
  simp only [Kd.rng] at h
  rcases bit_cases h with rfl | rfl <;> cases m
  all_goals
    clear h
    go_enter Tryd.func51, Tryd.ntmps51
    go_wp2_with fail
    go_quiet ((go_at_call 54; exact Calls.quiet_of_same (pmask_any _ _ _)))
    go_wp2_with fail
    go_ret
    exact ⟨rfl, below_drewN (alloc_below _ _) _⟩
set_option maxRecDepth 100000 in
theorem pctl_sup (c : Int) (a : Bool) (w : World) (h : (Kd.sup c a).rng = true) : Calls Tryd.prog 86 #[.agg #[.int .i64 c, .bool a]] w fun e w' => e = .returned (.int .u8 ((Kd.sup c a).ctl : Int)) ∧ Below w.heap.size w w' := by
  simp only [Kd.rng] at h
  rcases sc_cases h with rfl | rfl | rfl | rfl <;> cases a
  all_goals
    clear h
    go_enter Tryd.func86, Tryd.ntmps86
    go_wp2_with fail
    go_quiet ((go_at_call 54; exact Calls.quiet_of_same (pmask_any _ _ _)))
    go_wp2_with fail
    go_ret
    exact ⟨rfl, below_drewN (alloc_below _ _) _⟩
end Go.Proofs.YtijiggfeamibkaaDoor
