/-
  Same: the walk of the reference (gen5_rsama.py).
-/
import Derived.Test.YtnbggokmiokhlaaDoorAue
namespace Go.Proofs.YtnbggokmiokhlaaDoor
set_option linter.unusedVariables false
set_option linter.unusedSimpArgs false
open Go.RowKit

set_option maxRecDepth 100000 in
set_option maxHeartbeats 1600000 in
theorem rsama_any (a b : At) (v u : Value) (w : World) (ha : AT w v a) (hb : AT w u b) :
    Calls Tryd.prog 26 #[v, u] w fun e w' => e = .returned (.bool (samA a b)) ∧ Below w.heap.size w w' := by
  obtain ⟨v1, v2, v3, rfl, h1, h2, h3⟩ := ha
  obtain ⟨u1, u2, u3, rfl, g1, g2, g3⟩ := hb
  have HV : Hid (samA a b = ((a.inv == b.inv) && decide (a.ibs = b.ibs) && decide (a.prs = b.prs) && (a.his == b.his))) := rfl
  have HS1 := Lib.hid (fun (W : World) (hW : Below w.heap.size w W) => h3.on hW)
  have HS2 := Lib.hid (fun (W : World) (hW : Below w.heap.size w W) => g3.on hW)
  obtain ⟨A1, c1, rfl, a11, a12, a13⟩ := h1
  obtain ⟨A2, c2, rfl, a21, a22, a23⟩ := h2
  obtain ⟨A3, c3, rfl, a31, a32, a33⟩ := h3
  obtain ⟨B1, d1, rfl, b11, b12, b13⟩ := g1
  obtain ⟨B2, d2, rfl, b21, b22, b23⟩ := g2
  obtain ⟨B3, d3, rfl, b31, b32, b33⟩ := g3
  unfold maxLen at a12 a22 a32 b12 b22 b32
  generalize a.inv = p at *
  generalize b.inv = q at *
  have HI1 := Lib.hid a13
  have HI2 := Lib.hid b13
  have HN1 := Lib.hid a23
  have HN2 := Lib.hid b23
  clear a13 a23 a33 b13 b23 b33
  have HW0 := Lib.hid (two_alloc w (.cells #[.bool p, .slice A1 a.ibs.length c1, .slice A2 a.prs.length c2, .slice A3 a.his.length c3] 26) (.cells #[.bool q, .slice B1 b.ibs.length d1, .slice B2 b.prs.length d2, .slice B3 b.his.length d3] 26))
  by_cases hpq : p = q
  case neg =>
    have E : Hid (samA a b = false) := by show _ = _; rw [HV.out]; simp [hpq]
    have n1 : (p == q) = false := by rw [beq_eq_false_iff_ne]; exact hpq
    have n2 : (p != q) = true := by rw [bne_iff_ne]; exact hpq
    go_enter Tryd.func26, Tryd.ntmps26
    go_wp2_with fail
    go_ret
    exact ⟨ret_bool E.out.symm, HW0.out⟩
  subst hpq
  by_cases hl1 : a.ibs.length = b.ibs.length
  case neg =>
    have E : Hid (samA a b = false) := by show _ = _; rw [HV.out, eqI_len hl1]; simp
    go_enter Tryd.func26, Tryd.ntmps26
    go_wp2_with fail
    go_ret
    exact ⟨ret_bool E.out.symm, HW0.out⟩
  by_cases hl2 : a.prs.length = b.prs.length
  case neg =>
    have E : Hid (samA a b = false) := by show _ = _; rw [HV.out, eqN_len hl2]; simp
    have hw1 := HW0.out
    rw [hl1] at hw1
    have HW1 := Lib.hid hw1
    clear hw1
    go_enter Tryd.func26, Tryd.ntmps26
    go_wp2_with fail
    go_ret
    exact ⟨ret_bool E.out.symm, HW1.out⟩
  have HL1 := Lib.hid hl1
  have HL2 := Lib.hid hl2
  have hw1 := HW0.out
  rw [hl1, hl2] at hw1
  have HW1 := Lib.hid hw1
  clear hw1
  have s1 := (HS1.out _ HW1.out).convert
  have s2 := (HS2.out _ HW1.out).convert
  by_cases hh : a.his = b.his
  case neg =>
    have E : Hid (samA a b = false) := by show _ = _; rw [HV.out]; simp [hh]
    have m0 : (a.his == b.his) = false := by rw [beq_eq_false_iff_ne]; exact hh
    have HH := Lib.hid hh
    go_enter Tryd.func26, Tryd.ntmps26
    go_wp2_with fail
    go_ret
    exact ⟨ret_bool E.out.symm, HW1.out⟩
  have m0 : (a.his == b.his) = true := by rw [beq_iff_eq]; exact hh
  have HH := Lib.hid hh
  clear hh
  have HRA : Hid (((w.alloc (.cells #[.bool p, .slice A1 b.ibs.length c1, .slice A2 b.prs.length c2, .slice A3 a.his.length c3] 26)).alloc (.cells #[.bool p, .slice B1 b.ibs.length d1, .slice B2 b.prs.length d2, .slice B3 b.his.length d3] 26)).heap[w.heap.size]? = some (.cells #[.bool p, .slice A1 b.ibs.length c1, .slice A2 b.prs.length c2, .slice A3 a.his.length c3] 26 (0, 0))) :=
    ((alloc_below (w.alloc (.cells #[.bool p, .slice A1 b.ibs.length c1, .slice A2 b.prs.length c2, .slice A3 a.his.length c3] 26)) _).block _ (by rw [alloc_size]; omega)).trans (heap_alloc_new w _)
  have HRB : Hid (((w.alloc (.cells #[.bool p, .slice A1 b.ibs.length c1, .slice A2 b.prs.length c2, .slice A3 a.his.length c3] 26)).alloc (.cells #[.bool p, .slice B1 b.ibs.length d1, .slice B2 b.prs.length d2, .slice B3 b.his.length d3] 26)).heap[w.heap.size + 1]? = some (.cells #[.bool p, .slice B1 b.ibs.length d1, .slice B2 b.prs.length d2, .slice B3 b.his.length d3] 26 (0, 0))) := by
    have := heap_alloc_new (w.alloc (.cells #[.bool p, .slice A1 b.ibs.length c1, .slice A2 b.prs.length c2, .slice A3 a.his.length c3] 26)) (.cells #[.bool p, .slice B1 b.ibs.length d1, .slice B2 b.prs.length d2, .slice B3 b.his.length d3] 26)
    rw [alloc_size] at this
    exact this
  rw [hl1] at a11
  rw [hl2] at a21
  rw [hl1, hl2]
  clear hl1 hl2
  go_enter Tryd.func26, Tryd.ntmps26
  go_wp2_with fail
  go_loopw [5] (fun i wr => ∃ k : Nat, k ≤ b.ibs.length ∧ i = .int .i64 k ∧ Hid (∀ j, j < k → a.ibs.getD j Ib.zero = b.ibs.getD j Ib.zero) ∧ ∃ n, wr = ((w.alloc (.cells #[.bool p, .slice A1 b.ibs.length c1, .slice A2 b.prs.length c2, .slice A3 a.his.length c3] 26)).alloc (.cells #[.bool p, .slice B1 b.ibs.length d1, .slice B2 b.prs.length d2, .slice B3 b.his.length d3] 26)).drewN n) (fun i _ => b.ibs.length - (intOf i).toNat)
  case atStart => exact ⟨0, Nat.zero_le _, rfl, fun j hj => absurd hj (by omega), 0, rfl⟩
  case round =>
    obtain ⟨k, hk, rfl, HE, n, rfl⟩ := hrel
    by_cases hlt2 : k < b.ibs.length
    · have hlt : k < a.ibs.length := by rw [HL1.out]; exact hlt2
      obtain ⟨b1, o1, rfl, hb1, hc1⟩ := HI1.out (by omega)
      obtain ⟨b2, o2, rfl, hb2, hc2⟩ := HI2.out (by omega)
      have g1 := (hc1 k hlt).keep hb1 (fun p hp => HW1.out.cell hp)
      have g2 := (hc2 k hlt2).keep hb2 (fun p hp => HW1.out.cell hp)
      have HSN := Lib.hid (@eqI_snoc a.ibs b.ibs k HE.out)
      have HNO := Lib.hid (@eqI_not a.ibs b.ibs k)
      clear hc1 hc2 hlt
      generalize a.ibs.getD k Ib.zero = x at *
      generalize b.ibs.getD k Ib.zero = y at *
      obtain ⟨xg, xk, xv, xp⟩ := x
      obtain ⟨yg, yk, yv, yp⟩ := y
      obtain ⟨x1, x2, x3, x4⟩ := g1
      obtain ⟨y1, y2, y3, y4⟩ := g2
      simp only at x1 x2 x3 x4 y1 y2 y3 y4
      obtain ⟨_, t1, _, _⟩ := cellsA HRA.out
      obtain ⟨_, t2, _, _⟩ := cellsA HRB.out
      by_cases e0 : xg = yg
      case neg =>
        have n1 : (xg == yg) = false := by rw [beq_eq_false_iff_ne]; exact e0
        have n2 : (xg != yg) = true := by rw [bne_iff_ne]; exact e0
        have n3 : decide (xg = yg) = false := decide_eq_false e0
        have E : Hid (samA a b = false) := by show _ = _; rw [HV.out, HNO.out (by intro h; simp only [Ib.mk.injEq] at h; exact e0 (by simp_all))]; simp
        go_wp2_with fail
        go_region_held3 (fun w' => w'.cell? ⟨b1, o1 + k * 4, none⟩ = some (.int .i64 xg) ∧ w'.cell? ⟨b1, o1 + k * 4 + 1, none⟩ = some (.int .i64 xk) ∧ w'.cell? ⟨b1, o1 + k * 4 + 2, none⟩ = some (.int .i64 xv) ∧ w'.cell? ⟨b1, o1 + k * 4 + 3, none⟩ = some (.int .i64 xp) ∧ w'.cell? ⟨b2, o2 + k * 4, none⟩ = some (.int .i64 yg) ∧ w'.cell? ⟨b2, o2 + k * 4 + 1, none⟩ = some (.int .i64 yk) ∧ w'.cell? ⟨b2, o2 + k * 4 + 2, none⟩ = some (.int .i64 yv) ∧ w'.cell? ⟨b2, o2 + k * 4 + 3, none⟩ = some (.int .i64 yp) ∧ w'.cell? ⟨w.heap.size, 1, none⟩ = some (.slice (some ⟨b1, o1, none⟩) b.ibs.length c1) ∧ w'.cell? ⟨w.heap.size + 1, 1, none⟩ = some (.slice (some ⟨b2, o2, none⟩) b.ibs.length d1))
          (first | (go_keep; done) | exact ⟨x1, x2, x3, x4, y1, y2, y3, y4, t1, t2⟩)
          (fail)
        go_wp2_with fail
        go_ret
        exact ⟨ret_bool E.out.symm, by first | exact below_drewN HW1.out _ | exact below_drewN (below_drewN HW1.out _) _⟩
      subst e0
      by_cases e1 : xk = yk
      case neg =>
        have n1 : (xk == yk) = false := by rw [beq_eq_false_iff_ne]; exact e1
        have n2 : (xk != yk) = true := by rw [bne_iff_ne]; exact e1
        have n3 : decide (xk = yk) = false := decide_eq_false e1
        have E : Hid (samA a b = false) := by show _ = _; rw [HV.out, HNO.out (by intro h; simp only [Ib.mk.injEq] at h; exact e1 (by simp_all))]; simp
        go_wp2_with fail
        go_region_held3 (fun w' => w'.cell? ⟨b1, o1 + k * 4, none⟩ = some (.int .i64 xg) ∧ w'.cell? ⟨b1, o1 + k * 4 + 1, none⟩ = some (.int .i64 xk) ∧ w'.cell? ⟨b1, o1 + k * 4 + 2, none⟩ = some (.int .i64 xv) ∧ w'.cell? ⟨b1, o1 + k * 4 + 3, none⟩ = some (.int .i64 xp) ∧ w'.cell? ⟨b2, o2 + k * 4, none⟩ = some (.int .i64 xg) ∧ w'.cell? ⟨b2, o2 + k * 4 + 1, none⟩ = some (.int .i64 yk) ∧ w'.cell? ⟨b2, o2 + k * 4 + 2, none⟩ = some (.int .i64 yv) ∧ w'.cell? ⟨b2, o2 + k * 4 + 3, none⟩ = some (.int .i64 yp) ∧ w'.cell? ⟨w.heap.size, 1, none⟩ = some (.slice (some ⟨b1, o1, none⟩) b.ibs.length c1) ∧ w'.cell? ⟨w.heap.size + 1, 1, none⟩ = some (.slice (some ⟨b2, o2, none⟩) b.ibs.length d1))
          (first | (go_keep; done) | exact ⟨x1, x2, x3, x4, y1, y2, y3, y4, t1, t2⟩)
          (fail)
        go_wp2_with fail
        go_ret
        exact ⟨ret_bool E.out.symm, by first | exact below_drewN HW1.out _ | exact below_drewN (below_drewN HW1.out _) _⟩
      subst e1
      by_cases e2 : xv = yv
      case neg =>
        have n1 : (xv == yv) = false := by rw [beq_eq_false_iff_ne]; exact e2
        have n2 : (xv != yv) = true := by rw [bne_iff_ne]; exact e2
        have n3 : decide (xv = yv) = false := decide_eq_false e2
        have E : Hid (samA a b = false) := by show _ = _; rw [HV.out, HNO.out (by intro h; simp only [Ib.mk.injEq] at h; exact e2 (by simp_all))]; simp
        go_wp2_with fail
        go_region_held3 (fun w' => w'.cell? ⟨b1, o1 + k * 4, none⟩ = some (.int .i64 xg) ∧ w'.cell? ⟨b1, o1 + k * 4 + 1, none⟩ = some (.int .i64 xk) ∧ w'.cell? ⟨b1, o1 + k * 4 + 2, none⟩ = some (.int .i64 xv) ∧ w'.cell? ⟨b1, o1 + k * 4 + 3, none⟩ = some (.int .i64 xp) ∧ w'.cell? ⟨b2, o2 + k * 4, none⟩ = some (.int .i64 xg) ∧ w'.cell? ⟨b2, o2 + k * 4 + 1, none⟩ = some (.int .i64 xk) ∧ w'.cell? ⟨b2, o2 + k * 4 + 2, none⟩ = some (.int .i64 yv) ∧ w'.cell? ⟨b2, o2 + k * 4 + 3, none⟩ = some (.int .i64 yp) ∧ w'.cell? ⟨w.heap.size, 1, none⟩ = some (.slice (some ⟨b1, o1, none⟩) b.ibs.length c1) ∧ w'.cell? ⟨w.heap.size + 1, 1, none⟩ = some (.slice (some ⟨b2, o2, none⟩) b.ibs.length d1))
          (first | (go_keep; done) | exact ⟨x1, x2, x3, x4, y1, y2, y3, y4, t1, t2⟩)
          (fail)
        go_wp2_with fail
        go_ret
        exact ⟨ret_bool E.out.symm, by first | exact below_drewN HW1.out _ | exact below_drewN (below_drewN HW1.out _) _⟩
      subst e2
      by_cases e3 : xp = yp
      case neg =>
        have n1 : (xp == yp) = false := by rw [beq_eq_false_iff_ne]; exact e3
        have n2 : (xp != yp) = true := by rw [bne_iff_ne]; exact e3
        have n3 : decide (xp = yp) = false := decide_eq_false e3
        have E : Hid (samA a b = false) := by show _ = _; rw [HV.out, HNO.out (by intro h; simp only [Ib.mk.injEq] at h; exact e3 (by simp_all))]; simp
        go_wp2_with fail
        go_region_held3 (fun w' => w'.cell? ⟨b1, o1 + k * 4, none⟩ = some (.int .i64 xg) ∧ w'.cell? ⟨b1, o1 + k * 4 + 1, none⟩ = some (.int .i64 xk) ∧ w'.cell? ⟨b1, o1 + k * 4 + 2, none⟩ = some (.int .i64 xv) ∧ w'.cell? ⟨b1, o1 + k * 4 + 3, none⟩ = some (.int .i64 xp) ∧ w'.cell? ⟨b2, o2 + k * 4, none⟩ = some (.int .i64 xg) ∧ w'.cell? ⟨b2, o2 + k * 4 + 1, none⟩ = some (.int .i64 xk) ∧ w'.cell? ⟨b2, o2 + k * 4 + 2, none⟩ = some (.int .i64 xv) ∧ w'.cell? ⟨b2, o2 + k * 4 + 3, none⟩ = some (.int .i64 yp) ∧ w'.cell? ⟨w.heap.size, 1, none⟩ = some (.slice (some ⟨b1, o1, none⟩) b.ibs.length c1) ∧ w'.cell? ⟨w.heap.size + 1, 1, none⟩ = some (.slice (some ⟨b2, o2, none⟩) b.ibs.length d1))
          (first | (go_keep; done) | exact ⟨x1, x2, x3, x4, y1, y2, y3, y4, t1, t2⟩)
          (fail)
        go_wp2_with fail
        go_ret
        exact ⟨ret_bool E.out.symm, by first | exact below_drewN HW1.out _ | exact below_drewN (below_drewN HW1.out _) _⟩
      subst e3
      have HN := Lib.hid (HSN.out (by first | exact trivial | rfl))
      go_wp2_with fail
      go_region_held3 (fun w' => w'.cell? ⟨b1, o1 + k * 4, none⟩ = some (.int .i64 xg) ∧ w'.cell? ⟨b1, o1 + k * 4 + 1, none⟩ = some (.int .i64 xk) ∧ w'.cell? ⟨b1, o1 + k * 4 + 2, none⟩ = some (.int .i64 xv) ∧ w'.cell? ⟨b1, o1 + k * 4 + 3, none⟩ = some (.int .i64 xp) ∧ w'.cell? ⟨b2, o2 + k * 4, none⟩ = some (.int .i64 xg) ∧ w'.cell? ⟨b2, o2 + k * 4 + 1, none⟩ = some (.int .i64 xk) ∧ w'.cell? ⟨b2, o2 + k * 4 + 2, none⟩ = some (.int .i64 xv) ∧ w'.cell? ⟨b2, o2 + k * 4 + 3, none⟩ = some (.int .i64 xp) ∧ w'.cell? ⟨w.heap.size, 1, none⟩ = some (.slice (some ⟨b1, o1, none⟩) b.ibs.length c1) ∧ w'.cell? ⟨w.heap.size + 1, 1, none⟩ = some (.slice (some ⟨b2, o2, none⟩) b.ibs.length d1))
        (first | (go_keep; done) | exact ⟨x1, x2, x3, x4, y1, y2, y3, y4, t1, t2⟩)
        (fail)
      go_wp2_with fail
      go_roundw
      case rel => exact ⟨k + 1, by omega, by go_num, HN.out, by first | exact dn1 .. | exact dn2 ..⟩
      case measure => simp [intOf]; omega
    · have hkk : k = b.ibs.length := by omega
      subst hkk
      have HQ : Hid (decide (a.ibs = b.ibs) = true) := eqI_all HL1.out (by rw [HL1.out]; exact HE.out)
      clear hk hlt2
      go_wp2_with fail
      go_loopw [6] (fun i wr => ∃ k : Nat, k ≤ b.prs.length ∧ i = .int .i64 k ∧ Hid (∀ j, j < k → a.prs.getD j 0 = b.prs.getD j 0) ∧ ∃ n, wr = ((w.alloc (.cells #[.bool p, .slice A1 b.ibs.length c1, .slice A2 b.prs.length c2, .slice A3 a.his.length c3] 26)).alloc (.cells #[.bool p, .slice B1 b.ibs.length d1, .slice B2 b.prs.length d2, .slice B3 b.his.length d3] 26)).drewN n) (fun i _ => b.prs.length - (intOf i).toNat)
      case atStart => exact ⟨0, Nat.zero_le _, rfl, fun j hj => absurd hj (by omega), n, rfl⟩
      case round =>
        obtain ⟨k, hk, rfl, HE, n, rfl⟩ := hrel
        by_cases hlt2 : k < b.prs.length
        · have hlt : k < a.prs.length := by rw [HL2.out]; exact hlt2
          obtain ⟨b1, o1, rfl, hb1, hc1⟩ := HN1.out (by omega)
          obtain ⟨b2, o2, rfl, hb2, hc2⟩ := HN2.out (by omega)
          have x1 := (HW1.out.cell (p := ⟨b1, o1 + k, none⟩) hb1).trans (hc1 k hlt)
          have y1 := (HW1.out.cell (p := ⟨b2, o2 + k, none⟩) hb2).trans (hc2 k hlt2)
          have HSN := Lib.hid (@eqN_snoc a.prs b.prs k HE.out)
          have HNO := Lib.hid (@eqN_not a.prs b.prs k)
          clear hc1 hc2 hlt
          generalize a.prs.getD k 0 = x at *
          generalize b.prs.getD k 0 = y at *
          obtain ⟨_, _, t1, _⟩ := cellsA HRA.out
          obtain ⟨_, _, t2, _⟩ := cellsA HRB.out
          by_cases e : x = y
          case neg =>
            have n1 : (x == y) = false := by rw [beq_eq_false_iff_ne]; exact e
            have n2 : (x != y) = true := by rw [bne_iff_ne]; exact e
            have E : Hid (samA a b = false) := by show _ = _; rw [HV.out, HNO.out e]; simp
            go_wp2_with fail
            go_region_held3 (fun w' => w'.cell? ⟨b1, o1 + k, none⟩ = some (.int .i64 x) ∧ w'.cell? ⟨b2, o2 + k, none⟩ = some (.int .i64 y) ∧ w'.cell? ⟨w.heap.size, 2, none⟩ = some (.slice (some ⟨b1, o1, none⟩) b.prs.length c2) ∧ w'.cell? ⟨w.heap.size + 1, 2, none⟩ = some (.slice (some ⟨b2, o2, none⟩) b.prs.length d2))
              (first | (go_keep; done) | exact ⟨x1, y1, t1, t2⟩)
              (fail)
            go_wp2_with fail
            go_ret
            exact ⟨ret_bool E.out.symm, by first | exact below_drewN HW1.out _ | exact below_drewN (below_drewN HW1.out _) _⟩
          subst e
          have HN := Lib.hid (HSN.out (by first | exact trivial | rfl))
          go_wp2_with fail
          go_region_held3 (fun w' => w'.cell? ⟨b1, o1 + k, none⟩ = some (.int .i64 x) ∧ w'.cell? ⟨b2, o2 + k, none⟩ = some (.int .i64 x) ∧ w'.cell? ⟨w.heap.size, 2, none⟩ = some (.slice (some ⟨b1, o1, none⟩) b.prs.length c2) ∧ w'.cell? ⟨w.heap.size + 1, 2, none⟩ = some (.slice (some ⟨b2, o2, none⟩) b.prs.length d2))
            (first | (go_keep; done) | exact ⟨x1, y1, t1, t2⟩)
            (fail)
          go_wp2_with fail
          go_roundw
          case rel => exact ⟨k + 1, by omega, by go_num, HN.out, by first | exact dn1 .. | exact dn2 ..⟩
          case measure => simp [intOf]; omega
        · have hkk : k = b.prs.length := by omega
          subst hkk
          have HQ2 : Hid (decide (a.prs = b.prs) = true) := eqN_all HL2.out (by rw [HL2.out]; exact HE.out)
          have E : Hid (samA a b = true) := by show _ = _; rw [HV.out, HQ.out, HQ2.out, HH.out]; simp
          clear hk hlt2
          go_wp2_with fail
          go_ret
          exact ⟨ret_bool E.out.symm, by first | exact below_drewN HW1.out _ | exact below_drewN (below_drewN HW1.out _) _⟩
end Go.Proofs.YtnbggokmiokhlaaDoor
