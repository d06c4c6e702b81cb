/-
  slices.Equal of numbers and of interface bytes: the walks (gen5_eqi.py).
-/
import Derived.Test.YtnbggokmiokhlaaDoorAua
import Derived.Deep.RegionHeld3
import Derived.RegionTactic
namespace Go.Proofs.YtnbggokmiokhlaaDoor
set_option linter.unusedVariables false
set_option linter.unusedSimpArgs false
open Go.RowKit

theorem eqN_snoc {a b : List Int} {k : Nat} (h : ∀ j, j < k → a.getD j 0 = b.getD j 0) (hk : a.getD k 0 = b.getD k 0) : ∀ j, j < k + 1 → a.getD j 0 = b.getD j 0 := by
  intro j hj
  rcases Nat.lt_or_ge j k with h' | h'
  · exact h j h'
  · obtain rfl : j = k := by omega
    exact hk
theorem eqN_all {a b : List Int} (hl : a.length = b.length) (h : ∀ j, j < a.length → a.getD j 0 = b.getD j 0) : decide (a = b) = true :=
  decide_eq_true (List.ext_getElem hl fun j h1 h2 => by have := h j h1; rwa [gD_get a j h1, gD_get b j h2] at this)
theorem eqN_not {a b : List Int} (k : Nat) (h : a.getD k 0 ≠ b.getD k 0) : decide (a = b) = false := decide_eq_false (fun e => h (by rw [e]))
theorem eqN_len {a b : List Int} (h : a.length ≠ b.length) : decide (a = b) = false := decide_eq_false (fun e => h (by rw [e]))

set_option maxRecDepth 100000 in
theorem peqn_any (a b : List Int) (v u : Value) (w : World) (B : Nat) (ha : NL w B v a) (hb : NL w B u b) :
    Calls Tryd.prog 66 #[v, u] w fun e w' => e = .returned (.bool (decide (a = b))) ∧ ∃ n, w' = w.drewN n := by
  obtain ⟨A1, c1, rfl, h11, h12, h13⟩ := ha
  obtain ⟨A2, c2, rfl, h21, h22, h23⟩ := hb
  unfold maxLen at h12 h22
  by_cases hl : a.length = b.length
  · have HL := Lib.hid hl
    go_enter Tryd.func66, Tryd.ntmps66
    go_wp2
    go_loopw [13] (fun i wr => ∃ k : Nat, k ≤ a.length ∧ i = .int .i64 k ∧ Hid (∀ j, j < k → a.getD j 0 = b.getD j 0) ∧ ∃ n, wr = w.drewN n) (fun i _ => a.length - (intOf i).toNat)
    case atStart => exact ⟨0, Nat.zero_le _, rfl, fun j hj => absurd hj (by omega), 0, rfl⟩
    case round =>
      obtain ⟨k, hk, rfl, HE, n, rfl⟩ := hrel
      by_cases hlt : k < a.length
      · have hlt2 : k < b.length := by rw [← HL.out]; exact hlt
        obtain ⟨b1, o1, rfl, hb1, hc1⟩ := h13 (by omega)
        obtain ⟨b2, o2, rfl, hb2, hc2⟩ := h23 (by omega)
        have g1 := hc1 k hlt
        have g2 := hc2 k hlt2
        have HSN := Lib.hid (@eqN_snoc a b k HE.out)
        have HNO := Lib.hid (@eqN_not a b k)
        clear hc1 hc2 h13 h23 hl
        generalize a.getD k 0 = x at *
        generalize b.getD k 0 = y at *
        by_cases hxy : x = y
        · subst hxy
          go_wp2
          go_quiet (fail)
          go_wp2
          go_roundw
          case rel => exact ⟨k + 1, by omega, by go_num, HSN.out (by first | exact trivial | rfl), by first | exact dn2 .. | exact dn1 ..⟩
          case measure => simp [intOf]; omega
        · have hn : (x != y) = true := by rw [bne_iff_ne]; exact hxy
          have HXY := Lib.hid hxy
          go_wp2
          go_quiet (fail)
          go_wp2
          go_ret
          exact ⟨ret_bool (HNO.out HXY.out).symm, dn2 ..⟩
      · have hkk : k = a.length := by omega
        subst hkk
        have HL2 := Lib.hid (eqN_all HL.out HE.out)
        go_wp2
        go_ret
        exact ⟨ret_bool HL2.out.symm, dn1 ..⟩
  · go_enter Tryd.func66, Tryd.ntmps66
    go_wp2
    go_ret
    exact ⟨ret_bool (eqN_len hl).symm, dn0 _⟩
theorem eqI_snoc {a b : List Ib} {k : Nat} (h : ∀ j, j < k → a.getD j Ib.zero = b.getD j Ib.zero) (hk : a.getD k Ib.zero = b.getD k Ib.zero) : ∀ j, j < k + 1 → a.getD j Ib.zero = b.getD j Ib.zero := by
  intro j hj
  rcases Nat.lt_or_ge j k with h' | h'
  · exact h j h'
  · obtain rfl : j = k := by omega
    exact hk
theorem eqI_all {a b : List Ib} (hl : a.length = b.length) (h : ∀ j, j < a.length → a.getD j Ib.zero = b.getD j Ib.zero) : decide (a = b) = true :=
  decide_eq_true (List.ext_getElem hl fun j h1 h2 => by have := h j h1; rwa [gD_ib a j h1, gD_ib b j h2] at this)
theorem eqI_not {a b : List Ib} (k : Nat) (h : a.getD k Ib.zero ≠ b.getD k Ib.zero) : decide (a = b) = false := decide_eq_false (fun e => h (by rw [e]))
theorem eqI_len {a b : List Ib} (h : a.length ≠ b.length) : decide (a = b) = false := decide_eq_false (fun e => h (by rw [e]))

set_option maxRecDepth 100000 in
set_option maxHeartbeats 1600000 in
theorem peqi_any (a b : List Ib) (v u : Value) (w : World) (B : Nat) (ha : IL w B v a) (hb : IL w B u b) :
    Calls Tryd.prog 65 #[v, u] w fun e w' => e = .returned (.bool (decide (a = b))) ∧ ∃ n, w' = w.drewN n := by
  obtain ⟨A1, c1, rfl, h11, h12, h13⟩ := ha
  obtain ⟨A2, c2, rfl, h21, h22, h23⟩ := hb
  unfold maxLen at h12 h22
  by_cases hl : a.length = b.length
  · have HL := Lib.hid hl
    have H13 := Lib.hid h13
    have H23 := Lib.hid h23
    clear h13 h23
    go_enter Tryd.func65, Tryd.ntmps65
    go_wp2
    go_loopw [13] (fun i wr => ∃ k : Nat, k ≤ a.length ∧ i = .int .i64 k ∧ Hid (∀ j, j < k → a.getD j Ib.zero = b.getD j Ib.zero) ∧ ∃ n, wr = w.drewN n) (fun i _ => a.length - (intOf i).toNat)
    case atStart => exact ⟨0, Nat.zero_le _, rfl, fun j hj => absurd hj (by omega), 0, rfl⟩
    case round =>
      obtain ⟨k, hk, rfl, HE, n, rfl⟩ := hrel
      by_cases hlt : k < a.length
      · have hlt2 : k < b.length := by rw [← HL.out]; exact hlt
        obtain ⟨b1, o1, rfl, hb1, hc1⟩ := H13.out (by omega)
        obtain ⟨b2, o2, rfl, hb2, hc2⟩ := H23.out (by omega)
        have g1 := hc1 k hlt
        have g2 := hc2 k hlt2
        have HSN := Lib.hid (@eqI_snoc a b k HE.out)
        have HNO := Lib.hid (@eqI_not a b k)
        clear hc1 hc2 hl
        generalize a.getD k Ib.zero = x at *
        generalize b.getD k Ib.zero = y at *
        obtain ⟨xg, xk, xv, xp⟩ := x
        obtain ⟨yg, yk, yv, yp⟩ := y
        obtain ⟨x1, x2, x3, x4⟩ := g1
        obtain ⟨y1, y2, y3, y4⟩ := g2
        simp only at x1 x2 x3 x4 y1 y2 y3 y4
        by_cases e0 : xg = yg
        case neg =>
          have n1 : (xg == yg) = false := by rw [beq_eq_false_iff_ne]; exact e0
          have n2 : (xg != yg) = true := by rw [bne_iff_ne]; exact e0
          have n3 : decide (xg = yg) = false := decide_eq_false e0
          have HN := Lib.hid (HNO.out (by intro h; simp only [Ib.mk.injEq] at h; exact e0 (by simp_all)))
          go_wp2
          go_region_held3 (fun w' => w'.cell? ⟨b1, o1 + k * 4, none⟩ = some (.int .i64 xg) ∧ w'.cell? ⟨b1, o1 + k * 4 + 1, none⟩ = some (.int .i64 xk) ∧ w'.cell? ⟨b1, o1 + k * 4 + 2, none⟩ = some (.int .i64 xv) ∧ w'.cell? ⟨b1, o1 + k * 4 + 3, none⟩ = some (.int .i64 xp) ∧ w'.cell? ⟨b2, o2 + k * 4, none⟩ = some (.int .i64 yg) ∧ w'.cell? ⟨b2, o2 + k * 4 + 1, none⟩ = some (.int .i64 yk) ∧ w'.cell? ⟨b2, o2 + k * 4 + 2, none⟩ = some (.int .i64 yv) ∧ w'.cell? ⟨b2, o2 + k * 4 + 3, none⟩ = some (.int .i64 yp))
            (first | (go_keep; done) | exact ⟨x1, x2, x3, x4, y1, y2, y3, y4⟩)
            (fail)
          go_wp2
          go_ret
          exact ⟨ret_bool HN.out.symm, by first | exact dn1 .. | exact dn2 ..⟩
        subst e0
        by_cases e1 : xk = yk
        case neg =>
          have n1 : (xk == yk) = false := by rw [beq_eq_false_iff_ne]; exact e1
          have n2 : (xk != yk) = true := by rw [bne_iff_ne]; exact e1
          have n3 : decide (xk = yk) = false := decide_eq_false e1
          have HN := Lib.hid (HNO.out (by intro h; simp only [Ib.mk.injEq] at h; exact e1 (by simp_all)))
          go_wp2
          go_region_held3 (fun w' => w'.cell? ⟨b1, o1 + k * 4, none⟩ = some (.int .i64 xg) ∧ w'.cell? ⟨b1, o1 + k * 4 + 1, none⟩ = some (.int .i64 xk) ∧ w'.cell? ⟨b1, o1 + k * 4 + 2, none⟩ = some (.int .i64 xv) ∧ w'.cell? ⟨b1, o1 + k * 4 + 3, none⟩ = some (.int .i64 xp) ∧ w'.cell? ⟨b2, o2 + k * 4, none⟩ = some (.int .i64 xg) ∧ w'.cell? ⟨b2, o2 + k * 4 + 1, none⟩ = some (.int .i64 yk) ∧ w'.cell? ⟨b2, o2 + k * 4 + 2, none⟩ = some (.int .i64 yv) ∧ w'.cell? ⟨b2, o2 + k * 4 + 3, none⟩ = some (.int .i64 yp))
            (first | (go_keep; done) | exact ⟨x1, x2, x3, x4, y1, y2, y3, y4⟩)
            (fail)
          go_wp2
          go_ret
          exact ⟨ret_bool HN.out.symm, by first | exact dn1 .. | exact dn2 ..⟩
        subst e1
        by_cases e2 : xv = yv
        case neg =>
          have n1 : (xv == yv) = false := by rw [beq_eq_false_iff_ne]; exact e2
          have n2 : (xv != yv) = true := by rw [bne_iff_ne]; exact e2
          have n3 : decide (xv = yv) = false := decide_eq_false e2
          have HN := Lib.hid (HNO.out (by intro h; simp only [Ib.mk.injEq] at h; exact e2 (by simp_all)))
          go_wp2
          go_region_held3 (fun w' => w'.cell? ⟨b1, o1 + k * 4, none⟩ = some (.int .i64 xg) ∧ w'.cell? ⟨b1, o1 + k * 4 + 1, none⟩ = some (.int .i64 xk) ∧ w'.cell? ⟨b1, o1 + k * 4 + 2, none⟩ = some (.int .i64 xv) ∧ w'.cell? ⟨b1, o1 + k * 4 + 3, none⟩ = some (.int .i64 xp) ∧ w'.cell? ⟨b2, o2 + k * 4, none⟩ = some (.int .i64 xg) ∧ w'.cell? ⟨b2, o2 + k * 4 + 1, none⟩ = some (.int .i64 xk) ∧ w'.cell? ⟨b2, o2 + k * 4 + 2, none⟩ = some (.int .i64 yv) ∧ w'.cell? ⟨b2, o2 + k * 4 + 3, none⟩ = some (.int .i64 yp))
            (first | (go_keep; done) | exact ⟨x1, x2, x3, x4, y1, y2, y3, y4⟩)
            (fail)
          go_wp2
          go_ret
          exact ⟨ret_bool HN.out.symm, by first | exact dn1 .. | exact dn2 ..⟩
        subst e2
        by_cases e3 : xp = yp
        case neg =>
          have n1 : (xp == yp) = false := by rw [beq_eq_false_iff_ne]; exact e3
          have n2 : (xp != yp) = true := by rw [bne_iff_ne]; exact e3
          have n3 : decide (xp = yp) = false := decide_eq_false e3
          have HN := Lib.hid (HNO.out (by intro h; simp only [Ib.mk.injEq] at h; exact e3 (by simp_all)))
          go_wp2
          go_region_held3 (fun w' => w'.cell? ⟨b1, o1 + k * 4, none⟩ = some (.int .i64 xg) ∧ w'.cell? ⟨b1, o1 + k * 4 + 1, none⟩ = some (.int .i64 xk) ∧ w'.cell? ⟨b1, o1 + k * 4 + 2, none⟩ = some (.int .i64 xv) ∧ w'.cell? ⟨b1, o1 + k * 4 + 3, none⟩ = some (.int .i64 xp) ∧ w'.cell? ⟨b2, o2 + k * 4, none⟩ = some (.int .i64 xg) ∧ w'.cell? ⟨b2, o2 + k * 4 + 1, none⟩ = some (.int .i64 xk) ∧ w'.cell? ⟨b2, o2 + k * 4 + 2, none⟩ = some (.int .i64 xv) ∧ w'.cell? ⟨b2, o2 + k * 4 + 3, none⟩ = some (.int .i64 yp))
            (first | (go_keep; done) | exact ⟨x1, x2, x3, x4, y1, y2, y3, y4⟩)
            (fail)
          go_wp2
          go_ret
          exact ⟨ret_bool HN.out.symm, by first | exact dn1 .. | exact dn2 ..⟩
        subst e3
        have HN := Lib.hid (HSN.out (by first | exact trivial | rfl))
        go_wp2
        go_region_held3 (fun w' => w'.cell? ⟨b1, o1 + k * 4, none⟩ = some (.int .i64 xg) ∧ w'.cell? ⟨b1, o1 + k * 4 + 1, none⟩ = some (.int .i64 xk) ∧ w'.cell? ⟨b1, o1 + k * 4 + 2, none⟩ = some (.int .i64 xv) ∧ w'.cell? ⟨b1, o1 + k * 4 + 3, none⟩ = some (.int .i64 xp) ∧ w'.cell? ⟨b2, o2 + k * 4, none⟩ = some (.int .i64 xg) ∧ w'.cell? ⟨b2, o2 + k * 4 + 1, none⟩ = some (.int .i64 xk) ∧ w'.cell? ⟨b2, o2 + k * 4 + 2, none⟩ = some (.int .i64 xv) ∧ w'.cell? ⟨b2, o2 + k * 4 + 3, none⟩ = some (.int .i64 xp))
          (first | (go_keep; done) | exact ⟨x1, x2, x3, x4, y1, y2, y3, y4⟩)
          (fail)
        go_wp2
        go_roundw
        case rel => exact ⟨k + 1, by omega, by go_num, HN.out, by first | exact dn1 .. | exact dn2 ..⟩
        case measure => simp [intOf]; omega
      · have hkk : k = a.length := by omega
        subst hkk
        have HL2 := Lib.hid (eqI_all HL.out HE.out)
        go_wp2
        go_ret
        exact ⟨ret_bool HL2.out.symm, dn1 ..⟩
  · go_enter Tryd.func65, Tryd.ntmps65
    go_wp2
    go_ret
    exact ⟨ret_bool (eqI_len hl).symm, dn0 _⟩
end Go.Proofs.YtnbggokmiokhlaaDoor
