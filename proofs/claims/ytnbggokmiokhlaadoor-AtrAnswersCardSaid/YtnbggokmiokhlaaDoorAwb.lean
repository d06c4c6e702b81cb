/-
  has and protocols of the reference: the walks.
-/
import Derived.Test.YtnbggokmiokhlaaDoorAvz
namespace Go.Proofs.YtnbggokmiokhlaaDoor
set_option linter.unusedVariables false
set_option linter.unusedSimpArgs false
open Go.RowKit

theorem hasN_at (l : List Int) (x : Int) (k : Nat) (hk : k < l.length) (h : l.getD k 0 = x) : hasN l x = true := by
  rw [gD_get l k hk] at h
  exact decide_eq_true (h ▸ List.getElem_mem hk)
theorem hasN_no (l : List Int) (x : Int) (h : ∀ j, j < l.length → l.getD j 0 ≠ x) : hasN l x = false := by
  refine decide_eq_false fun hm => ?_
  obtain ⟨j, hj, e⟩ := List.getElem_of_mem hm
  exact h j hj (by rw [gD_get l j hj]; exact e)
set_option maxRecDepth 100000 in
theorem rhas_any (l : List Int) (x : Int) (v : Value) (w : World) (B : Nat) (h : NL w B v l) :
    Calls Tryd.prog 57 #[v, .int .i64 x] w fun e w' => e = .returned (.bool (hasN l x)) ∧ ∃ n, w' = w.drewN n := by
  obtain ⟨A, c, rfl, h1, h2, h3⟩ := h
  unfold maxLen at h2
  go_enter Tryd.func57, Tryd.ntmps57
  go_wp2
  go_loopw [5] (fun i wr => ∃ k : Nat, k ≤ l.length ∧ i = .int .i64 k ∧ (∀ j, j < k → l.getD j 0 ≠ x) ∧ ∃ n, wr = w.drewN n) (fun i _ => l.length - (intOf i).toNat)
  case atStart => exact ⟨0, Nat.zero_le _, rfl, fun j hj => absurd hj (by omega), 0, rfl⟩
  case round =>
    obtain ⟨k, hk, rfl, heq, n, rfl⟩ := hrel
    have HE := Lib.hid heq
    clear heq
    by_cases hlt : k < l.length
    · obtain ⟨b, o, rfl, hb, hc⟩ := h3 (by omega)
      have g1 := hc k hlt
      have HAT := Lib.hid (hasN_at l x k hlt)
      clear hc h3
      generalize hy : l.getD k 0 = y at *
      have HY := Lib.hid hy
      clear hy
      by_cases hxy : x = y
      · subst hxy
        go_wp2
        go_ret
        exact ⟨ret_bool (HAT.out (by first | exact trivial | rfl)).symm, by first | exact dn1 .. | exact dn0 _⟩
      · have HXY := Lib.hid hxy
        have n1 : (y == x) = false := by rw [beq_eq_false_iff_ne]; exact fun e => hxy e.symm
        go_wp2
        go_roundw
        case rel => exact ⟨k + 1, by omega, by go_num, ne_snoc HE.out (by rw [HY.out]; exact fun e => HXY.out e.symm), by first | exact dn1 .. | exact dn0 _⟩
        case measure => simp [intOf]; omega
    · have hkk : k = l.length := by omega
      subst hkk
      go_wp2
      go_ret
      exact ⟨ret_bool (hasN_no l x HE.out).symm, by first | exact dn1 .. | exact dn0 _⟩

set_option maxRecDepth 100000 in
theorem rpro_any (l : List Int) (v : Value) (w : World) (B : Nat) (h : NL w B v l) :
    Calls Tryd.prog 111 #[v] w fun e w' => e = .returned (.bool (offB l)) ∧ ∃ n, w' = w.drewN n := by
  obtain ⟨A, c, rfl, h1, h2, h3⟩ := h
  unfold maxLen at h2
  match l with
  | [x] =>
    obtain ⟨b, o, rfl, hb, hc⟩ := h3 (by simp)
    have g0 := hc 0 (by simp)
    simp only [List.getD_cons_zero, Nat.add_zero] at g0
    clear h3 hc
    simp only [List.length_cons, List.length_nil] at *
    by_cases h0 : x = 0
    · subst h0
      go_enter Tryd.func111, Tryd.ntmps111
      go_wp2_with fail
      go_ret
      exact ⟨rfl, by first | exact dn0 _ | exact dn1 ..⟩
    · by_cases h1 : x = 1
      · subst h1
        go_enter Tryd.func111, Tryd.ntmps111
        go_wp2_with fail
        go_ret
        exact ⟨rfl, by first | exact dn0 _ | exact dn1 ..⟩
      · have n0 : (x == 0) = false := by rw [beq_eq_false_iff_ne]; exact h0
        have n1 : (x == 1) = false := by rw [beq_eq_false_iff_ne]; exact h1
        go_enter Tryd.func111, Tryd.ntmps111
        go_wp2_with fail
        go_ret
        exact ⟨ret_bool (by simp [offB, h0, h1]), by first | exact dn0 _ | exact dn1 ..⟩
  | [] =>
    clear h3
    simp only [List.length_cons, List.length_nil] at *
    go_enter Tryd.func111, Tryd.ntmps111
    go_wp2_with fail
    go_ret
    exact ⟨rfl, by first | exact dn0 _ | exact dn1 ..⟩
  | [x, y] =>
    obtain ⟨b, o, rfl, hb, hc⟩ := h3 (by simp)
    have g0 := hc 0 (by simp)
    have g1 := hc 1 (by simp)
    simp only [List.getD_cons_zero, List.getD_cons_succ, Nat.add_zero] at g0 g1
    clear h3 hc
    simp only [List.length_cons, List.length_nil] at *
    by_cases h0 : x = 0
    · subst h0
      by_cases hy : y = 1
      · subst hy
        go_enter Tryd.func111, Tryd.ntmps111
        go_wp2_with fail
        go_ret
        exact ⟨rfl, by first | exact dn0 _ | exact dn1 ..⟩
      · have n1 : (y == 1) = false := by rw [beq_eq_false_iff_ne]; exact hy
        go_enter Tryd.func111, Tryd.ntmps111
        go_wp2_with fail
        go_ret
        exact ⟨ret_bool (by simp [offB, hy]), by first | exact dn0 _ | exact dn1 ..⟩
    · have n0 : (x == 0) = false := by rw [beq_eq_false_iff_ne]; exact h0
      go_enter Tryd.func111, Tryd.ntmps111
      go_wp2_with fail
      go_ret
      exact ⟨ret_bool (by simp [offB, h0]), by first | exact dn0 _ | exact dn1 ..⟩
  | x :: y :: z :: l =>
    clear h3
    have hn : 3 ≤ (x :: y :: z :: l).length := by simp
    have hF : offB (x :: y :: z :: l) = false := rfl
    generalize (x :: y :: z :: l) = L at *
    have HF := Lib.hid hF
    clear hF
    have n1 : ((L.length : Int) == 1) = false := by rw [beq_eq_false_iff_ne]; omega
    have n2 : ((L.length : Int) == 2) = false := by rw [beq_eq_false_iff_ne]; omega
    go_enter Tryd.func111, Tryd.ntmps111
    go_wp2_with fail
    go_ret
    exact ⟨ret_bool HF.out.symm, by first | exact dn0 _ | exact dn1 ..⟩
end Go.Proofs.YtnbggokmiokhlaaDoor
