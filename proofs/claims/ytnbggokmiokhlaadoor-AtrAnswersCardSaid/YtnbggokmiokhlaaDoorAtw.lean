/-
  isOffer, isByte, isAfter: the walks.
-/
import Derived.Test.YtnbggokmiokhlaaDoorAtv
namespace Go.Proofs.YtnbggokmiokhlaaDoor
set_option linter.unusedVariables false
set_option linter.unusedSimpArgs false
open Go.RowKit

theorem ret_bool {a b : Bool} (h : a = b) : Ending.returned (.bool a) = .returned (.bool b) := by rw [h]
theorem dn0 (w : World) : ∃ m, w = w.drewN m := ⟨0, rfl⟩
/-- Whether a list holds a number. -/
def hasN (l : List Int) (x : Int) : Bool := decide (x ∈ l)
theorem idx_has (l : List Int) (x : Int) : decide (0 ≤ idxN l x) = hasN l x := by
  unfold hasN idxN
  by_cases h : x ∈ l
  · simp only [h, if_true, decide_true]; exact decide_eq_true (by omega)
  · simp only [h, if_false, decide_false]; rfl

set_option maxRecDepth 100000 in
theorem phas_any (l : List Int) (x : Int) (v : Value) (w : World) (B : Nat) (h : NL w B v l) :
    Calls Tryd.prog 63 #[v, .int .i64 x] w fun e w' => e = .returned (.bool (hasN l x)) ∧ ∃ n, w' = w.drewN n := by
  have HX := Lib.hid (pidx_any l x v w B h)
  have HE := Lib.hid (idx_has l x)
  obtain ⟨A, c, rfl, h1, h2, h3⟩ := h
  generalize idxN l x = i at *
  go_enter Tryd.func63, Tryd.ntmps63
  go_wp2_with fail
  refine HX.out.mono ?_
  rintro e w1 ⟨rfl, n, rfl⟩
  go_wp2_with fail
  go_ret
  exact ⟨ret_bool HE.out, dn1 ..⟩

def offB (l : List Int) : Bool := match l with
  | [x] => decide (x = 0) || decide (x = 1)
  | [x, y] => decide (x = 0) && decide (y = 1)
  | _ => false

set_option maxRecDepth 100000 in
theorem poff_any (l : List Int) (v : Value) (w : World) (B : Nat) (h : NL w B v l) :
    Calls Tryd.prog 88 #[v] w fun e w' => e = .returned (.bool (offB l)) ∧ ∃ n, w' = w.drewN n := by
  obtain ⟨A, c, rfl, h1, h2, h3⟩ := h
  unfold maxLen at h2
  match l with
  | [x] =>
    obtain ⟨b, o, rfl, hb, hc⟩ := h3 (by simp)
    have g0 := hc 0 (by simp)
    simp only [List.getD_cons_zero, Nat.add_zero] at g0
    have HB := Lib.hid (fun W => pisp_any x W)
    clear h3 hc
    simp only [List.length_cons, List.length_nil] at *
    go_enter Tryd.func88, Tryd.ntmps88
    go_wp2_with fail
    refine (HB.out _).mono ?_
    rintro e w1 ⟨rfl, rfl⟩
    go_wp2_with fail
    go_ret
    exact ⟨rfl, by first | exact dn0 _ | exact dn1 ..⟩
  | [] =>
    clear h3
    simp only [List.length_cons, List.length_nil] at *
    go_enter Tryd.func88, Tryd.ntmps88
    go_wp2_with fail
    go_ret
    exact ⟨rfl, by first | exact dn0 _ | exact dn1 ..⟩
  | [x, y] =>
    obtain ⟨b, o, rfl, hb, hc⟩ := h3 (by simp)
    have g0 := hc 0 (by simp)
    have g1 := hc 1 (by simp)
    simp only [List.getD_cons_zero, List.getD_cons_succ, Nat.add_zero] at g0 g1
    clear h3 hc
    simp only [List.length_cons, List.length_nil] at *
    by_cases h0 : x = 0
    · subst h0
      by_cases hy : y = 1
      · subst hy
        go_enter Tryd.func88, Tryd.ntmps88
        go_wp2_with fail
        go_ret
        exact ⟨rfl, by first | exact dn0 _ | exact dn1 ..⟩
      · go_enter Tryd.func88, Tryd.ntmps88
        go_wp2_with fail
        go_ret
        exact ⟨ret_bool (by simp [offB, hy]), by first | exact dn0 _ | exact dn1 ..⟩
    · go_enter Tryd.func88, Tryd.ntmps88
      go_wp2_with fail
      go_ret
      exact ⟨ret_bool (by simp [offB, h0]), by first | exact dn0 _ | exact dn1 ..⟩
  | x :: y :: z :: l =>
    clear h3
    have hn : 3 ≤ (x :: y :: z :: l).length := by simp
    have hF : offB (x :: y :: z :: l) = false := rfl
    generalize (x :: y :: z :: l) = L at *
    have HF := Lib.hid hF
    clear hF
    have hn' : (3 : Int) ≤ (L.length : Int) := by omega
    go_enter Tryd.func88, Tryd.ntmps88
    go_wp2_with fail
    go_ret
    exact ⟨ret_bool HF.out.symm, by first | exact dn0 _ | exact dn1 ..⟩

theorem ib_bool (a b c d e f g h : Bool) (h1 : a = e) (h2 : b = f) : (a && b) = (e && f) := by rw [h1, h2]
def ibB (x : Ib) : Bool := decide (1 ≤ x.g) && decide (0 ≤ x.k) && decide (x.k < 3) && decide (0 ≤ x.v) && decide (x.v ≤ 255)
set_option maxRecDepth 100000 in
theorem pibb_any (x : Ib) (w : World) : Calls Tryd.prog 89 #[x.val] w fun e w' => e = .returned (.bool (ibB x)) ∧ Below w.heap.size w w' := by
  obtain ⟨g, k, v, p⟩ := x
  simp only [Ib.val]
  by_cases h1 : 1 ≤ g
  · by_cases h2 : 0 ≤ k
    · by_cases h3 : k < 3
      · by_cases h4 : 0 ≤ v
        · by_cases h5 : v ≤ 255
          · go_enter Tryd.func89, Tryd.ntmps89
            go_wp2_with fail
            go_ret
            exact ⟨ret_bool (by first | (simp [ibB, h1, h2, h3, h4, h5]; done) | (simp [ibB, h1, h2, h3, h4, h5]; intros; omega)), alloc_below _ _⟩
          · go_enter Tryd.func89, Tryd.ntmps89
            go_wp2_with fail
            go_ret
            exact ⟨ret_bool (by first | (simp [ibB, h1, h2, h3, h4, h5]; done) | (simp [ibB, h1, h2, h3, h4, h5]; intros; omega)), alloc_below _ _⟩
        · go_enter Tryd.func89, Tryd.ntmps89
          go_wp2_with fail
          go_ret
          exact ⟨ret_bool (by first | (simp [ibB, h1, h2, h3, h4]; done) | (simp [ibB, h1, h2, h3, h4]; intros; omega)), alloc_below _ _⟩
      · go_enter Tryd.func89, Tryd.ntmps89
        go_wp2_with fail
        go_ret
        exact ⟨ret_bool (by first | (simp [ibB, h1, h2, h3]; done) | (simp [ibB, h1, h2, h3]; intros; omega)), alloc_below _ _⟩
    · go_enter Tryd.func89, Tryd.ntmps89
      go_wp2_with fail
      go_ret
      exact ⟨ret_bool (by first | (simp [ibB, h1, h2]; done) | (simp [ibB, h1, h2]; intros; omega)), alloc_below _ _⟩
  · go_enter Tryd.func89, Tryd.ntmps89
    go_wp2_with fail
    go_ret
    exact ⟨ret_bool (by first | (simp [ibB, h1]; done) | (simp [ibB, h1]; intros; omega)), alloc_below _ _⟩

def aftB (x y : Ib) : Bool := decide (y.g < x.g) || (decide (x.g = y.g) && decide (y.k < x.k))
set_option maxRecDepth 100000 in
theorem paft_any (x y : Ib) (w : World) : Calls Tryd.prog 90 #[x.val, y.val] w fun e w' => e = .returned (.bool (aftB x y)) ∧ Below w.heap.size w w' := by
  obtain ⟨g, k, v, p⟩ := x
  obtain ⟨g', k', v', p'⟩ := y
  simp only [Ib.val]
  by_cases h1 : g' < g
  · go_enter Tryd.func90, Tryd.ntmps90
    go_wp2_with fail
    go_ret
    exact ⟨ret_bool (by first | (simp [aftB, h1]; done) | (simp [aftB, h1]; intros; omega)), (alloc_below w _).trans ((alloc_below _ _).mono (by rw [alloc_size]; omega))⟩
  · by_cases h2 : g = g'
    · subst h2
      by_cases h3 : k' < k
      · go_enter Tryd.func90, Tryd.ntmps90
        go_wp2_with fail
        go_ret
        exact ⟨ret_bool (by first | (simp [aftB, h3]; done) | (simp [aftB, h3]; intros; omega)), (alloc_below w _).trans ((alloc_below _ _).mono (by rw [alloc_size]; omega))⟩
      · go_enter Tryd.func90, Tryd.ntmps90
        go_wp2_with fail
        go_ret
        exact ⟨ret_bool (by first | (simp [aftB, h3]; done) | (simp [aftB, h3]; intros; omega)), (alloc_below w _).trans ((alloc_below _ _).mono (by rw [alloc_size]; omega))⟩
    · go_enter Tryd.func90, Tryd.ntmps90
      go_wp2_with fail
      go_ret
      exact ⟨ret_bool (by first | (simp [aftB, h1, h2]; done) | (simp [aftB, h1, h2]; intros; omega)), (alloc_below w _).trans ((alloc_below _ _).mono (by rw [alloc_size]; omega))⟩
end Go.Proofs.YtnbggokmiokhlaaDoor
