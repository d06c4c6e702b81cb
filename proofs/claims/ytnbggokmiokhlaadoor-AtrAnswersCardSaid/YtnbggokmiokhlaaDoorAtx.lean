/-
  fits: the walk.
-/
import Derived.Test.YtnbggokmiokhlaaDoorAtw
namespace Go.Proofs.YtnbggokmiokhlaaDoor
set_option linter.unusedVariables false
set_option linter.unusedSimpArgs false
open Go.RowKit

def fitB (x y : Ib) (P : List Int) : Bool :=
  if x.g = 1 then decide (x.p = 0) else if x.g = 2 then decide (x.p = P.getD 0 0) else if x.g = y.g then decide (x.p = y.p)
  else if 3 < x.g ∧ (x.g ≠ y.g + 1 ∨ x.p < y.p) then false else hasN P x.p

theorem ib_eq (a b : Int) : decide (a = b) = (a == b) := by rw [Bool.eq_iff_iff]; simp
theorem two_alloc (w : World) (a b : Obj) : Below w.heap.size w ((w.alloc a).alloc b) :=
  (alloc_below w _).trans ((alloc_below _ _).mono (by rw [alloc_size]; omega))
theorem below_dn {B : Nat} {a w w' : World} (h : Below B a w) (h' : ∃ n, w' = w.drewN n) : Below B a w' := by obtain ⟨n, rfl⟩ := h'; exact below_drewN h n
set_option maxRecDepth 100000 in
set_option maxHeartbeats 1600000 in
theorem pfit_any (x y : Ib) (P : List Int) (v : Value) (w : World) (h : NL w w.heap.size v P) (hP : 0 < P.length) (hx : x.g ≤ 9223372036854775807) (hy : 0 ≤ y.g) (hxy : y.g ≤ x.g) :
    Calls Tryd.prog 91 #[x.val, y.val, v] w fun e w' => e = .returned (.bool (fitB x y P)) ∧ Below w.heap.size w w' := by
  have H := Lib.hid h
  have HC := Lib.hid (fun (W : World) (hW : Below w.heap.size w W) => phas_any P x.p v W W.heap.size (H.out.on hW))
  have HF : Hid (∀ b, (if x.g = 1 then decide (x.p = 0) else if x.g = 2 then decide (x.p = P.getD 0 0) else if x.g = y.g then decide (x.p = y.p) else if 3 < x.g ∧ (x.g ≠ y.g + 1 ∨ x.p < y.p) then false else hasN P x.p) = b → b = fitB x y P) := fun b h => h.symm
  obtain ⟨A, c, rfl, h1, h2, h3⟩ := h
  obtain ⟨b, o, rfl, hb, hc⟩ := h3 hP
  have g0 := hc 0 hP
  simp only [Nat.add_zero] at g0
  unfold maxLen at h2
  clear h3 hc
  have hP' : (0 : Int) < (P.length : Int) := by omega
  generalize P.getD 0 0 = q at *
  generalize hasN P x.p = Y at *
  obtain ⟨g, k, z, p⟩ := x
  obtain ⟨g', k', z', p'⟩ := y
  simp only [Ib.val] at *
  by_cases e1 : g = 1
  · subst e1
    go_enter Tryd.func91, Tryd.ntmps91
    go_wp2_with fail
    go_ret
    exact ⟨ret_bool (HF.out _ (by simp [ib_eq])), two_alloc ..⟩
  by_cases e2 : g = 2
  · subst e2
    have g0' := ((two_alloc w (.cells #[.int .i64 2, .int .i64 k, .int .i64 z, .int .i64 p] 60) (.cells #[.int .i64 g', .int .i64 k', .int .i64 z', .int .i64 p'] 60)).cell (p := ⟨b, o, none⟩) hb).trans g0
    go_enter Tryd.func91, Tryd.ntmps91
    go_wp2_with fail
    go_quiet (fail)
    go_wp2_with fail
    go_ret
    exact ⟨ret_bool (HF.out _ (by simp [ib_eq])), by first | exact two_alloc .. | exact below_drewN (two_alloc ..) _⟩
  by_cases e3 : g = g'
  · subst e3
    go_enter Tryd.func91, Tryd.ntmps91
    go_wp2_with fail
    go_ret
    exact ⟨ret_bool (HF.out _ (by simp [e1, e2, ib_eq])), two_alloc ..⟩
  by_cases e4 : 3 < g
  · by_cases e5 : g = g' + 1
    · by_cases e6 : p < p'
      · go_enter Tryd.func91, Tryd.ntmps91
        go_wp2_with fail
        go_ret
        exact ⟨ret_bool (HF.out _ (by rw [if_neg e1, if_neg e2, if_neg e3, if_pos ⟨e4, Or.inr e6⟩])), two_alloc ..⟩
      · go_enter Tryd.func91, Tryd.ntmps91
        go_wp2_with fail
        refine (HC.out _ (two_alloc ..)).mono ?_
        rintro e w1 ⟨rfl, n, rfl⟩
        go_wp2_with fail
        go_ret
        exact ⟨ret_bool (HF.out _ (by rw [if_neg e1, if_neg e2, if_neg e3, if_neg (by omega)])), below_drewN (two_alloc ..) _⟩
    · go_enter Tryd.func91, Tryd.ntmps91
      go_wp2_with fail
      go_ret
      exact ⟨ret_bool (HF.out _ (by rw [if_neg e1, if_neg e2, if_neg e3, if_pos ⟨e4, Or.inl e5⟩])), two_alloc ..⟩
  · go_enter Tryd.func91, Tryd.ntmps91
    go_wp2_with fail
    refine (HC.out _ (two_alloc ..)).mono ?_
    rintro e w1 ⟨rfl, n, rfl⟩
    go_wp2_with fail
    go_ret
    exact ⟨ret_bool (HF.out _ (by rw [if_neg e1, if_neg e2, if_neg e3, if_neg (by omega)])), below_drewN (two_alloc ..) _⟩
end Go.Proofs.YtnbggokmiokhlaaDoor
