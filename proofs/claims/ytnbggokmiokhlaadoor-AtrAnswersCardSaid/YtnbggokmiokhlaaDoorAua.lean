/-
  isOwn, IndexFunc and ContainsFunc with it: the walks.
-/
import Derived.Test.YtnbggokmiokhlaaDoorAty
namespace Go.Proofs.YtnbggokmiokhlaaDoor
set_option linter.unusedVariables false
set_option linter.unusedSimpArgs false
open Go.RowKit

def ownB (x : Ib) : Bool := decide (3 ≤ x.g) && decide (x.p = 1)
set_option maxRecDepth 100000 in
theorem pown_any (x : Ib) (w : World) : Calls Tryd.prog 103 #[x.val] w fun e w' => e = .returned (.bool (ownB x)) ∧ Below w.heap.size w w' := by
  obtain ⟨g, k, v, p⟩ := x
  simp only [Ib.val]
  by_cases h1 : 3 ≤ g
  · by_cases h2 : p = 1
    · subst h2
      go_enter Tryd.func103, Tryd.ntmps103
      go_wp2_with fail
      go_ret
      exact ⟨ret_bool (by simp [ownB, h1]), alloc_below _ _⟩
    · go_enter Tryd.func103, Tryd.ntmps103
      go_wp2_with fail
      go_ret
      exact ⟨ret_bool (by simp [ownB, h1, h2]), alloc_below _ _⟩
  · go_enter Tryd.func103, Tryd.ntmps103
    go_wp2_with fail
    go_ret
    exact ⟨ret_bool (by simp [ownB]; intros; omega), alloc_below _ _⟩

/-- The place of the first element that f takes, or -1. -/
def idxF (f : Ib → Bool) (l : List Ib) : Int := if l.any f then (l.findIdx f : Int) else -1
theorem gD_ib (l : List Ib) (k : Nat) (h : k < l.length) : l.getD k Ib.zero = l[k] := by simp [List.getD, List.getElem?_eq_getElem h]
theorem idxF_at (f : Ib → Bool) (l : List Ib) (k : Nat) (hk : k < l.length) (h : f (l.getD k Ib.zero) = true) (hb : ∀ j, j < k → f (l.getD j Ib.zero) = false) : idxF f l = (k : Int) := by
  rw [gD_ib l k hk] at h
  have hm : l.any f = true := List.any_eq_true.2 ⟨l[k], List.getElem_mem hk, h⟩
  rw [idxF, if_pos hm]
  have h1 : l.findIdx f ≤ k := by
    rcases Nat.lt_or_ge k (l.findIdx f) with h' | h'
    · exact absurd h (by simpa using List.not_of_lt_findIdx h')
    · exact h'
  have h2 : ¬ l.findIdx f < k := fun h' => by
    have hlt : l.findIdx f < l.length := by omega
    have := hb _ h'
    rw [gD_ib l _ hlt] at this
    have e := List.findIdx_getElem (p := f) (w := hlt)
    rw [this] at e
    cases e
  congr 1
  omega
theorem idxF_no (f : Ib → Bool) (l : List Ib) (h : ∀ j, j < l.length → f (l.getD j Ib.zero) = false) : idxF f l = -1 := by
  rw [idxF, if_neg]
  intro hm
  obtain ⟨x, hx, e⟩ := List.any_eq_true.1 hm
  obtain ⟨j, hj, rfl⟩ := List.getElem_of_mem hx
  have := h j hj
  rw [gD_ib l j hj, e] at this
  cases this
theorem no_snoc {f : Ib → Bool} {l : List Ib} {k : Nat} (h : ∀ j, j < k → f (l.getD j Ib.zero) = false) (hk : f (l.getD k Ib.zero) = false) : ∀ j, j < k + 1 → f (l.getD j Ib.zero) = false := by
  intro j hj
  rcases Nat.lt_or_ge j k with h' | h'
  · exact h j h'
  · obtain rfl : j = k := by omega
    exact hk

set_option maxRecDepth 100000 in
set_option maxHeartbeats 1600000 in
theorem pidf_any (l : List Ib) (v : Value) (w : World) (h : IL w w.heap.size v l) :
    Calls Tryd.prog 101 #[v, .func (.func 103) #[] #[]] w fun e w' => e = .returned (.int .i64 (idxF ownB l)) ∧ Below w.heap.size w w' := by
  obtain ⟨A, c, rfl, h1, h2, h3⟩ := h
  unfold maxLen at h2
  have D1 := Lib.hid h3
  clear h3
  go_enter Tryd.func101, Tryd.ntmps101
  go_wp2
  go_loopw [8] (fun i wr => ∃ k : Nat, k ≤ l.length ∧ i = .int .i64 k ∧ Hid (∀ j, j < k → ownB (l.getD j Ib.zero) = false) ∧ Below w.heap.size w wr) (fun i _ => l.length - (intOf i).toNat)
  case atStart => exact ⟨0, Nat.zero_le _, rfl, fun j hj => absurd hj (by omega), Below.refl _ _⟩
  case round =>
    obtain ⟨k, hk, rfl, HE, hbel⟩ := hrel
    by_cases hlt : k < l.length
    · obtain ⟨b, o, rfl, hb, hc⟩ := D1.out (by omega)
      have hi := (hc k hlt).keep hb (fun p hp => hbel.cell hp)
      have HAT := Lib.hid (idxF_at ownB l k hlt)
      have HSN := Lib.hid (@no_snoc ownB l k HE.out)
      clear hc
      generalize l.getD k Ib.zero = x at hi HAT HSN
      obtain ⟨xg, xk, xv, xp⟩ := x
      obtain ⟨g1, g2, g3, g4⟩ := hi
      simp only at g1 g2 g3 g4
      have HO : Hid (∀ W, Calls Tryd.prog 103 #[.agg #[.int .i64 xg, .int .i64 xk, .int .i64 xv, .int .i64 xp]] W fun e w' => e = .returned (.bool (ownB ⟨xg, xk, xv, xp⟩)) ∧ Below W.heap.size W w') := fun W => pown_any ⟨xg, xk, xv, xp⟩ W
      generalize ownB ⟨xg, xk, xv, xp⟩ = X at *
      have HB := Lib.hid hbel
      clear hbel
      go_wp2_with fail
      refine (HO.out _).mono ?_
      rintro e w2 ⟨rfl, hb2⟩
      have HB2 := Lib.hid (HB.out.trans (hb2.mono HB.out.size))
      clear hb2
      cases X with
      | true =>
        go_wp2_with fail
        go_ret
        exact ⟨ret_int (HAT.out (by first | exact trivial | rfl) HE.out).symm, HB2.out⟩
      | false =>
        go_wp2_with fail
        go_roundw
        case rel => exact ⟨k + 1, by omega, by go_num, HSN.out (by first | exact trivial | rfl), HB2.out⟩
        case measure => simp [intOf]; omega
    · have hkk : k = l.length := by omega
      subst hkk
      go_wp2
      go_ret
      exact ⟨ret_int (idxF_no ownB l HE.out).symm, hbel⟩
theorem idxF_any (f : Ib → Bool) (l : List Ib) : decide (0 ≤ idxF f l) = l.any f := by
  unfold idxF
  by_cases h : l.any f = true
  · rw [if_pos h, h]; exact decide_eq_true (by omega)
  · rw [if_neg h]; rw [Bool.not_eq_true] at h; rw [h]; rfl

set_option maxRecDepth 100000 in
theorem pcof_any (l : List Ib) (v : Value) (w : World) (h : IL w w.heap.size v l) :
    Calls Tryd.prog 117 #[v, .func (.func 103) #[] #[]] w fun e w' => e = .returned (.bool (l.any ownB)) ∧ Below w.heap.size w w' := by
  have HX := Lib.hid (pidf_any l v w h)
  have HE := Lib.hid (idxF_any ownB l)
  obtain ⟨A, c, rfl, h1, h2, h3⟩ := h
  generalize idxF ownB l = i at *
  go_enter Tryd.func117, Tryd.ntmps117
  go_wp2_with fail
  refine HX.out.mono ?_
  rintro e w1 ⟨rfl, hb1⟩
  go_wp2_with fail
  go_ret
  exact ⟨ret_bool HE.out, hb1⟩
end Go.Proofs.YtnbggokmiokhlaaDoor
