/-
  Which answers to reset are valid: the walks of the program.
-/
import Derived.Test.YtnbggokmiokhlaaDoorAtd
import Derived.Test.YtnbggokmiokhlaaDoorApp
namespace Go.Proofs.YtnbggokmiokhlaaDoor
set_option linter.unusedVariables false
set_option linter.unusedSimpArgs false
open Go.RowKit

theorem pisp_any (n : Int) (w : World) : Calls Tryd.prog 60 #[.int .i64 n] w fun e w' => e = .returned (.bool (decide (n = 0) || decide (n = 1))) ∧ w = w' := by
  by_cases h0 : n = 0
  · subst h0
    go_enter Tryd.func60, Tryd.ntmps60
    go_wp2_with fail
    go_ret
    exact ⟨rfl, rfl⟩
  · by_cases h1 : n = 1
    · subst h1
      go_enter Tryd.func60, Tryd.ntmps60
      go_wp2_with fail
      go_ret
      exact ⟨rfl, rfl⟩
    · go_enter Tryd.func60, Tryd.ntmps60
      go_wp2_with fail
      go_ret
      exact ⟨by simp [h0, h1], rfl⟩

theorem gD_get (l : List Int) (k : Nat) (h : k < l.length) : l.getD k 0 = l[k] := by simp [List.getD, List.getElem?_eq_getElem h]
theorem idxN_at (l : List Int) (x : Int) (k : Nat) (hk : k < l.length) (h : l.getD k 0 = x) (hb : ∀ j, j < k → l.getD j 0 ≠ x) : idxN l x = (k : Int) := by
  have hx : l[k] = x := by rw [gD_get l k hk] at h; exact h
  have hm : x ∈ l := hx ▸ List.getElem_mem hk
  rw [idxN, if_pos hm]
  have h1 : l.idxOf x ≤ k := by
    rcases Nat.lt_or_ge k (l.idxOf x) with h' | h'
    · exact absurd hx (by simpa using List.not_of_lt_findIdx (p := (· == x)) h')
    · exact h'
  have h2 : ¬ l.idxOf x < k := fun h' => by
    have hlt := List.idxOf_lt_length_iff.2 hm
    have := hb _ h'
    rw [gD_get l _ hlt] at this
    exact this (List.getElem_idxOf hlt)
  congr 1
  omega
theorem ne_snoc {l : List Int} {x : Int} {k : Nat} (h : ∀ j, j < k → l.getD j 0 ≠ x) (hk : l.getD k 0 ≠ x) : ∀ j, j < k + 1 → l.getD j 0 ≠ x := by
  intro j hj
  rcases Nat.lt_or_ge j k with h' | h'
  · exact h j h'
  · obtain rfl : j = k := by omega
    exact hk
theorem idxN_no (l : List Int) (x : Int) (h : ∀ j, j < l.length → l.getD j 0 ≠ x) : idxN l x = -1 := by
  rw [idxN, if_neg]
  intro hm
  obtain ⟨j, hj, e⟩ := List.getElem_of_mem hm
  exact h j hj (by rw [gD_get l j hj]; exact e)

set_option maxRecDepth 100000 in
theorem pidx_any (l : List Int) (x : Int) (v : Value) (w : World) (B : Nat) (h : NL w B v l) :
    Calls Tryd.prog 106 #[v, .int .i64 x] w fun e w' => e = .returned (.int .i64 (idxN l x)) ∧ ∃ n, w' = w.drewN n := by
  obtain ⟨A, c, rfl, h1, h2, h3⟩ := h
  unfold maxLen at h2
  go_enter Tryd.func106, Tryd.ntmps106
  go_wp2
  go_loopw [8] (fun i wr => ∃ k : Nat, k ≤ l.length ∧ i = .int .i64 k ∧ (∀ j, j < k → l.getD j 0 ≠ x) ∧ ∃ n, wr = w.drewN n) (fun i _ => l.length - (intOf i).toNat)
  case atStart => exact ⟨0, Nat.zero_le _, rfl, fun j hj => absurd hj (by omega), 0, rfl⟩
  case round =>
    obtain ⟨k, hk, rfl, heq, n, rfl⟩ := hrel
    have HE := Lib.hid heq
    clear heq
    by_cases hlt : k < l.length
    · obtain ⟨b, o, rfl, hb, hc⟩ := h3 (by omega)
      have g1 := hc k hlt
      clear hc h3
      generalize hy : l.getD k 0 = y at g1
      by_cases hxy : x = y
      · subst hxy
        have HY := Lib.hid hy
        clear hy
        go_wp2
        go_ret
        exact ⟨ret_int (idxN_at l x k hlt HY.out HE.out).symm, dn1 ..⟩
      · have HY := Lib.hid hy
        have HXY := Lib.hid hxy
        clear hy
        go_wp2
        go_roundw
        case rel => exact ⟨k + 1, by omega, by go_num, ne_snoc HE.out (by rw [HY.out]; exact fun e => HXY.out e.symm), dn1 ..⟩
        case measure => simp [intOf]; omega
    · have hkk : k = l.length := by omega
      subst hkk
      go_wp2
      go_ret
      exact ⟨ret_int (idxN_no l x HE.out).symm, dn1 ..⟩
end Go.Proofs.YtnbggokmiokhlaaDoor
