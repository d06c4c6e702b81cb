
/-
  What numbers a state holds behind a call; the walk of awake.
-/
import Derived.Test.YtiholfpcndjliaaDoorCeg
namespace Go.Proofs.YtiholfpcndjliaaDoor
set_option linter.unusedVariables false
set_option linter.unusedSimpArgs false
open Go.RowKit

theorem getD_set_le {l : List Nat} {i j x N : Nat} (h : ∀ a, l.getD a 0 ≤ N) (hx : x ≤ N) : (l.set i x).getD j 0 ≤ N := by
  by_cases e : i = j
  · subst e
    by_cases hi : i < l.length
    · simpa [List.getD_eq_getElem?_getD, List.getElem?_set_self hi] using hx
    · rw [List.getD_eq_getElem?_getD, List.getElem?_eq_none (by simp; omega)]; simp
  · have := h j
    simpa [List.getD_eq_getElem?_getD, List.getElem?_set_ne e] using this

theorem putV_lt (s : St) (a v : Nat) (hv : v < 4294967296) : putV s a v < 4294967296 := by
  unfold putV
  split
  · exact Nat.xor_lt_two_pow (n := 32) hv (u32_shl _ (by omega))
  · exact hv
theorem Fine.put {s : St} {N : Nat} (h : Fine s N) (a v : Nat) (hv : v < 4294967296) : Fine (putS s a v) (N + 1) where
  wr := by have := h.wr; simp [putS]; omega
  cu := by have := h.cu; simp [putS]; omega
  we := fun i => getD_set_le (fun a => by have := h.we a; omega) (by have := h.we a; omega)
  en := h.en
  cut := h.cut
  ws := fun i => by
    have := getD_set_le (N := 4294967295) (l := s.ws) (i := a) (j := i) (x := putV s a v) (fun a => by have := h.ws a; omega) (by have := putV_lt s a v hv; omega)
    show (s.ws.set a (putV s a v)).getD i 0 < _
    omega
theorem Fine.more {s : St} {N M : Nat} (h : Fine s N) (hm : N ≤ M) : Fine s M := ⟨by have := h.wr; omega, by have := h.cu; omega, fun a => by have := h.we a; omega, h.en, h.cut, h.ws⟩
theorem Fine.write {s : St} {N : Nat} (h : Fine s N) (a : Int) (v : Nat) (hv : v < 4294967296) : Fine (wrS s a v) (N + 1) := by
  unfold wrS
  split
  · rcases hc : s.cut with _ | k
    · exact h.put _ _ hv
    · rcases k with _ | k
      · exact ⟨by have := h.wr; show s.wr ≤ N + 1; omega, by have := h.cu; show s.cu + 1 ≤ N + 1; omega, fun a => by have := h.we a; show s.wear.getD a 0 ≤ N + 1; omega, h.en, fun k e => h.cut k (by rw [hc]; exact e), h.ws⟩
      · have h' : Fine { s with cut := some k } N := ⟨h.wr, h.cu, h.we, h.en, fun i e => by have := h.cut _ hc; cases e; omega, h.ws⟩
        exact h'.put _ _ hv
  · exact h.more (by omega)
theorem Fine.restore {s : St} {N : Nat} (h : Fine s N) : Fine (resS s) N := ⟨h.wr, h.cu, h.we, h.en, fun k e => (nomatch e), h.ws⟩
theorem Fine.toCut {s : St} {N : Nat} (h : Fine s N) (n : Int) (hn : n < 9223372036854775808) : Fine (cutS s n) N := by
  unfold cutS
  split
  · exact ⟨h.wr, h.cu, h.we, h.en, fun k e => by cases e; omega, h.ws⟩
  · exact h
theorem Fine.flip {s : St} {N : Nat} (h : Fine s N) (a k : Int) : Fine (flS s a k) N := by
  unfold flS
  split
  · rename_i hok
    have hk : 0 ≤ a ∧ a < (s.ws.length : Int) ∧ 0 ≤ k ∧ k < 32 := of_decide_eq_true hok
    refine ⟨h.wr, h.cu, h.we, h.en, h.cut, fun i => ?_⟩
    have hx : s.ws.getD a.toNat 0 ^^^ 2 ^ k.toNat < 4294967296 := Nat.xor_lt_two_pow (n := 32) (h.ws _) (u32_shl _ (by omega))
    have := getD_set_le (N := 4294967295) (l := s.ws) (i := a.toNat) (j := i) (x := s.ws.getD a.toNat 0 ^^^ 2 ^ k.toNat) (fun a => by have := h.ws a; omega) (by omega)
    show (s.ws.set a.toNat (s.ws.getD a.toNat 0 ^^^ 2 ^ k.toNat)).getD i 0 < _
    omega
  · exact h
theorem rep0 (n a : Nat) : (List.replicate n 0).getD a 0 = 0 := by
  by_cases h : a < n
  · simp [h]
  · rw [List.getD_eq_getElem?_getD, List.getElem?_eq_none (by simp; omega)]; rfl
theorem Fine.new (n en : Nat) (h : en < 9223372036854775808) : Fine (st0 n en) 0 := ⟨Nat.le_refl _, Nat.le_refl _, fun a => by show (List.replicate n 0).getD a 0 ≤ 0; rw [rep0]; omega, h, fun k e => (nomatch e), fun a => by show (List.replicate n 0).getD a 0 < _; rw [rep0]; omega⟩

end Go.Proofs.YtiholfpcndjliaaDoor
