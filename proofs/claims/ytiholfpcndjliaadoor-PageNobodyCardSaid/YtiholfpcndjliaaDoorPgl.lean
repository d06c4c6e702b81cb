/-
  What writes in a row leave (mathematics).
-/
import Derived.Test.YtiholfpcndjliaaDoorPgk
namespace Go.Proofs.YtiholfpcndjliaaDoor
set_option linter.unusedVariables false
set_option linter.unusedSimpArgs false
open Go.RowKit

def setL (ws : List Nat) (l : List Wr) : List Nat := l.foldl (fun ws x => ws.set x.a x.v) ws
theorem setL_len (l : List Wr) : ∀ ws, (setL ws l).length = ws.length := by
  induction l with
  | nil => intro ws; rfl
  | cons x l ih => intro ws; show (setL (ws.set x.a x.v) l).length = _; rw [ih]; simp
theorem getD_set_eq (ws : List Nat) (a v : Nat) (h : a < ws.length) : (ws.set a v).getD a 0 = v := by simp [List.getD_eq_getElem?_getD, List.getElem?_set_self h]
theorem getD_set_ne (ws : List Nat) {a b : Nat} (v : Nat) (h : a ≠ b) : (ws.set a v).getD b 0 = ws.getD b 0 := by simp [List.getD_eq_getElem?_getD, List.getElem?_set_ne h]
theorem setL_snoc (ws : List Nat) (l : List Wr) (x : Wr) : setL ws (l ++ [x]) = (setL ws l).set x.a x.v := by simp [setL, List.foldl_append]
theorem setL_off {l : List Wr} {a : Nat} : ∀ ws, (∀ x ∈ l, x.a ≠ a) → (setL ws l).getD a 0 = ws.getD a 0 := by
  induction l with
  | nil => intro ws _; rfl
  | cons x l ih =>
    intro ws h
    show (setL (ws.set x.a x.v) l).getD a 0 = _
    rw [ih _ fun y hy => h y (by simp [hy]), getD_set_ne _ _ (h x (by simp))]
theorem setL_or {l : List Wr} {a : Nat} : ∀ ws, (setL ws l).getD a 0 = ws.getD a 0 ∨ ∃ x ∈ l, x.a = a ∧ (setL ws l).getD a 0 = x.v := by
  induction l with
  | nil => intro ws; exact .inl rfl
  | cons x l ih =>
    intro ws
    rcases ih (ws.set x.a x.v) with h | ⟨y, hy, e1, e2⟩
    · by_cases e : x.a = a
      · by_cases hl : x.a < ws.length
        · refine .inr ⟨x, by simp, e, ?_⟩
          show (setL (ws.set x.a x.v) l).getD a 0 = _
          rw [h, ← e, getD_set_eq _ _ _ hl]
        · refine .inl ?_
          show (setL (ws.set x.a x.v) l).getD a 0 = _
          rw [h, List.set_eq_of_length_le (by omega)]
      · refine .inl ?_
        show (setL (ws.set x.a x.v) l).getD a 0 = _
        rw [h, getD_set_ne _ _ e]
    · exact .inr ⟨y, by simp [hy], e1, e2⟩
theorem setL_all {l : List Wr} {a v : Nat} : ∀ ws, a < ws.length → (∃ x ∈ l, x.a = a) → (∀ x ∈ l, x.a = a → x.v = v) → (setL ws l).getD a 0 = v := by
  induction l with
  | nil => intro ws _ h; obtain ⟨x, hx, _⟩ := h; cases hx
  | cons x l ih =>
    intro ws hl h1 h2
    show (setL (ws.set x.a x.v) l).getD a 0 = _
    by_cases h3 : ∃ y ∈ l, y.a = a
    · exact ih _ (by simpa using hl) h3 fun y hy => h2 y (by simp [hy])
    · have h4 : x.a = a := by
        obtain ⟨y, hy, e⟩ := h1
        rcases List.mem_cons.1 hy with rfl | hy
        · exact e
        · exact absurd ⟨y, hy, e⟩ h3
      rw [setL_off _ fun y hy e => h3 ⟨y, hy, e⟩, h4, getD_set_eq _ _ _ hl]
      exact h2 x (by simp) h4

/-- A memory with power, whose words endure. -/
structure Run (s : St) (N : Nat) : Prop where
  on : s.on = true
  fine : Fine s N
  en : s.en = 1073741824
theorem Run.more {s : St} {N M : Nat} (h : Run s N) (hm : N ≤ M) : Run s M := ⟨h.on, h.fine.more hm, h.en⟩
/-- One write. -/
theorem step_run {s : St} {N : Nat} (h : Run s N) (hN : N < 1000000) (x : Wr) (hx : x.v < 4294967296) (ha : x.a < s.ws.length) :
    ((stepC s x).2 = 0 ∧ (stepC s x).1.ws = s.ws.set x.a x.v ∧ Run (stepC s x).1 (N + 1) ∧ (stepC s x).1.cu = s.cu ∧ (s.cut = none → (stepC s x).1.cut = none)) ∨
    ((stepC s x).2 = 7 ∧ (stepC s x).1.ws = s.ws ∧ (stepC s x).1.on = false ∧ (stepC s x).1.cu = s.cu + 1 ∧ Fine (stepC s x).1 (N + 1) ∧ (stepC s x).1.en = 1073741824 ∧ s.cut ≠ none) := by
  have hfine := h.fine.stepC x hx
  have hen := h.en
  have hwe := h.fine.we x.a
  have hz : accE s (x.a : Int) = 0 := by unfold accE; rw [if_neg (by rw [h.on]; simp), if_pos (by omega)]
  have hpv : ∀ c : Option Nat, putV { s with cut := c } x.a x.v = x.v := fun c => by unfold putV; rw [if_neg (by show ¬ s.en < s.wear.getD x.a 0 + 1; omega)]
  revert hfine
  unfold stepC
  by_cases hc : x.c = true ∧ s.ws.getD x.a 0 = x.v
  · rw [if_pos hc]
    intro hfine
    refine .inl ⟨rfl, ?_, ⟨h.on, hfine, hen⟩, rfl, fun h => h⟩
    have hg : s.ws[x.a] = x.v := by have := hc.2; rw [List.getD_eq_getElem?_getD, List.getElem?_eq_getElem ha] at this; simpa using this
    rw [← hg]
    exact (List.set_getElem_self ha).symm
  · rw [if_neg hc]
    intro hfine
    have hE : wrE s (x.a : Int) = if s.cut = some 0 then 7 else 0 := by unfold wrE; rw [if_pos hz]
    rcases hcut : s.cut with _ | k
    · rw [hcut] at hE
      have hE : wrE s (x.a : Int) = 0 := hE
      have hS : wrS s (x.a : Int) x.v = putS s x.a x.v := by unfold wrS; rw [if_pos hz, Int.toNat_natCast]; simp only [hcut]
      rw [hS] at hfine
      have hp : putV s x.a x.v = x.v := by have := hpv none; unfold putV at this ⊢; exact this
      exact .inl ⟨hE, by rw [hS]; show s.ws.set x.a (putV s x.a x.v) = _; rw [hp], by rw [hS]; exact ⟨h.on, hfine, hen⟩, by rw [hS]; rfl, fun _ => by rw [hS]; exact hcut⟩
    · rcases k with _ | k
      · rw [hcut] at hE
        have hE : wrE s (x.a : Int) = 7 := hE
        have hS : wrS s (x.a : Int) x.v = { s with on := false, cu := s.cu + 1 } := by unfold wrS; rw [if_pos hz, Int.toNat_natCast]; simp only [hcut]
        rw [hS] at hfine
        exact .inr ⟨hE, by rw [hS], by rw [hS], by rw [hS], by rw [hS]; exact hfine, by rw [hS]; exact hen, by simp⟩
      · rw [hcut] at hE
        have hE : wrE s (x.a : Int) = 0 := by rw [hE]; simp
        have hS : wrS s (x.a : Int) x.v = putS { s with cut := some k } x.a x.v := by unfold wrS; rw [if_pos hz, Int.toNat_natCast]; simp only [hcut]
        rw [hS] at hfine
        exact .inl ⟨hE, by rw [hS]; show s.ws.set x.a (putV { s with cut := some k } x.a x.v) = _; rw [hpv], by rw [hS]; exact ⟨h.on, hfine, hen⟩, by rw [hS]; rfl, fun h => by cases h⟩
/-- Writes in a row: all of them, or some of the first and a cut. -/
theorem run_pre : ∀ (l : List Wr) (s : St) (N : Nat), Run s N → N + l.length < 1000000 → (∀ x ∈ l, x.v < 4294967296 ∧ x.a < s.ws.length) →
    ((runC s l).2 = 0 ∧ (runC s l).1.ws = setL s.ws l ∧ Run (runC s l).1 (N + l.length) ∧ (runC s l).1.cu = s.cu ∧ (s.cut = none → (runC s l).1.cut = none)) ∨
    ∃ k, k < l.length ∧ (runC s l).2 = 7 ∧ (runC s l).1.ws = setL s.ws (l.take k) ∧ (runC s l).1.on = false ∧ (runC s l).1.cu = s.cu + 1 ∧ Fine (runC s l).1 (N + l.length) ∧ (runC s l).1.en = 1073741824 ∧ s.cut ≠ none
  | [], s, N, h, _, _ => .inl ⟨rfl, rfl, h, rfl, fun h => h⟩
  | x :: l, s, N, h, hN, hl => by
    simp only [List.length_cons] at hN ⊢
    rcases step_run h (by omega) x (hl x (by simp)).1 (hl x (by simp)).2 with ⟨h1, h2, h3, h4, h5⟩ | ⟨h1, h2, h3, h4, h5, h6, h7⟩
    · have e : runC s (x :: l) = runC (stepC s x).1 l := by show (if (stepC s x).2 = 0 then _ else _) = _; rw [if_pos h1]
      rw [e]
      rcases run_pre l (stepC s x).1 (N + 1) h3 (by omega) (fun y hy => by rw [stepC_len]; exact hl y (by simp [hy])) with ⟨g1, g2, g3, g4, g5⟩ | ⟨k, g0, g1, g2, g3, g4, g5, g6, g7⟩
      · exact .inl ⟨g1, by rw [g2, h2]; rfl, g3.more (by omega), by rw [g4, h4], fun hc => g5 (h5 hc)⟩
      · exact .inr ⟨k + 1, by omega, g1, by rw [g2, h2]; rfl, g3, by rw [g4, h4], g5.more (by omega), g6, fun hc => g7 (h5 hc)⟩
    · have e : runC s (x :: l) = stepC s x := by show (if (stepC s x).2 = 0 then _ else _) = _; rw [if_neg (by rw [h1]; omega)]
      rw [e]
      exact .inr ⟨0, by omega, h1, by rw [h2]; rfl, h3, h4, h5.more (by omega), h6, h7⟩
end Go.Proofs.YtiholfpcndjliaaDoor
