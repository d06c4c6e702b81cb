
/-
  The walks of the reference's Check, and of Case, of the program and of the reference.
-/
import Derived.Test.YtdalcldilmmgmaaDoorCma
namespace Go.Proofs.YtdalcldilmmgmaaDoor
set_option linter.unusedVariables false
set_option linter.unusedSimpArgs false
open Go.RowKit

theorem chk_parts {c : Cm} (h : chkC c = 0) : bytesC c = true ∧ badC c = false ∧ (c.data.length : Int) ≤ maxD c.long ∧ 0 ≤ c.le ∧ c.le ≤ maxL c.long ∧ (c.long = true → ¬ (c.data.length = 0 ∧ c.le = 0)) := by
  unfold chkC at h
  cases h1 : bytesC c
  · rw [if_pos h1] at h; omega
  · rw [if_neg (by simp [h1])] at h
    cases h2 : badC c
    · rw [if_neg (by simp [h2])] at h
      by_cases h3 : maxD c.long < c.data.length
      · rw [if_pos h3] at h; omega
      · rw [if_neg h3] at h
        cases h4 : leC c
        · rw [if_neg (by simp [h4])] at h
          cases h5 : emptyC c
          · simp [leC] at h4
            simp [emptyC] at h5
            refine ⟨rfl, rfl, by omega, by omega, by omega, fun hl => ?_⟩
            rintro ⟨e1, e2⟩
            exact h5 hl (List.eq_nil_of_length_eq_zero e1) e2
          · rw [if_pos h5] at h; omega
        · rw [if_pos h4] at h; omega
    · rw [if_pos h2] at h; omega

/-- What Case answers. -/
def caseC (c : Cm) : Int := if chkC c = 0 then (if c.data.length = 0 then (if c.le = 0 then 1 else 2) else if c.le = 0 then 3 else 4) else 0
theorem maxL_le (b : Bool) : maxL b ≤ 65536 := by cases b <;> decide
theorem maxD_le (b : Bool) : maxD b ≤ 65535 := by cases b <;> decide

/-- What a box of the call's own holds behind a callee that wrote nothing that was there. -/
theorem box_cell {w w1 : World} {cs : Array Value} {T : TypeId} (hb : Below (w.heap.size + 1) (w.alloc (.cells cs T)) w1) (k : Nat) (v : Value) (h : cs[k]? = some v) : w1.cell? ⟨w.heap.size, k, none⟩ = some v := by
  rw [hb.cell (p := ⟨w.heap.size, k, none⟩) (by simp), cell_of_row _ w.heap.size _ cs T (0, 0) (heap_alloc_new w _), h]

end Go.Proofs.YtdalcldilmmgmaaDoor
