
/-
  A memory that New has made: the walks of the calls that write: Restore, Cut, fail, Flip, put, Write.
-/
import Derived.Test.YtiholfpcndjliaaDoorCec
namespace Go.Proofs.YtiholfpcndjliaaDoor
set_option linter.unusedVariables false
set_option linter.unusedSimpArgs false
open Go.RowKit

/-- The record alone has turned. -/
theorem MA.upd {w w' : World} {b g lf lf' : Nat} {s s' : St} (h : MA w b g s lf) (hr : w'.heap[b]? = some (.cells (mrow g s' lf') 100 (0, 0))) (hg : w'.heap[g]? = w.heap[g]?) (hs : w.heap.size ≤ w'.heap.size)
    (h1 : s'.ws = s.ws) (h2 : s'.wear = s.wear) (h3 : ∀ k, s'.cut = some k → lf' = k) : MA w' b g s' lf' :=
  ⟨hr, fun a ha => by rw [h1] at ha ⊢; exact (World.cell?_of_block (w := w) hg).trans (h.val a ha), fun a ha => by rw [h1] at ha; rw [h2]; exact (World.cell?_of_block (w := w) hg).trans (h.wea a ha),
    fun j => (World.frozen?_of_block (w := w) hg).trans (h.fz j), h.ne, Nat.lt_of_lt_of_le h.ltb hs, Nat.lt_of_lt_of_le h.ltg hs, by rw [h1, h2]; exact h.wl, by rw [h1]; exact h.n1, by rw [h1]; exact h.n2, h3⟩
theorem set_size (w : World) (p : Addr) (u : Value) : w.heap.size ≤ (w.setCell p u).heap.size := by simp [World.setCell]
theorem set_blk {w : World} {p : Addr} {u : Value} {k : Nat} (h : k ≠ p.block) : (w.setCell p u).heap[k]? = w.heap[k]? := Below.heap_setCell _ _ _ _ h

/-- A word's number has turned. -/
theorem MA.setw {w : World} {b g lf a : Nat} {s : St} (h : MA w b g s lf) (v : Nat) (z : Int) (hz : z = (v : Int)) : MA (w.setCell ⟨g, a * 2, none⟩ (.int .u32 z)) b g { s with ws := s.ws.set a v } lf := by
  subst hz
  refine ⟨?_, fun i hi => ?_, fun i hi => ?_, fun j => ?_, h.ne, by have := h.ltb; simpa [World.setCell] using this, by have := h.ltg; simpa [World.setCell] using this, by simpa using h.wl, by simpa using h.n1, by simpa using h.n2, h.lfc⟩
  · rw [set_blk h.ne, h.row]; simp [mrow]
  · simp only [List.length_set] at hi
    by_cases e : a = i
    · subst e
      simp only [List.getD_eq_getElem?_getD, List.getElem?_set_self hi, Option.getD_some]
      exact World.cell?_setCell_same _ _ _ (h.val a hi)
    · rw [World.cell?_setCell_other w _ _ _ (by simp <;> omega), h.val i hi]
      simp [List.getD_eq_getElem?_getD, List.getElem?_set_ne e]
  · simp only [List.length_set] at hi
    rw [World.cell?_setCell_other w _ _ _ (by simp <;> omega), h.wea i hi]
  · rw [World.frozen?_setCell]; exact h.fz j
/-- A word's wear has turned. -/
theorem MA.setr {w : World} {b g lf a : Nat} {s : St} (h : MA w b g s lf) (v : Nat) (z : Int) (hz : z = (v : Int)) : MA (w.setCell ⟨g, a * 2 + 1, none⟩ (.int .i64 z)) b g { s with wear := s.wear.set a v } lf := by
  subst hz
  refine ⟨?_, fun i hi => ?_, fun i hi => ?_, fun j => ?_, h.ne, by have := h.ltb; simpa [World.setCell] using this, by have := h.ltg; simpa [World.setCell] using this, by simpa using h.wl, by simpa using h.n1, by simpa using h.n2, h.lfc⟩
  · rw [set_blk h.ne, h.row]; simp [mrow]
  · rw [World.cell?_setCell_other w _ _ _ (by simp <;> omega), h.val i hi]
  · by_cases e : a = i
    · subst e
      have hi' : a < s.wear.length := by rw [h.wl]; exact hi
      simp only [List.getD_eq_getElem?_getD, List.getElem?_set_self hi', Option.getD_some]
      exact World.cell?_setCell_same _ _ _ (h.wea a hi)
    · rw [World.cell?_setCell_other w _ _ _ (by simp <;> omega), h.wea i hi]
      simp [List.getD_eq_getElem?_getD, List.getElem?_set_ne e]
  · rw [World.frozen?_setCell]; exact h.fz j

/-- Power again. -/
def resS (s : St) : St := { s with on := true, cut := none }
theorem restore_any {w : World} {b g lf : Nat} {s : St} (h : MA w b g s lf) :
    Calls Tryd.prog 31 #[.pointer (some ⟨b, 0, none⟩)] w fun e w' => e = .returned (.tuple #[]) ∧ MA w' b g (resS s) lf ∧ Kp b g w w' := by
  have HM := Lib.hid (made_any h)
  have HH := Lib.hid h
  have c4 := cell_of_row _ _ 4 _ _ _ h.row
  have c5 := cell_of_row _ _ 5 _ _ _ h.row
  have f4 := frozen_of_row _ _ 4 _ _ h.row
  have f5 := frozen_of_row _ _ 5 _ _ h.row
  clear h
  unfold mrow at c4 c5
  go_enter Tryd.func31, Tryd.ntmps31
  go_wp2_with (go_at_call 59; refine HM.out.mono ?_; rintro e w' ⟨rfl, rfl⟩)
  go_end0
  have h := HH.out
  have k1 := heap_set_row (i := 4) (u := .bool true) h.row
  have k2 := heap_set_row (i := 5) (u := .bool false) k1
  exact ⟨rfl, h.upd (by rw [k2]; rfl) (by rw [set_blk (Ne.symm h.ne), set_blk (Ne.symm h.ne)]) (by simp [World.setCell]) rfl rfl (fun k e => by cases e), ((Kp.refl b g _).set _ _ (.inl rfl)).set _ _ (.inl rfl)⟩

/-- A planned cut. -/
def cutE (s : St) (n : Int) : Int := if s.on = false then 7 else if n < 0 then 2 else 0
def cutS (s : St) (n : Int) : St := if cutE s n = 0 then { s with cut := some n.toNat } else s
theorem cut_any {w : World} {b g lf : Nat} {s : St} (h : MA w b g s lf) (n : Int) :
    Calls Tryd.prog 28 #[.pointer (some ⟨b, 0, none⟩), .int .i64 n] w fun e w' => e = .returned (.int .i64 (cutE s n)) ∧ (∃ lf', MA w' b g (cutS s n) lf') ∧ Kp b g w w' := by
  have HM := Lib.hid (made_any h)
  have HH := Lib.hid h
  have c4 := cell_of_row _ _ 4 _ _ _ h.row
  have c5 := cell_of_row _ _ 5 _ _ _ h.row
  have c6 := cell_of_row _ _ 6 _ _ _ h.row
  have f5 := frozen_of_row _ _ 5 _ _ h.row
  have f6 := frozen_of_row _ _ 6 _ _ h.row
  have HE : Hid (cutE s n = if s.on = false then 7 else if n < 0 then 2 else 0) := rfl
  have HS : Hid (cutS s n = if cutE s n = 0 then { s with cut := some n.toNat } else s) := rfl
  clear h
  unfold mrow at c4 c5 c6
  generalize cutE s n = q at *
  generalize cutS s n = t at *
  by_cases hon : s.on = false
  · rw [hon] at c4
    have HO := Lib.hid hon
    clear hon
    go_enter Tryd.func28, Tryd.ntmps28
    go_wp2_with (go_at_call 59; refine HM.out.mono ?_; rintro e w' ⟨rfl, rfl⟩)
    all_goals (
      go_ret
      have e := HE.out
      rw [if_pos HO.out] at e
      subst e
      have e := HS.out
      rw [if_neg (by decide)] at e
      subst e
      exact ⟨rfl, ⟨_, HH.out⟩, Kp.refl ..⟩)
  · have hon' : s.on = true := by simpa using hon
    rw [hon'] at c4
    have HO := Lib.hid hon
    clear hon hon'
    by_cases hn : n < 0
    · go_enter Tryd.func28, Tryd.ntmps28
      go_wp2_with (go_at_call 59; refine HM.out.mono ?_; rintro e w' ⟨rfl, rfl⟩)
      all_goals (
        go_ret
        have e := HE.out
        rw [if_neg HO.out, if_pos hn] at e
        subst e
        have e := HS.out
        rw [if_neg (by decide)] at e
        subst e
        exact ⟨rfl, ⟨_, HH.out⟩, Kp.refl ..⟩)
    · have HN : Hid (¬ n < 0) := hn
      go_enter Tryd.func28, Tryd.ntmps28
      go_wp2_with (go_at_call 59; refine HM.out.mono ?_; rintro e w' ⟨rfl, rfl⟩)
      go_ret
      have e := HE.out
      rw [if_neg HO.out, if_neg (show ¬ n < 0 by have := HN.out; omega)] at e
      subst e
      have e := HS.out
      rw [if_pos rfl] at e
      subst e
      have h := HH.out
      have k1 := heap_set_row (i := 5) (u := .bool true) h.row
      have k2 := heap_set_row (i := 6) (u := .int .i64 n) k1
      exact ⟨rfl, ⟨n.toNat, h.upd (by rw [k2]; simp [mrow]; omega) (by rw [set_blk (Ne.symm h.ne), set_blk (Ne.symm h.ne)]) (by simp [World.setCell]) rfl rfl (fun k e => by cases e; rfl)⟩, ((Kp.refl b g _).set _ _ (.inl rfl)).set _ _ (.inl rfl)⟩
end Go.Proofs.YtiholfpcndjliaaDoor
