
/-
  Layer 19: Same in general, the example in which every law ends.
-/
import Derived.Test.YtdalcldilmmgmaaDoorCif
namespace Go.Proofs.YtdalcldilmmgmaaDoor
set_option linter.unusedVariables false
set_option linter.unusedSimpArgs false
open Go.RowKit

theorem ret_bool {a b : Bool} (h : a = b) : Ending.returned (.bool a) = .returned (.bool b) := by rw [h]
theorem cmpL_iff (a b : List UInt8) : (cmpL a b == 0) = decide (a = b) := by
  rw [Bool.eq_iff_iff, beq_iff_eq, decide_eq_true_iff]
  exact ⟨cmpL_eq_zero, fun h => by rw [h, cmpL_self]⟩
/-- The reference's Same. -/
theorem rsame_any (a b : List UInt8) (v u : Value) (w : World) (B : Nat) (ha : SL w B v a) (hb : SL w B u b) :
    Calls Tryd.prog 19 #[v, u] w fun e w' => e = .returned (.bool (decide (a = b))) ∧ ∃ n, w' = w.drewN n := by
  have hc := rcmp_any a b v u w B ha hb
  have HI := Lib.hid (cmpL_iff a b)
  generalize cmpL a b = z at *
  have HC := Lib.hid hc
  clear hc
  obtain ⟨A1, c1, rfl, h11, h12, h13⟩ := ha
  obtain ⟨A2, c2, rfl, h21, h22, h23⟩ := hb
  clear h13 h23
  go_enter Tryd.func19, Tryd.ntmps19
  go_wp2_with (go_at_call 35; refine HC.out.mono ?_; rintro e w' ⟨rfl, n, rfl⟩)
  go_ret
  exact ⟨ret_bool HI.out, n, rfl⟩

theorem mkz7 (W : World) : (Instr.makeSlice 22 (.int .i64 7) (.int .i64 7)).run Tryd.prog W = .ok (.slice (some ⟨W.heap.size, 0, none⟩) 7 7) (W.alloc (.cells (List.replicate 7 (.int .u8 0)).toArray 5)) := by kernel_rfl
theorem mkz8 (W : World) : (Instr.makeSlice 22 (.int .i64 8) (.int .i64 8)).run Tryd.prog W = .ok (.slice (some ⟨W.heap.size, 0, none⟩) 8 8) (W.alloc (.cells (List.replicate 8 (.int .u8 0)).toArray 5)) := by kernel_rfl
theorem mkz15 (W : World) : (Instr.makeSlice 22 (.int .i64 15) (.int .i64 15)).run Tryd.prog W = .ok (.slice (some ⟨W.heap.size, 0, none⟩) 15 15) (W.alloc (.cells (List.replicate 15 (.int .u8 0)).toArray 5)) := by kernel_rfl
theorem mkz16 (W : World) : (Instr.makeSlice 22 (.int .i64 16) (.int .i64 16)).run Tryd.prog W = .ok (.slice (some ⟨W.heap.size, 0, none⟩) 16 16) (W.alloc (.cells (List.replicate 16 (.int .u8 0)).toArray 5)) := by kernel_rfl
theorem ob_zeros (n : Nat) (hn : n ≤ 1000) (W : World) : OB (W.alloc (.cells (List.replicate n (.int .u8 0)).toArray 5)) W.heap.size (.slice (some ⟨W.heap.size, 0, none⟩) n n) (List.replicate n 0) :=
  OB.of_cells (Nat.le_refl _) (by simp) (by unfold maxLen; omega) (by rw [heap_alloc_new, List.map_replicate]; rfl)
/-- What a function gives, told from an elder world. -/
def CiW (r : List UInt8) (E : Int) (w : World) (e : Ending) (w' : World) : Prop := ∃ v', e = .returned (.tuple #[v', .int .i64 E]) ∧ SL w' w'.heap.size v' r ∧ Below w.heap.size w w'
theorem CiP.to {r : List UInt8} {E : Int} {w w0 : World} {e : Ending} {w' : World} (h : CiP r E w e w') (hb : Below w0.heap.size w0 w) : CiW r E w0 e w' := by
  obtain ⟨v, h1, h2, h3⟩ := h
  exact ⟨v, h1, h2.sl, hb.trans (h3.mono hb.size)⟩
/-- A call of two blocks of zeros that have just been made, in either order. -/
theorem two_mk {f : FuncId} {r : List UInt8} {E : Int} (n m : Nat) (Z Y : Obj) (hZ : ∀ W : World, OB (W.alloc Z) W.heap.size (.slice (some ⟨W.heap.size, 0, none⟩) n n) (List.replicate n 0)) (hY : ∀ W : World, OB (W.alloc Y) W.heap.size (.slice (some ⟨W.heap.size, 0, none⟩) m m) (List.replicate m 0))
    (hf : ∀ v u W, SL W W.heap.size v (List.replicate n 0) → SL W W.heap.size u (List.replicate m 0) → Calls Tryd.prog f #[v, u] W (CiP r E W)) (W : World) :
    Calls Tryd.prog f #[.slice (some ⟨W.heap.size, 0, none⟩) n n, .slice (some ⟨W.heap.size + 1, 0, none⟩) m m] ((W.alloc Z).alloc Y).drew (CiW r E W) ∧
    Calls Tryd.prog f #[.slice (some ⟨W.heap.size + 1, 0, none⟩) n n, .slice (some ⟨W.heap.size, 0, none⟩) m m] ((W.alloc Y).alloc Z).drew (CiW r E W) := by
  have b1 : ∀ X Y : Obj, Below W.heap.size W ((W.alloc X).alloc Y).drew := fun X Y => (alloc2_below W X Y).drew
  constructor
  · refine (hf _ _ _ ?_ ?_).mono fun e w' h => CiP.to h (b1 Z Y)
    · exact (hZ W).sl.on ((Below.refl _ _).alloc (Nat.le_refl _) Y).drew
    · have := (hY (W.alloc Z)).sl
      rw [alloc_size W Z] at this
      exact this
  · refine (hf _ _ _ ?_ ?_).mono fun e w' h => CiP.to h (b1 Y Z)
    · have := (hZ (W.alloc Y)).sl
      rw [alloc_size W Y] at this
      exact this
    · exact (hY W).sl.on ((Below.refl _ _).alloc (Nat.le_refl _) Z).drew
end Go.Proofs.YtdalcldilmmgmaaDoor
