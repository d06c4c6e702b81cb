/-
  Small words of the walks; the table of kinds.
-/
import Derived.Test.YtjkbfogjfgnhiaaDoorSec
import Derived.Test.YtjkbfogjfgnhiaaDoorCnl
import Derived.Deep.QuietTactic
import Derived.BigQuiet
import Derived.Lib.Hide
import Derived.IntWalk
import Derived.Laws.Rows
import Derived.Deep.RegionHeld3
import Derived.StillTailTactics
namespace Go.Proofs.YtjkbfogjfgnhiaaDoor
set_option linter.unusedVariables false
set_option linter.unusedSimpArgs false
open Go.RowKit

theorem ret_int {k : IntKind} {a b : Int} (h : a = b) : Ending.returned (.int k a) = .returned (.int k b) := by rw [h]
theorem ret_bool {a b : Bool} (h : a = b) : Ending.returned (.bool a) = .returned (.bool b) := by rw [h]
theorem alloc_below (w : World) (o : Obj) : Below w.heap.size w (w.alloc o) := (Below.refl _ w).alloc (Nat.le_refl _) o
theorem alloc_size (w : World) (o : Obj) : (w.alloc o).heap.size = w.heap.size + 1 := by simp
theorem after_alloc {w w' : World} {o : Obj} (h : Below (w.alloc o).heap.size (w.alloc o) w') : Below w.heap.size w w' :=
  (alloc_below w o).trans (h.mono (by rw [alloc_size]; omega))
theorem natb (n : Nat) : ((n : Int) == 0) = decide (n = 0) := by rw [Bool.eq_iff_iff]; simp
/-- A cell of the block that has just been made, in a world that is the same below the new size. -/
theorem new_cell {w w' : World} {cs : Array Value} {ty : TypeId} (h : Below (w.alloc (.cells cs ty)).heap.size (w.alloc (.cells cs ty)) w') (i : Nat) (u : Value) (hu : cs[i]? = some u) : w'.cell? ⟨w.heap.size, i, none⟩ = some u := by
  rw [h.cell (p := ⟨w.heap.size, i, none⟩) (by rw [alloc_size]; exact Nat.lt_succ_self _), cell_of_row _ w.heap.size i cs ty (0, 0) (heap_alloc_new w _), hu]

structure Kd where
  (nm : ByteArray) (kd : Bool) (lo hi bs : Int)
def kindOf : Nat → Kd
  | 0 => ⟨⟨#[110, 101, 118, 101, 114]⟩, false, 0, 0, 0⟩
  | 1 => ⟨⟨#[97, 108, 119, 97, 121, 115]⟩, false, 0, 0, 0⟩
  | 2 => ⟨⟨#[112, 105, 110]⟩, false, 1, 8, -1⟩
  | 3 => ⟨⟨#[107, 101, 121]⟩, false, 1, 8, -1⟩
  | 4 => ⟨⟨#[115, 116, 97, 116, 101]⟩, false, 1, 5, -1⟩
  | 5 => ⟨⟨#[108, 101, 118, 101, 108]⟩, false, 1, 51, 51⟩
  | 6 => ⟨⟨#[97, 110, 100]⟩, true, 0, 0, 0⟩
  | _ => ⟨⟨#[111, 114]⟩, true, 0, 0, 0⟩
def Kd.row (x : Kd) : List Value := [.string x.nm, .bool x.kd, .int .i64 x.lo, .int .i64 x.hi, .int .i64 x.bs]
/-- The table, as it is laid. -/
def kiA : Array Value := ((kindOf 0).row ++ (kindOf 1).row ++ (kindOf 2).row ++ (kindOf 3).row ++ (kindOf 4).row ++ (kindOf 5).row ++ (kindOf 6).row ++ (kindOf 7).row).toArray
def Tb (W : World) : Prop := ∃ t fr, W.heap[0]? = some (.cells kiA t fr)
theorem Tb.size {w : World} (h : Tb w) : 0 < w.heap.size := by
  obtain ⟨t, fr, h⟩ := h
  exact (Array.getElem?_eq_some_iff.1 h).1
theorem Tb.below {w w' : World} {B : Nat} (h : Tb w) (hb : Below B w w') (hB : 0 < B) : Tb w' := by
  obtain ⟨t, fr, h1⟩ := h
  exact ⟨t, fr, (hb.block 0 hB).trans h1⟩
theorem Tb.on {w w' : World} (h : Tb w) (hb : Below w.heap.size w w') : Tb w' := h.below hb h.size
theorem Tb.kd {W : World} (h : Tb W) (k : Nat) (hk : k < 8) : W.cell? ⟨0, k * 5, none⟩ = some (.string (kindOf k).nm) ∧ W.cell? ⟨0, k * 5 + 1, none⟩ = some (.bool (kindOf k).kd) ∧ W.cell? ⟨0, k * 5 + 2, none⟩ = some (.int .i64 (kindOf k).lo) ∧
    W.cell? ⟨0, k * 5 + 3, none⟩ = some (.int .i64 (kindOf k).hi) ∧ W.cell? ⟨0, k * 5 + 4, none⟩ = some (.int .i64 (kindOf k).bs) := by
  obtain ⟨t, fr, h⟩ := h
  have hc := fun j => cell_of_row W 0 j kiA t fr h
  match k, hk with
  | 0, _ | 1, _ | 2, _ | 3, _ | 4, _ | 5, _ | 6, _ | 7, _ => exact ⟨(hc _).trans rfl, (hc _).trans rfl, (hc _).trans rfl, (hc _).trans rfl, (hc _).trans rfl⟩
  | n + 8, h => exact absurd h (by omega)

/-- What the program's validNode answers, off a row of the table. -/
def vnB (x : Kd) (n : Int) (k : Nat) : Bool := decide (x.lo ≤ n) && decide (n ≤ x.hi) && decide (bits .andNot .i64 n x.bs = 0) && (x.kd == decide (0 < k))
theorem andNot_ones (n : Int) : bits .andNot .i64 n (-1) = 0 := by
  show IntKind.i64.wrap ((BitVec.ofInt 64 n &&& ~~~ BitVec.ofInt 64 (-1)).toNat : Int) = 0
  have e : ~~~ BitVec.ofInt 64 (-1) = 0#64 := by decide
  rw [e, BitVec.and_zero]
  rfl
theorem andNot_level (n : Int) (h1 : 1 ≤ n) (h2 : n ≤ 51) : decide (bits .andNot .i64 n 51 = 0) = decide (n.toNat &&& 51 = n.toNat) := by
  obtain ⟨N, rfl⟩ := Int.eq_ofNat_of_zero_le (show 0 ≤ n by omega)
  have h3 : N < 52 := by omega
  have hall : ∀ m : Fin 52, decide (bits .andNot .i64 ((m.val : Nat) : Int) 51 = 0) = decide ((m.val : Int).toNat &&& 51 = (m.val : Int).toNat) := by decide
  exact hall ⟨N, h3⟩
theorem vnB_ok (o : Nat) (ho : o < 8) (n : Int) (k : Nat) : vnB (kindOf o) n k = okN (o : Int) n k := by
  have h1 := andNot_ones n
  match o, ho with
  | 0, _ | 1, _ =>
    simp only [vnB, kindOf, okN]
    by_cases hn : n = 0
    · subst hn
      rcases Nat.eq_zero_or_pos k with rfl | hk
      · decide
      · simp [show ¬ k = 0 by omega, show 0 < k from hk]
    · have : ¬ (0 ≤ n ∧ n ≤ 0) := by omega
      simp [hn]; omega
  | 2, _ | 3, _ | 4, _ =>
    simp only [vnB, kindOf, okN, h1]
    rcases Nat.eq_zero_or_pos k with rfl | hk
    · simp
    · simp [show ¬ k = 0 by omega, show 0 < k from hk]
  | 5, _ =>
    simp only [vnB, kindOf, okN, lvN]
    by_cases h2 : 1 ≤ n ∧ n ≤ 51
    · rw [andNot_level n h2.1 h2.2]
      rcases Nat.eq_zero_or_pos k with rfl | hk
      · simp
      · simp [show ¬ k = 0 by omega, show 0 < k from hk]
    · have h3 : (decide (1 ≤ n) && decide (n ≤ 51)) = false := by
        rw [Bool.eq_false_iff]; intro h; rw [Bool.and_eq_true, decide_eq_true_eq, decide_eq_true_eq] at h; exact h2 h
      simp [h3]
  | 6, _ | 7, _ =>
    simp only [vnB, kindOf, okN]
    by_cases hn : n = 0
    · subst hn
      rcases Nat.eq_zero_or_pos k with rfl | hk
      · decide
      · simp [show 0 < k from hk]; decide
    · have : ¬ (0 ≤ n ∧ n ≤ 0) := by omega
      simp [hn]; omega
  | n + 8, h => exact absurd h (by omega)
theorem okN_bad (op n : Int) (k : Nat) (h : op < 0 ∨ 8 ≤ op) : okN op n k = false := by
  unfold okN
  repeat rw [if_neg (by omega)]
end Go.Proofs.YtjkbfogjfgnhiaaDoor
