
/-
  The cipher of the program: the keys reversed; the rounds.
-/
import Derived.Test.YtdalcldilmmgmaaDoorCib
namespace Go.Proofs.YtdalcldilmmgmaaDoor
set_option linter.unusedVariables false
set_option linter.unusedSimpArgs false
open Go.RowKit

theorem AR.congr {w : World} {b : Nat} {g h : Nat → UInt32} (ha : AR w b g 16) (hh : ∀ i, i < 16 → g i = h i) : AR w b h 16 := by
  have e : kcs g 16 = kcs h 16 := by
    unfold kcs
    apply List.map_congr_left
    intro i hi
    rw [List.mem_range] at hi
    rw [hh i hi]
  unfold AR at *
  rw [← e]
  exact ha
/-- One place of an array changed. -/
def upd (g : Nat → UInt32) (i : Nat) (x : UInt32) : Nat → UInt32 := fun j => if j = i then x else g j
theorem AR.upd {w : World} {b : Nat} {g : Nat → UInt32} (h : AR w b g 16) (i : Nat) (hi : i < 16) (x : UInt32) (z : Int) (hz : z = (x.toNat : Int)) : AR (w.setCell ⟨b, i, none⟩ (.int .u32 z)) b (upd g i x) 16 := by
  subst hz
  unfold AR
  rw [heap_setCell_same w b i _ 143 _ h, List.setIfInBounds_toArray]
  congr 3
  apply List.ext_getElem (by simp [kcs])
  intro j h1 h2
  rw [List.getElem_set]
  have hj : j < 16 := by simpa [kcs] using h2
  simp only [kcs, List.getElem_map, List.getElem_range, if_pos hj]
  unfold Go.Proofs.YtdalcldilmmgmaaDoor.upd
  by_cases e : i = j
  · rw [if_pos e, if_pos e.symm]
  · rw [if_neg e, if_neg (fun h => e h.symm)]
/-- The array after k swaps. -/
def revk (g : Nat → UInt32) (k : Nat) : Nat → UInt32 := fun i => if i < k ∨ 15 - k < i then g (15 - i) else g i

theorem rev_step {w : World} {b k m : Nat} {g : Nat → UInt32} (h : AR w b (revk g k) 16) (hk : k < 8) (hm : m = 15 - k) :
    AR ((w.setCell ⟨b, k, none⟩ (.int .u32 ((g m).toNat : Int))).setCell ⟨b, m, none⟩ (.int .u32 ((g k).toNat : Int))) b (revk g (k + 1)) 16 := by
  refine ((h.upd k (by omega) (g m) _ rfl).upd m (by omega) (g k) _ rfl).congr fun i hi => ?_
  unfold Go.Proofs.YtdalcldilmmgmaaDoor.upd revk
  by_cases e1 : i = m
  · subst e1
    rw [if_pos rfl, if_pos (by omega), show 15 - i = k by omega]
  · rw [if_neg e1]
    by_cases e2 : i = k
    · subst e2
      rw [if_pos rfl, if_pos (by omega), hm]
    · rw [if_neg e2]
      by_cases e3 : i < k ∨ 15 - k < i
      · rw [if_pos e3, if_pos (by omega)]
      · rw [if_neg e3, if_neg (by omega)]
theorem rev_end {w : World} {b : Nat} {g : Nat → UInt32} (h : AR w b (revk g 8) 16) : AR w b (fun i => g (15 - i)) 16 := h.congr fun i hi => by
  unfold revk
  rw [if_pos (by omega)]

set_option maxRecDepth 100000 in
set_option maxHeartbeats 1600000 in
theorem prev_any (g : Nat → UInt32) (b : Nat) (w : World) (B : Nat) (hB : B ≤ b) (h : AR w b g 16) :
    Calls Tryd.prog 80 #[.slice (some ⟨b, 0, none⟩) 16 16] w fun e w' => (∃ v, e = .returned v) ∧ AR w' b (fun i => g (15 - i)) 16 ∧ Below B w w' := by
  go_enter Tryd.func80, Tryd.ntmps80
  go_wp2
  go_loopw [2, 3] (fun i j wr => ∃ k : Nat, k ≤ 8 ∧ i = .int .i64 k ∧ j = .int .i64 (15 - (k : Int)) ∧ AR wr b (revk g k) 16 ∧ Below B w wr) (fun i _ _ => 8 - (intOf i).toNat)
  case atStart => exact ⟨0, by omega, rfl, rfl, h.congr (fun i hi => by unfold revk; rw [if_neg (by omega)]), Below.refl _ _⟩
  case round =>
    obtain ⟨k, hk, rfl, rfl, hrow, hbel⟩ := hrel
    by_cases h1 : k < 8
    · have g1 := hrow.cells k (by omega)
      have g2 := hrow.cells (15 - k) (by omega)
      have f1 := hrow.froz k
      have f2 := hrow.froz (15 - k)
      have e1 : revk g k k = g k := by unfold revk; rw [if_neg (by omega)]
      have e2 : revk g k (15 - k) = g (15 - k) := by unfold revk; rw [if_neg (by omega)]
      rw [e1] at g1
      rw [e2] at g2
      clear e1 e2
      obtain ⟨m, hm⟩ : ∃ m : Nat, m = 15 - k := ⟨_, rfl⟩
      have hm1 : (15 : Int) - (k : Int) = (m : Int) := by omega
      rw [← hm] at g2 f2
      rw [hm1]
      have hm2 : m < 16 := by omega
      have hm3 : k < m := by omega
      have hm4 : k < 16 := by omega
      have HM := Lib.hid hm
      clear hm hm1
      go_wp2
      go_region_with (fail)
      all_goals
        go_wp2
        go_roundw
        case rel => exact ⟨k + 1, by omega, by go_num, by have := HM.out; go_num, rev_step hrow h1 HM.out, ((hbel.setCell (p := ⟨b, k, none⟩) hB _).setCell (p := ⟨b, m, none⟩) hB _).drew⟩
        case measure => simp [intOf]; omega
    · have hk : k = 8 := by omega
      subst hk
      go_wp2
      go_end0
      exact ⟨⟨_, rfl⟩, rev_end hrow, hbel⟩

end Go.Proofs.YtdalcldilmmgmaaDoor
