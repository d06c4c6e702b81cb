/-
  The reference's number.
-/
import Derived.Test.YtjkbfogjfgnhiaaDoorRsm
import Derived.WalkSpells
namespace Go.Proofs.YtjkbfogjfgnhiaaDoor
set_option linter.unusedVariables false
set_option linter.unusedSimpArgs false
open Go.RowKit

set_option maxRecDepth 100000 in
set_option maxHeartbeats 3200000 in
theorem rnum_any (n : Nat) (hn : n < 100) (w : World) : Calls Tryd.prog 88 #[.int .i64 (n : Int)] w fun e w' => e = .returned (.string ⟨(decF n).toArray⟩) ∧ Below w.heap.size w w' := by
  have i1 : 0 ≤ (n : Int) := by omega
  have i2 : (n : Int) + 1 ≤ 100 := by omega
  by_cases h10 : n < 10
  · go_enter Tryd.func88, Tryd.ntmps88
    go_wp2_with fail
    go_ret
    refine ⟨?_, Below.refl _ _⟩
    clear i1 i2
    match n, h10 with
    | 0, _ | 1, _ | 2, _ | 3, _ | 4, _ | 5, _ | 6, _ | 7, _ | 8, _ | 9, _ => rfl
    | n + 10, h => exact absurd h (by omega)
  · have j1 : 0 ≤ (n : Int) / 10 := by omega
    have j2 : (n : Int) / 10 + 1 ≤ 10 := by omega
    have j3 : 0 ≤ (n : Int) % 10 := by omega
    have j4 : (n : Int) % 10 + 1 ≤ 10 := by omega
    have k1 : Int.tdiv (n : Int) 10 = (n : Int) / 10 := Int.tdiv_eq_ediv_of_nonneg i1
    have k2 : Int.tmod (n : Int) 10 = (n : Int) % 10 := Int.tmod_eq_emod_of_nonneg i1
    go_enter Tryd.func88, Tryd.ntmps88
    go_wp2_with fail
    go_quiet (fail)
    go_wp2_with fail
    go_ret
    refine ⟨?_, below_drewN (Below.refl _ _) _⟩
    clear i1 i2 j1 j2 j3 j4 k1 k2
    obtain ⟨m, rfl⟩ : ∃ m, n = m + 10 := ⟨n - 10, by omega⟩
    have hm : m < 90 := by omega
    clear hn h10
    match m, hm with
    | 0, _ | 1, _ | 2, _ | 3, _ | 4, _ | 5, _ | 6, _ | 7, _ | 8, _ | 9, _ | 10, _ | 11, _ | 12, _ | 13, _ | 14, _ | 15, _ | 16, _ | 17, _ | 18, _ | 19, _ | 20, _ | 21, _ | 22, _ | 23, _ | 24, _ | 25, _ | 26, _ | 27, _ | 28, _ | 29, _ | 30, _ | 31, _ | 32, _ | 33, _ | 34, _ | 35, _ | 36, _ | 37, _ | 38, _ | 39, _ | 40, _ | 41, _ | 42, _ | 43, _ | 44, _ | 45, _ | 46, _ | 47, _ | 48, _ | 49, _ | 50, _ | 51, _ | 52, _ | 53, _ | 54, _ | 55, _ | 56, _ | 57, _ | 58, _ | 59, _ | 60, _ | 61, _ | 62, _ | 63, _ | 64, _ | 65, _ | 66, _ | 67, _ | 68, _ | 69, _ | 70, _ | 71, _ | 72, _ | 73, _ | 74, _ | 75, _ | 76, _ | 77, _ | 78, _ | 79, _ | 80, _ | 81, _ | 82, _ | 83, _ | 84, _ | 85, _ | 86, _ | 87, _ | 88, _ | 89, _ => rfl
    | m + 90, h => exact absurd h (by omega)
end Go.Proofs.YtjkbfogjfgnhiaaDoor
