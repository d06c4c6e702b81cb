
/-
  The walks of Put, of the program and of the reference.
-/
import Derived.Test.YtdalcldilmmgmaaDoorCmp
import Derived.Test.YtdalcldilmmgmaaDoorOwn
namespace Go.Proofs.YtdalcldilmmgmaaDoor
set_option linter.unusedVariables false
set_option linter.unusedSimpArgs false
open Go.RowKit

theorem pow_256 (k : Nat) : (2 : Nat) ^ (8 * k) = 256 ^ k := by rw [Nat.pow_mul]
theorem shr_byte (N k : Nat) : (N : Int) / 2 ^ (8 * k) % 256 = ((UInt8.ofNat (N / 256 ^ k)).toNat : Int) := by
  have e2 : (2 : Int) ^ (8 * k) = ((256 ^ k : Nat) : Int) := by rw [← pow_256]; simp
  rw [e2]
  simp
/-- One round of Put. -/
theorem put_round {w : World} {base g k j : Nat} (N : Nat) (z : Int) (hz : z = ((UInt8.ofNat (N / 256 ^ j)).toNat : Int)) (h : OB w base (.slice (some ⟨g, 0, none⟩) k k) (List.replicate (k - j) 0 ++ putL N j)) (hj : j < k) :
    OB (w.setCell ⟨g, k - 1 - j, none⟩ (.int .u8 z)) base (.slice (some ⟨g, 0, none⟩) k k) (List.replicate (k - (j + 1)) 0 ++ putL N (j + 1)) := by
  have h1 := h.stored (k - 1 - j) (UInt8.ofNat (N / 256 ^ j)) z hz
  have h2 := replicate_set (k - j) (putL N j) (UInt8.ofNat (N / 256 ^ j)) (by omega)
  rw [show k - j - 1 = k - 1 - j from by omega] at h2
  rw [h2] at h1
  rw [show k - (j + 1) = k - 1 - j from by omega]
  exact h1

set_option maxRecDepth 100000 in
theorem pput_arg (n k : Int) (w : World) (h : k < 1 ∨ 8 < k) : Calls Tryd.prog 58 #[.int .i64 n, .int .i64 k] w fun e w' => e = .returned (.tuple #[.slice none 0 0, .int .i64 1]) ∧ w = w' := by
  rcases h with h | h
  · go_enter Tryd.func58, Tryd.ntmps58
    go_wp2
    go_ret2
    exact ⟨rfl, rfl⟩
  · have h' : ¬ k < 1 := by omega
    go_enter Tryd.func58, Tryd.ntmps58
    go_wp2
    go_ret2
    exact ⟨rfl, rfl⟩

set_option maxRecDepth 100000 in
theorem pput_neg (n k : Int) (w : World) (h : 1 ≤ k) (h' : k ≤ 8) (hn : n < 0) : Calls Tryd.prog 58 #[.int .i64 n, .int .i64 k] w fun e w' => e = .returned (.tuple #[.slice none 0 0, .int .i64 2]) ∧ w = w' := by
  go_enter Tryd.func58, Tryd.ntmps58
  go_wp2
  go_ret2
  exact ⟨rfl, rfl⟩

theorem shr_zero (N k : Nat) : ((N : Int) / 2 ^ (8 * k) != 0) = decide (256 ^ k ≤ N) := by
  have e2 : (2 : Int) ^ (8 * k) = ((256 ^ k : Nat) : Int) := by rw [← pow_256]; simp
  have hp : 0 < 256 ^ k := Nat.pow_pos (by omega)
  rw [e2, Bool.eq_iff_iff, bne_iff_ne, decide_eq_true_iff, ← Int.natCast_ediv]
  generalize 256 ^ k = m at hp
  constructor
  · intro h
    rcases Nat.lt_or_ge N m with hlt | hge
    · exact absurd (by rw [Nat.div_eq_of_lt hlt]; rfl) h
    · exact hge
  · intro h e
    have : 0 < N / m := Nat.div_pos h hp
    omega

set_option maxRecDepth 100000 in
set_option maxHeartbeats 800000 in
theorem pput_range (N k : Nat) (w : World) (h : 1 ≤ k) (h' : k ≤ 8) (h63 : N ≤ 9223372036854775807) (hn : 256 ^ k ≤ N) : Calls Tryd.prog 58 #[.int .i64 N, .int .i64 k] w fun e w' => e = .returned (.tuple #[.slice none 0 0, .int .i64 2]) ∧ w = w' := by
  have hz := shr_zero N k
  rw [decide_eq_true hn] at hz
  clear hn
  go_enter Tryd.func58, Tryd.ntmps58
  go_wp2
  go_ret2
  exact ⟨rfl, rfl⟩

set_option maxRecDepth 100000 in
set_option maxHeartbeats 800000 in
theorem pput_ok (N k : Nat) (w : World) (h : 1 ≤ k) (h' : k ≤ 8) (h63 : N ≤ 9223372036854775807) (hn : N < 256 ^ k) :
    Calls Tryd.prog 58 #[.int .i64 N, .int .i64 k] w fun e w' => ∃ v', e = .returned (.tuple #[v', .int .i64 0]) ∧ SL w' w'.heap.size v' (putL N k) ∧ Below w.heap.size w w' := by
  have hz := shr_zero N k
  rw [decide_eq_false (by omega)] at hz
  clear hn
  go_enter Tryd.func58, Tryd.ntmps58
  go_wp2_with (at_make; refine wpList_mk (by rfl) _ _ (by rfl) .i64 .i64 _ _ k (by rfl) (by rfl) (by rfl) (by rfl) (by omega) ?_; intro w1 hown1 hb1')
  go_loopw [28] (fun i wr => ∃ j : Nat, j ≤ k ∧ i = .int .i64 j ∧ OB wr w.heap.size (.slice (some ⟨w.heap.size, 0, none⟩) k k) (List.replicate (k - j) 0 ++ putL N j) ∧ Below w.heap.size w wr) (fun i _ => k - (intOf i).toNat)
  case atStart => exact ⟨0, Nat.zero_le _, rfl, by simpa [putL] using hown1, hb1'⟩
  case round =>
    obtain ⟨j, hj, rfl, hown, hbel⟩ := hrel
    by_cases h1 : j < k
    · have g3 := hown.cellAt (k - 1 - j) (by simp [putL_length]; omega)
      have g4 := hown.frozenAt (k - 1 - j)
      go_wp2
      go_roundw
      case rel => exact ⟨j + 1, by omega, by go_num, put_round N _ (shr_byte N j) hown h1, hbel.setCell (p := ⟨w.heap.size, k - 1 - j, none⟩) (Nat.le_refl _) _⟩
      case measure => simp [intOf]; omega
    · have hjk : j = k := by omega
      subst hjk
      go_wp2
      go_ret2
      exact ⟨_, rfl, by simpa using hown.sl, hbel⟩

theorem low_byte (N k : Nat) : ((N / 256 ^ k : Nat) : Int) % 256 = ((UInt8.ofNat (N / 256 ^ k)).toNat : Int) := by simp

end Go.Proofs.YtdalcldilmmgmaaDoor
