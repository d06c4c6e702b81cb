
/-
  The walks of Get, of the program and of the reference.
-/
import Derived.Test.YtjoibonbmalbdaaCmp
import Derived.Test.YtjoibonbmalbdaaOwn
namespace Go.Proofs.Ytjoibonbmalbdaa
set_option linter.unusedVariables false
set_option linter.unusedSimpArgs false
open Go.RowKit

theorem ret2_int {j k : IntKind} {a b c d : Int} (h : a = b) (g : c = d) : Ending.returned (.tuple #[.int j a, .int k c]) = .returned (.tuple #[.int j b, .int k d]) := by rw [h, g]

theorem wrap_u64 (n : Nat) (h : n < 18446744073709551616) : IntKind.u64.wrap (n : Int) = n := by
  simp only [IntKind.wrap, IntKind.bits, IntKind.signed]
  simp
  omega
theorem or_step (n : Nat) (x : UInt8) (h : n < 72057594037927936) :
    bits .or .u64 (IntKind.u64.wrap ((n : Int) * 256)) (IntKind.u64.wrap (x.toNat : Int)) = ((n * 256 + x.toNat : Nat) : Int) := by
  have hx := x.toNat_lt
  have e1 : ((n : Int) * 256) = ((n * 256 : Nat) : Int) := by omega
  rw [e1, wrap_u64 _ (by omega), wrap_u64 _ (by omega), u64_or_nat _ _ (by omega) (by omega), nat_join 8 (n * 256) x.toNat (by omega) (by omega)]

set_option maxRecDepth 100000 in
set_option maxHeartbeats 800000 in
theorem pget_any (a : List UInt8) (v : Value) (w : World) (B : Nat) (ha : SL w B v a) :
    Calls Try.prog 49 #[v] w fun e w' => e = .returned (.tuple #[.int .i64 (getN a), .int .i64 (getE a)]) ∧ w = w' := by
  obtain ⟨A1, c1, rfl, h11, h12, h13⟩ := ha
  unfold maxLen at h12
  by_cases h8 : 8 < a.length
  · go_enter Try.func49, Try.ntmps49
    go_wp2
    go_ret2
    exact ⟨ret2_int (by rw [getN, if_pos h8]) (by rw [getE, if_pos h8]), rfl⟩
  · by_cases hb : bigN < numL a
    all_goals
      go_enter Try.func49, Try.ntmps49
      go_wp2
      go_loop [4, 12] (fun n i => ∃ k : Nat, k ≤ a.length ∧ i = .int .i64 k ∧ n = .int .u64 (numL (a.take k))) (fun _ i => a.length - (intOf i).toNat)
      case atStart => exact ⟨0, Nat.zero_le _, rfl, rfl⟩
      case round =>
        obtain ⟨k, hk, rfl, rfl⟩ := hrel
        by_cases h1 : k < a.length
        · obtain ⟨b1, o1, rfl, hb1, hc1⟩ := h13 (by omega)
          have g1 := hc1 k h1
          have hr := Lib.hid (numL_room a k h1 (by omega))
          go_wp2
          go_round
          case rel => exact ⟨k + 1, by omega, by go_num, by rw [numL_take a k h1, gd h1, or_step _ _ hr.out]⟩
          case measure => simp [intOf]; omega
        · have hk : k = a.length := by omega
          subst hk
          have hb' := hb
          unfold bigN at hb'
          go_wp2
          go_ret2
          first
            | exact ⟨ret2_int (by rw [getN, if_neg h8, if_pos hb]) (by rw [getE, if_neg h8, if_pos hb]), rfl⟩
            | exact ⟨ret2_int (by rw [getN, if_neg h8, if_neg hb]) (by rw [getE, if_neg h8, if_neg hb]), rfl⟩

end Go.Proofs.Ytjoibonbmalbdaa
