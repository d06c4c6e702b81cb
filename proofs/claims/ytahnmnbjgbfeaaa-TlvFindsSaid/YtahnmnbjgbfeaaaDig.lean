/-
  The walks of digit, of the program and of the reference.
-/
import Derived.Test.YtahnmnbjgbfeaaaCmp
import Derived.Test.YtahnmnbjgbfeaaaOwn
namespace Go.Proofs.Ytahnmnbjgbfeaaa
set_option linter.unusedVariables false
set_option linter.unusedSimpArgs false
open Go.RowKit

theorem dv_ok {c : Nat} (h : dv c < 16) : (48 ≤ c ∧ c ≤ 57 ∧ dv c = c - 48) ∨ (97 ≤ c ∧ c ≤ 102 ∧ dv c = c - 87) ∨ (65 ≤ c ∧ c ≤ 70 ∧ dv c = c - 55) := by
  unfold dv at *
  repeat' split at *
  all_goals omega
theorem dv_no {c : Nat} (h : ¬ dv c < 16) : c < 48 ∨ (58 ≤ c ∧ c ≤ 64) ∨ (71 ≤ c ∧ c ≤ 96) ∨ 103 ≤ c := by
  unfold dv at *
  repeat' split at *
  all_goals omega
theorem ret2_ib {j : IntKind} {a b : Int} {c : Bool} (h : a = b) : Ending.returned (.tuple #[.int j a, .bool c]) = .returned (.tuple #[.int j b, .bool c]) := by rw [h]

set_option maxRecDepth 100000 in
set_option maxHeartbeats 1600000 in
theorem pdig_ok (c : Nat) (w : World) (h : dv c < 16) :
    Calls Try.prog 62 #[.int .i32 c] w fun e w' => e = .returned (.tuple #[.int .u8 ((dv c : Nat) : Int), .bool true]) ∧ w = w' := by
  rcases dv_ok h with ⟨h1, h2, h3⟩ | ⟨h1, h2, h3⟩ | ⟨h1, h2, h3⟩
  all_goals
    have H3 := Lib.hid h3
    clear h3 h
    go_enter Try.func62, Try.ntmps62
    go_wp2
    go_ret2
    exact ⟨ret2_ib (by rw [H3.out]; omega), rfl⟩

set_option maxRecDepth 100000 in
set_option maxHeartbeats 1600000 in
theorem pdig_no (c : Nat) (w : World) (h : ¬ dv c < 16) (hc : c ≤ 2147483647) :
    Calls Try.prog 62 #[.int .i32 c] w fun e w' => e = .returned (.tuple #[.int .u8 0, .bool false]) ∧ w = w' := by
  rcases dv_no h with h1 | ⟨h1, h2⟩ | ⟨h1, h2⟩ | h1
  all_goals
    clear h
    go_enter Try.func62, Try.ntmps62
    go_wp2
    go_ret2
    exact ⟨rfl, rfl⟩

set_option maxRecDepth 100000 in
set_option maxHeartbeats 1600000 in
theorem rdig_ok (c : Nat) (w : World) (h : dv c < 16) :
    Calls Try.prog 63 #[.int .u8 c] w fun e w' => e = .returned (.int .i64 ((dv c : Nat) : Int)) ∧ w = w' := by
  rcases dv_ok h with ⟨h1, h2, h3⟩ | ⟨h1, h2, h3⟩ | ⟨h1, h2, h3⟩
  all_goals
    have H3 := Lib.hid h3
    clear h3 h
    go_enter Try.func63, Try.ntmps63
    go_wp2
    go_ret
    exact ⟨ret_int (by rw [H3.out]; omega), rfl⟩

set_option maxRecDepth 100000 in
set_option maxHeartbeats 1600000 in
theorem rdig_no (c : Nat) (w : World) (h : ¬ dv c < 16) (hc : c < 256) :
    Calls Try.prog 63 #[.int .u8 c] w fun e w' => e = .returned (.int .i64 (-1)) ∧ w = w' := by
  rcases dv_no h with h1 | ⟨h1, h2⟩ | ⟨h1, h2⟩ | h1
  all_goals
    clear h
    go_enter Try.func63, Try.ntmps63
    go_wp2
    go_ret
    exact ⟨rfl, rfl⟩
end Go.Proofs.Ytahnmnbjgbfeaaa
