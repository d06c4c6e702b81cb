/-
  Three runs of Decode that fail: readList and Decode.
-/
import Derived.Test.YtahnmnbjgbfeaaaDeca
namespace Go.Proofs.Ytahnmnbjgbfeaaa
set_option linter.unusedVariables false
set_option linter.unusedSimpArgs false
open Go.RowKit

set_option maxRecDepth 100000 in
set_option maxHeartbeats 3200000 in
theorem rl_err (A : Option Addr) (n c : Nat) (er : Int) (w : World) (hn : 0 < n) (hn2 : n ≤ 1000) (her : (er == 0) = false)
    (h : Calls Try.prog 92 #[.slice A n c, .int .i64 1] w fun e w' => e = .returned (.tuple #[.agg #[.int .i64 0, .slice none 0 0, .slice none 0 0], .slice none 0 0, .int .i64 er]) ∧ Below w.heap.size w w') :
    Calls Try.prog 74 #[.slice A n c, .int .i64 1] w fun e w' => e = .returned (.tuple #[.slice none 0 0, .int .i64 er]) ∧ Below w.heap.size w w' := by
  have H := Lib.hid h
  clear h
  go_enter Try.func74, Try.ntmps74
  go_wp2_with fail
  go_loopw [0, 6] (fun v0 v6 wr => v0 = .slice A n c ∧ v6 = .slice none 0 0 ∧ wr = w) (fun _ _ _ => 0)
  case atStart => exact ⟨rfl, rfl, rfl⟩
  case round =>
    obtain ⟨rfl, rfl, rfl⟩ := hrel
    go_wp2_with (go_at_call 92; refine H.out.mono ?_; rintro e w2 ⟨rfl, hb2⟩)
    go_ret2
    exact ⟨rfl, hb2.trans ((alloc_below _ _).mono hb2.size)⟩

set_option maxRecDepth 100000 in
theorem dec_err (A : Option Addr) (n c : Nat) (er : Int) (w : World) (hn : 0 < n) (hn2 : n ≤ 1000) (her : (er == 0) = false)
    (h : Calls Try.prog 92 #[.slice A n c, .int .i64 1] w fun e w' => e = .returned (.tuple #[.agg #[.int .i64 0, .slice none 0 0, .slice none 0 0], .slice none 0 0, .int .i64 er]) ∧ Below w.heap.size w w') :
    Calls Try.prog 53 #[.slice A n c] w fun e w' => e = .returned (.tuple #[.slice none 0 0, .int .i64 er]) ∧ Below w.heap.size w w' := by
  have H := Lib.hid (rl_err A n c er w hn hn2 her h)
  clear h
  go_enter Try.func53, Try.ntmps53
  go_wp2_with (go_at_call 74; refine H.out.mono ?_; rintro e w2 ⟨rfl, hb2⟩)
  go_ret2
  exact ⟨rfl, hb2⟩
end Go.Proofs.Ytahnmnbjgbfeaaa
