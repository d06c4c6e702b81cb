
/-
  A memory that New has not made: the walks of all calls.
-/
import Derived.Test.YtiholfpcndjliaaDoorCea
namespace Go.Proofs.YtiholfpcndjliaaDoor
set_option linter.unusedVariables false
set_option linter.unusedSimpArgs false
open Go.RowKit

theorem access_dead (w : World) (v : Value) (a : Int) (h : Dead w v) : Calls Tryd.prog 94 #[v, .int .i64 a] w fun e w' => e = .returned (.int .i64 31) ∧ w' = w := by
  have HD := Lib.hid (made_dead w v h)
  clear h
  go_enter Tryd.func94, Tryd.ntmps94
  go_wp2_with (go_at_call 59; refine HD.out.mono ?_; rintro e w' ⟨rfl, rfl⟩)
  go_ret
  exact ⟨rfl, rfl⟩

theorem read_dead (w : World) (v : Value) (a : Int) (h : Dead w v) : Calls Tryd.prog 82 #[v, .int .i64 a] w fun e w' => e = .returned (.tuple #[.int .u32 0, .int .i64 31]) ∧ w' = w := by
  have HD := Lib.hid (access_dead w v a h)
  clear h
  go_enter Tryd.func82, Tryd.ntmps82
  go_wp2_with (go_at_call 94; refine HD.out.mono ?_; rintro e w' ⟨rfl, rfl⟩)
  go_ret2
  exact ⟨rfl, rfl⟩

theorem write_dead (w : World) (v : Value) (a x : Int) (h : Dead w v) : Calls Tryd.prog 80 #[v, .int .i64 a, .int .u32 x] w fun e w' => e = .returned (.int .i64 31) ∧ w' = w := by
  have HD := Lib.hid (access_dead w v a h)
  clear h
  go_enter Tryd.func80, Tryd.ntmps80
  go_wp2_with (go_at_call 94; refine HD.out.mono ?_; rintro e w' ⟨rfl, rfl⟩)
  go_ret
  exact ⟨rfl, rfl⟩

theorem cut_dead (w : World) (v : Value) (a : Int) (h : Dead w v) : Calls Tryd.prog 28 #[v, .int .i64 a] w fun e w' => e = .returned (.int .i64 31) ∧ w' = w := by
  have HD := Lib.hid (made_dead w v h)
  clear h
  go_enter Tryd.func28, Tryd.ntmps28
  go_wp2_with (go_at_call 59; refine HD.out.mono ?_; rintro e w' ⟨rfl, rfl⟩)
  go_ret
  exact ⟨rfl, rfl⟩

theorem power_dead (w : World) (v : Value)  (h : Dead w v) : Calls Tryd.prog 46 #[v] w fun e w' => e = .returned (.bool false) ∧ w' = w := by
  have HD := Lib.hid (made_dead w v h)
  clear h
  go_enter Tryd.func46, Tryd.ntmps46
  go_wp2_with (go_at_call 59; refine HD.out.mono ?_; rintro e w' ⟨rfl, rfl⟩)
  go_ret
  exact ⟨rfl, rfl⟩

theorem cuts_dead (w : World) (v : Value)  (h : Dead w v) : Calls Tryd.prog 52 #[v] w fun e w' => e = .returned (.int .i64 0) ∧ w' = w := by
  have HD := Lib.hid (made_dead w v h)
  clear h
  go_enter Tryd.func52, Tryd.ntmps52
  go_wp2_with (go_at_call 59; refine HD.out.mono ?_; rintro e w' ⟨rfl, rfl⟩)
  go_ret
  exact ⟨rfl, rfl⟩

theorem writes_dead (w : World) (v : Value)  (h : Dead w v) : Calls Tryd.prog 33 #[v] w fun e w' => e = .returned (.int .i64 0) ∧ w' = w := by
  have HD := Lib.hid (made_dead w v h)
  clear h
  go_enter Tryd.func33, Tryd.ntmps33
  go_wp2_with (go_at_call 59; refine HD.out.mono ?_; rintro e w' ⟨rfl, rfl⟩)
  go_ret
  exact ⟨rfl, rfl⟩

theorem wear_dead (w : World) (v : Value) (a : Int) (h : Dead w v) : Calls Tryd.prog 34 #[v, .int .i64 a] w fun e w' => e = .returned (.int .i64 0) ∧ w' = w := by
  have HD := Lib.hid (made_dead w v h)
  clear h
  go_enter Tryd.func34, Tryd.ntmps34
  go_wp2_with (go_at_call 59; refine HD.out.mono ?_; rintro e w' ⟨rfl, rfl⟩)
  go_ret
  exact ⟨rfl, rfl⟩

theorem flip_dead (w : World) (v : Value) (a k : Int) (h : Dead w v) : Calls Tryd.prog 32 #[v, .int .i64 a, .int .i64 k] w fun e w' => e = .returned (.int .i64 31) ∧ w' = w := by
  have HD := Lib.hid (made_dead w v h)
  clear h
  go_enter Tryd.func32, Tryd.ntmps32
  go_wp2_with (go_at_call 59; refine HD.out.mono ?_; rintro e w' ⟨rfl, rfl⟩)
  go_ret
  exact ⟨rfl, rfl⟩

theorem words_dead (w : World) (v : Value)  (h : Dead w v) : Calls Tryd.prog 51 #[v] w fun e w' => e = .returned (.int .i64 0) ∧ w' = w := by
  have HD := Lib.hid (made_dead w v h)
  clear h
  go_enter Tryd.func51, Tryd.ntmps51
  go_wp2_with (go_at_call 59; refine HD.out.mono ?_; rintro e w' ⟨rfl, rfl⟩)
  go_ret
  exact ⟨rfl, rfl⟩

theorem restore_dead (w : World) (v : Value)  (h : Dead w v) : Calls Tryd.prog 31 #[v] w fun e w' => e = .returned (.tuple #[]) ∧ w' = w := by
  have HD := Lib.hid (made_dead w v h)
  clear h
  go_enter Tryd.func31, Tryd.ntmps31
  go_wp2_with (go_at_call 59; refine HD.out.mono ?_; rintro e w' ⟨rfl, rfl⟩)
  go_end0
  exact ⟨rfl, rfl⟩

end Go.Proofs.YtiholfpcndjliaaDoor
