/-
  A memory that New has not made: the walks of all calls.
-/
import Derived.Test.YtcojoohbhkhlnaaCea
namespace Go.Proofs.Ytcojoohbhkhlnaa
set_option linter.unusedVariables false
set_option linter.unusedSimpArgs false
open Go.RowKit

theorem access_dead (w : World) (v : Value) (a : Int) (h : Dead w v) : Calls Try.prog 32 #[v, .int .i64 a] w fun e w' => e = .returned (.int .i64 31) ∧ w' = w := by
  have HD := Lib.hid (made_dead w v h)
  clear h
  go_enter Try.func32, Try.ntmps32
  go_wp2_with (go_at_call 31; refine HD.out.mono ?_; rintro e w' ⟨rfl, rfl⟩)
  go_ret
  exact ⟨rfl, rfl⟩

theorem read_dead (w : World) (v : Value) (a : Int) (h : Dead w v) : Calls Try.prog 21 #[v, .int .i64 a] w fun e w' => e = .returned (.tuple #[.int .u32 0, .int .i64 31]) ∧ w' = w := by
  have HD := Lib.hid (access_dead w v a h)
  clear h
  go_enter Try.func21, Try.ntmps21
  go_wp2_with (go_at_call 32; refine HD.out.mono ?_; rintro e w' ⟨rfl, rfl⟩)
  go_ret2
  exact ⟨rfl, rfl⟩

theorem write_dead (w : World) (v : Value) (a x : Int) (h : Dead w v) : Calls Try.prog 15 #[v, .int .i64 a, .int .u32 x] w fun e w' => e = .returned (.int .i64 31) ∧ w' = w := by
  have HD := Lib.hid (access_dead w v a h)
  clear h
  go_enter Try.func15, Try.ntmps15
  go_wp2_with (go_at_call 32; refine HD.out.mono ?_; rintro e w' ⟨rfl, rfl⟩)
  go_ret
  exact ⟨rfl, rfl⟩

theorem cut_dead (w : World) (v : Value) (a : Int) (h : Dead w v) : Calls Try.prog 13 #[v, .int .i64 a] w fun e w' => e = .returned (.int .i64 31) ∧ w' = w := by
  have HD := Lib.hid (made_dead w v h)
  clear h
  go_enter Try.func13, Try.ntmps13
  go_wp2_with (go_at_call 31; refine HD.out.mono ?_; rintro e w' ⟨rfl, rfl⟩)
  go_ret
  exact ⟨rfl, rfl⟩

theorem power_dead (w : World) (v : Value)  (h : Dead w v) : Calls Try.prog 16 #[v] w fun e w' => e = .returned (.bool false) ∧ w' = w := by
  have HD := Lib.hid (made_dead w v h)
  clear h
  go_enter Try.func16, Try.ntmps16
  go_wp2_with (go_at_call 31; refine HD.out.mono ?_; rintro e w' ⟨rfl, rfl⟩)
  go_ret
  exact ⟨rfl, rfl⟩

theorem cuts_dead (w : World) (v : Value)  (h : Dead w v) : Calls Try.prog 18 #[v] w fun e w' => e = .returned (.int .i64 0) ∧ w' = w := by
  have HD := Lib.hid (made_dead w v h)
  clear h
  go_enter Try.func18, Try.ntmps18
  go_wp2_with (go_at_call 31; refine HD.out.mono ?_; rintro e w' ⟨rfl, rfl⟩)
  go_ret
  exact ⟨rfl, rfl⟩

theorem writes_dead (w : World) (v : Value)  (h : Dead w v) : Calls Try.prog 17 #[v] w fun e w' => e = .returned (.int .i64 0) ∧ w' = w := by
  have HD := Lib.hid (made_dead w v h)
  clear h
  go_enter Try.func17, Try.ntmps17
  go_wp2_with (go_at_call 31; refine HD.out.mono ?_; rintro e w' ⟨rfl, rfl⟩)
  go_ret
  exact ⟨rfl, rfl⟩

theorem wear_dead (w : World) (v : Value) (a : Int) (h : Dead w v) : Calls Try.prog 22 #[v, .int .i64 a] w fun e w' => e = .returned (.int .i64 0) ∧ w' = w := by
  have HD := Lib.hid (made_dead w v h)
  clear h
  go_enter Try.func22, Try.ntmps22
  go_wp2_with (go_at_call 31; refine HD.out.mono ?_; rintro e w' ⟨rfl, rfl⟩)
  go_ret
  exact ⟨rfl, rfl⟩

theorem flip_dead (w : World) (v : Value) (a k : Int) (h : Dead w v) : Calls Try.prog 23 #[v, .int .i64 a, .int .i64 k] w fun e w' => e = .returned (.int .i64 31) ∧ w' = w := by
  have HD := Lib.hid (made_dead w v h)
  clear h
  go_enter Try.func23, Try.ntmps23
  go_wp2_with (go_at_call 31; refine HD.out.mono ?_; rintro e w' ⟨rfl, rfl⟩)
  go_ret
  exact ⟨rfl, rfl⟩

theorem image_dead (w : World) (v : Value)  (h : Dead w v) : Calls Try.prog 14 #[v] w fun e w' => e = .returned (.slice none 0 0) ∧ w' = w := by
  have HD := Lib.hid (made_dead w v h)
  clear h
  go_enter Try.func14, Try.ntmps14
  go_wp2_with (go_at_call 31; refine HD.out.mono ?_; rintro e w' ⟨rfl, rfl⟩)
  go_ret
  exact ⟨rfl, rfl⟩

theorem clone_dead (w : World) (v : Value)  (h : Dead w v) : Calls Try.prog 20 #[v] w fun e w' => e = .returned (.pointer none) ∧ w' = w := by
  have HD := Lib.hid (made_dead w v h)
  clear h
  go_enter Try.func20, Try.ntmps20
  go_wp2_with (go_at_call 31; refine HD.out.mono ?_; rintro e w' ⟨rfl, rfl⟩)
  go_ret
  exact ⟨rfl, rfl⟩

theorem words_dead (w : World) (v : Value)  (h : Dead w v) : Calls Try.prog 24 #[v] w fun e w' => e = .returned (.int .i64 0) ∧ w' = w := by
  have HD := Lib.hid (made_dead w v h)
  clear h
  go_enter Try.func24, Try.ntmps24
  go_wp2_with (go_at_call 31; refine HD.out.mono ?_; rintro e w' ⟨rfl, rfl⟩)
  go_ret
  exact ⟨rfl, rfl⟩

theorem restore_dead (w : World) (v : Value)  (h : Dead w v) : Calls Try.prog 19 #[v] w fun e w' => e = .returned (.tuple #[]) ∧ w' = w := by
  have HD := Lib.hid (made_dead w v h)
  clear h
  go_enter Try.func19, Try.ntmps19
  go_wp2_with (go_at_call 31; refine HD.out.mono ?_; rintro e w' ⟨rfl, rfl⟩)
  go_end0
  exact ⟨rfl, rfl⟩

end Go.Proofs.Ytcojoohbhkhlnaa
