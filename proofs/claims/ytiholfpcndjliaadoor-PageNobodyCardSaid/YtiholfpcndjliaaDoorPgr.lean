/-
  Pages that are nil; the law PageNobody.
-/
import Derived.Test.YtiholfpcndjliaaDoorPgq
namespace Go.Proofs.YtiholfpcndjliaaDoor
set_option linter.unusedVariables false
set_option linter.unusedSimpArgs false
open Go.RowKit

theorem pcount_nil (w : World) : Calls Tryd.prog 30 #[.pointer none] w fun e w' => e = .returned (.int .i64 0) ∧ w' = w := by
  have HM := Lib.hid (pmade_nil w)
  go_enter Tryd.func30, Tryd.ntmps30
  go_wp2_with (go_at_call 54; refine HM.out.mono ?_; rintro e w' ⟨rfl, rfl⟩)
  go_ret
  exact ⟨rfl, rfl⟩
theorem pfixed_nil (w : World) : Calls Tryd.prog 24 #[.pointer none] w fun e w' => e = .returned (.int .i64 0) ∧ w' = w := by
  have HM := Lib.hid (pmade_nil w)
  go_enter Tryd.func24, Tryd.ntmps24
  go_wp2_with (go_at_call 54; refine HM.out.mono ?_; rintro e w' ⟨rfl, rfl⟩)
  go_ret
  exact ⟨rfl, rfl⟩
theorem palive_nil (w : World) : Calls Tryd.prog 25 #[.pointer none] w fun e w' => e = .returned (.bool false) ∧ ∃ n, w' = w.drewN n := by
  have HM := Lib.hid (fun n => pmade_nil (w.drewN n))
  go_enter Tryd.func25, Tryd.ntmps25
  go_wp2
  go_quiet ((go_at_call 54; exact Calls.quiet_of_same (HM.out _)))
  go_wp2
  go_ret
  exact ⟨rfl, _, rfl⟩
theorem pread_nil (w : World) (i : Int) : Calls Tryd.prog 22 #[.pointer none, .int .i64 i] w fun e w' => e = .returned (.tuple #[.slice none 0 0, .int .i64 31]) ∧ w' = w := by
  have HM := Lib.hid (pmade_nil w)
  go_enter Tryd.func22, Tryd.ntmps22
  go_wp2_with (go_at_call 54; refine HM.out.mono ?_; rintro e w' ⟨rfl, rfl⟩)
  go_ret2
  exact ⟨rfl, rfl⟩
theorem pwrite_nil (w : World) (i : Int) (v : Value) : Calls Tryd.prog 19 #[.pointer none, .int .i64 i, v] w fun e w' => e = .returned (.int .i64 31) ∧ w' = w := by
  have HM := Lib.hid (pmade_nil w)
  go_enter Tryd.func19, Tryd.ntmps19
  go_wp2_with (go_at_call 54; refine HM.out.mono ?_; rintro e w' ⟨rfl, rfl⟩)
  go_ret
  exact ⟨rfl, rfl⟩

set_option maxRecDepth 100000 in
set_option maxHeartbeats 1600000 in
theorem law_nobody (i : Int) (l : List UInt8) (v : Value) (w : World) (hv : SL w w.heap.size v l) (hT : Tb w) :
    Calls Tryd.prog 8 #[.int .i64 i, v] w fun e w' => e = .returned (.bool true) ∧ Below w.heap.size w w' := by
  have HW := Lib.hid (fun (W : World) (hW : Below w.heap.size w W) => works_any W (hT.on hW))
  obtain ⟨A, c, rfl, h1, h2, _⟩ := hv
  unfold maxLen at h2
  clear hT
  generalize l.length = n at *
  by_cases h3 : 1000 < n
  · go_enter Tryd.func8, Tryd.ntmps8
    go_wp2_with (go_at_call 15; refine (HW.out _ (Below.refl _ _)).mono ?_; rintro e w2 ⟨rfl, hb2⟩)
    go_ret
    exact ⟨rfl, hb2⟩
  · have HA := Lib.hid (palive_nil w)
    have HO := Lib.hid (popen_nil w (.pointer none) (.inl rfl))
    have HR := Lib.hid (pread_nil w i)
    have HX := Lib.hid (pwrite_nil w i (.slice A n c))
    have HC := Lib.hid (pcount_nil w)
    have HF := Lib.hid (pfixed_nil w)
    go_enter Tryd.func8, Tryd.ntmps8
    go_wp2_with (first
      | (go_at_call 17; refine HO.out.mono ?_; rintro e W1 ⟨rfl, hW1⟩; rw [hW1]; clear hW1 W1)
      | (go_at_call 22; refine HR.out.mono ?_; rintro e W1 ⟨rfl, hW1⟩; rw [hW1]; clear hW1 W1)
      | (go_at_call 19; refine HX.out.mono ?_; rintro e W1 ⟨rfl, hW1⟩; rw [hW1]; clear hW1 W1)
      | (go_at_call 30; refine HC.out.mono ?_; rintro e W1 ⟨rfl, hW1⟩; rw [hW1]; clear hW1 W1)
      | (go_at_call 24; refine HF.out.mono ?_; rintro e W1 ⟨rfl, hW1⟩; rw [hW1]; clear hW1 W1)
      | (go_at_call 25; refine HA.out.mono ?_; rintro e W1 ⟨rfl, m, hW1⟩; rw [hW1]; clear hW1 W1)
      | (go_at_call 15; refine (HW.out _ (drewN_below _ _ _)).mono ?_; rintro e w2 ⟨rfl, hb2⟩))
    go_ret
    exact ⟨rfl, (drewN_below w.heap.size w m).trans hb2⟩
end Go.Proofs.YtiholfpcndjliaaDoor
