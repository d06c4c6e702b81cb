/-
  Layer 19: the example in which every law ends.
-/
import Derived.Test.YtndkkkkfgihemaaCig
namespace Go.Proofs.Ytndkkkkfgihemaa
set_option linter.unusedVariables false
set_option linter.unusedSimpArgs false
open Go.RowKit

set_option maxRecDepth 100000 in
set_option maxHeartbeats 6400000 in
theorem ex19_any (w : World) : Calls Try.prog 15 #[] w fun e w' => e = .returned (.bool true) ∧ Below w.heap.size w w' := by
  obtain ⟨Z7, m7, o7⟩ : ∃ Z : Obj, (∀ W : World, (Instr.makeSlice 22 (.int .i64 7) (.int .i64 7)).run Try.prog W = .ok (.slice (some ⟨W.heap.size, 0, none⟩) 7 7) (W.alloc Z)) ∧ Hid (∀ W : World, OB (W.alloc Z) W.heap.size (.slice (some ⟨W.heap.size, 0, none⟩) 7 7) (List.replicate 7 0)) := ⟨_, mkz7, ob_zeros 7 (by omega)⟩
  obtain ⟨Z8, m8, o8⟩ : ∃ Z : Obj, (∀ W : World, (Instr.makeSlice 22 (.int .i64 8) (.int .i64 8)).run Try.prog W = .ok (.slice (some ⟨W.heap.size, 0, none⟩) 8 8) (W.alloc Z)) ∧ Hid (∀ W : World, OB (W.alloc Z) W.heap.size (.slice (some ⟨W.heap.size, 0, none⟩) 8 8) (List.replicate 8 0)) := ⟨_, mkz8, ob_zeros 8 (by omega)⟩
  obtain ⟨Z15, m15, o15⟩ : ∃ Z : Obj, (∀ W : World, (Instr.makeSlice 22 (.int .i64 15) (.int .i64 15)).run Try.prog W = .ok (.slice (some ⟨W.heap.size, 0, none⟩) 15 15) (W.alloc Z)) ∧ Hid (∀ W : World, OB (W.alloc Z) W.heap.size (.slice (some ⟨W.heap.size, 0, none⟩) 15 15) (List.replicate 15 0)) := ⟨_, mkz15, ob_zeros 15 (by omega)⟩
  obtain ⟨Z16, m16, o16⟩ : ∃ Z : Obj, (∀ W : World, (Instr.makeSlice 22 (.int .i64 16) (.int .i64 16)).run Try.prog W = .ok (.slice (some ⟨W.heap.size, 0, none⟩) 16 16) (W.alloc Z)) ∧ Hid (∀ W : World, OB (W.alloc Z) W.heap.size (.slice (some ⟨W.heap.size, 0, none⟩) 16 16) (List.replicate 16 0)) := ⟨_, mkz16, ob_zeros 16 (by omega)⟩
  have E1 := Lib.hid (two_mk 15 8 Z15 Z8 o15.out o8.out (penc_any (List.replicate 15 0) (List.replicate 8 0)))
  have E2 := Lib.hid (two_mk 16 7 Z16 Z7 o16.out o7.out (penc_any (List.replicate 16 0) (List.replicate 7 0)))
  have E3 := Lib.hid (two_mk 16 8 Z16 Z8 o16.out o8.out (penc_any (List.replicate 16 0) (List.replicate 8 0)))
  have E4 := Lib.hid (two_mk 16 8 Z16 Z8 o16.out o8.out (renc_any (List.replicate 16 0) (List.replicate 8 0)))
  have f1 : fitE (List.replicate 15 0) (List.replicate 8 0) = 19 := by decide
  have f2 : fitE (List.replicate 16 0) (List.replicate 7 0) = 1 := by decide
  have f3 : fitE (List.replicate 16 0) (List.replicate 8 0) = 0 := by decide
  rw [f1] at E1
  rw [f2] at E2
  rw [f3] at E3 E4
  generalize encM (List.replicate 15 0) (List.replicate 8 0) = r1 at *
  generalize encM (List.replicate 16 0) (List.replicate 7 0) = r2 at *
  generalize encM (List.replicate 16 0) (List.replicate 8 0) = r3 at *
  clear f1 f2 f3 o7 o8 o15 o16
  go_enter Try.func15, Try.ntmps15
  go_wp2
  go_region_with (first
    | (go_at_call 16; (with_reducible refine (E1.out _).1.mono ?_); rintro e w1 ⟨v1, rfl, hv1, hb1⟩)
    | (go_at_call 16; (with_reducible refine (E1.out _).2.mono ?_); rintro e w1 ⟨v1, rfl, hv1, hb1⟩))
  all_goals
    go_wp2
    go_region_with (first
      | (go_at_call 16; (with_reducible refine (E2.out _).1.mono ?_); rintro e w2 ⟨v2, rfl, hv2, hb2⟩)
      | (go_at_call 16; (with_reducible refine (E2.out _).2.mono ?_); rintro e w2 ⟨v2, rfl, hv2, hb2⟩))
    all_goals
      go_wp2
      go_region_with (first
        | (go_at_call 16; (with_reducible refine (E3.out _).1.mono ?_); rintro e w3 ⟨v3, rfl, hv3, hb3⟩)
        | (go_at_call 16; (with_reducible refine (E3.out _).2.mono ?_); rintro e w3 ⟨v3, rfl, hv3, hb3⟩))
      all_goals
        go_wp2
        go_region_with (first
          | (go_at_call 17; (with_reducible refine (E4.out _).1.mono ?_); rintro e w4 ⟨v4, rfl, hv4, hb4⟩)
          | (go_at_call 17; (with_reducible refine (E4.out _).2.mono ?_); rintro e w4 ⟨v4, rfl, hv4, hb4⟩))
        all_goals
          have s3 := hv3.on hb4
          have HS := Lib.hid (fun n => rsame_any r3 r3 v3 v4 (w4.drewN n) w4.heap.size s3 hv4)
          go_wp2_with (go_at_call 20; refine (HS.out 0).mono ?_; rintro e w5 ⟨rfl, n5, rfl⟩)
          go_ret
          exact ⟨rfl, below_drewN (hb1.trans ((hb2.trans ((hb3.trans (hb4.mono hb3.size)).mono hb2.size)).mono hb1.size)) n5⟩
end Go.Proofs.Ytndkkkkfgihemaa
