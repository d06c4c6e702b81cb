/-
  The example that every law of the layer ends in; the law FileheadFollows.
-/
import Derived.Test.YtkjcafhaenkpbaaDoorFld
namespace Go.Proofs.YtkjcafhaenkpbaaDoor
set_option linter.unusedVariables false
set_option linter.unusedSimpArgs false
open Go.RowKit

set_option maxRecDepth 100000 in
set_option maxHeartbeats 3200000 in
theorem ex_bytes (w : World) (hT : Tb w) : Calls Tryd.prog 17 #[.agg #[.int .i64 12033, .int .i64 2, .slice none 0 0, .int .i64 1, .int .i64 32, .int .i64 0, .int .i64 0, .int .i64 1, .slice none 0 0]] w fun e w' => e = .returned (.int .i64 32) ∧ Below w.heap.size w w' := by
  have hb := alloc_below w (Obj.cells #[.int .i64 12033, .int .i64 2, .slice none 0 0, .int .i64 1, .int .i64 32, .int .i64 0, .int .i64 0, .int .i64 1, .slice none 0 0] 25)
  have hn := heap_alloc_new w (Obj.cells #[.int .i64 12033, .int .i64 2, .slice none 0 0, .int .i64 1, .int .i64 32, .int .i64 0, .int .i64 0, .int .i64 1, .slice none 0 0] 25)
  have hz := alloc_size w (Obj.cells #[.int .i64 12033, .int .i64 2, .slice none 0 0, .int .i64 1, .int .i64 32, .int .i64 0, .int .i64 0, .int .i64 1, .slice none 0 0] 25)
  have HC := Lib.hid (ex_chk _ (hT.on hb))
  have HB := Lib.hid hb
  have HN := Lib.hid hn
  have HZ := Lib.hid hz
  clear hb hn hz hT
  go_enter Tryd.func17, Tryd.ntmps17
  go_wp2_with fail
  refine HC.out.mono ?_
  rintro e w1 ⟨rfl, hb1⟩
  have hk1 := (hb1.block w.heap.size (by rw [HZ.out]; omega)).trans HN.out
  have k4 := cell_of_row _ _ 4 _ _ _ hk1
  have k5 := cell_of_row _ _ 5 _ _ _ hk1
  have k6 := cell_of_row _ _ 6 _ _ _ hk1
  have HB1 := Lib.hid (HB.out.trans (hb1.mono HB.out.size))
  clear hb1 hk1
  go_wp2_with fail
  first
    | (go_ret; exact ⟨rfl, HB1.out⟩)
    | (go_quiet (fail); go_wp2_with fail; go_ret; exact ⟨rfl, below_drewN HB1.out _⟩)
    | (go_region; go_wp2_with fail; go_ret; exact ⟨rfl, HB1.out.drew⟩)
set_option maxRecDepth 100000 in
set_option maxHeartbeats 6400000 in
theorem awake_any (w : World) (hT : Tb w) : Calls Tryd.prog 13 #[] w fun e w' => e = .returned (.bool true) ∧ Below w.heap.size w w' := by
  have hb := alloc_below w (Obj.cells #[.int .i64 12033, .int .i64 2, .slice none 0 0, .int .i64 1, .int .i64 32, .int .i64 0, .int .i64 0, .int .i64 1, .slice none 0 0] 25)
  have hn := heap_alloc_new w (Obj.cells #[.int .i64 12033, .int .i64 2, .slice none 0 0, .int .i64 1, .int .i64 32, .int .i64 0, .int .i64 0, .int .i64 1, .slice none 0 0] 25)
  have hz := alloc_size w (Obj.cells #[.int .i64 12033, .int .i64 2, .slice none 0 0, .int .i64 1, .int .i64 32, .int .i64 0, .int .i64 0, .int .i64 1, .slice none 0 0] 25)
  have HE := Lib.hid (ex_enc _ (hT.on hb))
  have HT := Lib.hid (hT.on hb)
  have HB := Lib.hid hb
  have HN := Lib.hid hn
  have HZ := Lib.hid hz
  have HX : Hid (∀ W, Calls Tryd.prog 22 #[.int .i64 1, .int .i64 64] W fun e w' => e = .returned (.tuple #[.int .i64 2, .int .i64 0]) ∧ W = w') := fun W => pnxt_any 1 64 W
  clear hb hn hz hT
  go_enter Tryd.func13, Tryd.ntmps13
  go_wp2_with fail
  refine HE.out.mono ?_
  rintro e w1 ⟨v1, rfl, hsl1, hb1⟩
  have hk1 := (hb1.block w.heap.size (by rw [HZ.out]; omega)).trans HN.out
  have hs1 := hb1.size
  rw [HZ.out] at hs1
  obtain ⟨A1, c1, rfl, _⟩ := id hsl1
  have hl1 : exB.length = 19 := rfl
  rw [hl1] at hsl1 ⊢
  have HB1 := Lib.hid (HB.out.trans (hb1.mono HB.out.size))
  have HT1 := Lib.hid (HT.out.on hb1)
  have HSL1 := Lib.hid hsl1
  have HK1 := Lib.hid hk1
  clear hb1 hk1 hsl1 hl1
  go_wp2_with fail
  refine (HX.out _).mono ?_
  rintro e w2 ⟨rfl, rfl⟩
  have hbl := alloc_below w1 (Obj.cells #[.int .u8 98, .int .u8 17, .int .u8 130, .int .u8 1, .int .u8 2, .int .u8 131, .int .u8 2, .int .u8 47, .int .u8 1, .int .u8 128, .int .u8 2, .int .u8 0, .int .u8 32, .int .u8 136, .int .u8 1, .int .u8 1, .int .u8 138, .int .u8 1, .int .u8 1] 5)
  have hsn := SL.new w1 #[.int .u8 98, .int .u8 17, .int .u8 130, .int .u8 1, .int .u8 2, .int .u8 131, .int .u8 2, .int .u8 47, .int .u8 1, .int .u8 128, .int .u8 2, .int .u8 0, .int .u8 32, .int .u8 136, .int .u8 1, .int .u8 1, .int .u8 138, .int .u8 1, .int .u8 1] exB rfl (by decide)
  have hrs := rsame1_any exB exB _ _ _ (HSL1.out.on hbl) hsn
  rw [decide_eq_true rfl] at hrs
  have HRS := Lib.hid hrs
  have HBL := Lib.hid hbl
  clear hbl hsn hrs
  go_wp2_with fail
  refine HRS.out.mono ?_
  rintro e w3 ⟨rfl, hb3⟩
  have hb13 := HBL.out.trans (hb3.mono HBL.out.size)
  have hk3 := (hb13.block w.heap.size (by omega)).trans HK1.out
  have f0 := cell_of_row _ _ 0 _ _ _ hk3
  have f1 := cell_of_row _ _ 1 _ _ _ hk3
  have f2 := cell_of_row _ _ 2 _ _ _ hk3
  have f3 := cell_of_row _ _ 3 _ _ _ hk3
  have f4 := cell_of_row _ _ 4 _ _ _ hk3
  have f5 := cell_of_row _ _ 5 _ _ _ hk3
  have f6 := cell_of_row _ _ 6 _ _ _ hk3
  have f7 := cell_of_row _ _ 7 _ _ _ hk3
  have f8 := cell_of_row _ _ 8 _ _ _ hk3
  have HB3 := Lib.hid (HB1.out.trans (hb13.mono HB1.out.size))
  have HBY := Lib.hid (ex_bytes w3 (HT1.out.on hb13))
  clear hb3 hb13 hk3
  go_wp2_with fail
  refine HBY.out.mono ?_
  rintro e w4 ⟨rfl, hb4⟩
  go_wp2_with fail
  go_ret
  exact ⟨rfl, HB3.out.trans (hb4.mono HB3.out.size)⟩
theorem nxt_ended (o : Int) : nxtE 3 o = 1 ∨ nxtE 3 o = 14 := by
  unfold nxtE
  (repeat' split) <;> omega
set_option maxRecDepth 100000 in
set_option maxHeartbeats 6400000 in
theorem law_follows (s o : Int) (w : World) (hT : Tb w) : Calls Tryd.prog 6 #[.int .i64 s, .int .i64 o] w fun e w' => e = .returned (.bool true) ∧ Below w.heap.size w w' := by
  have HA := Lib.hid (awake_any w hT)
  have HP := Lib.hid (pnxt_any s o w)
  have HR := Lib.hid (rnxt_any s o w)
  unfold NxtP at HP HR
  clear hT
  by_cases hs : s = 3
  · subst hs
    rcases nxt_ended o with he | he <;> rw [he] at HP HR <;> clear he <;> generalize nxtS 3 o = N at * <;> (
      go_enter Tryd.func6, Tryd.ntmps6
      go_wp2_with fail
      refine HP.out.mono ?_
      rintro e w1 ⟨rfl, rfl⟩
      go_wp2_with fail
      refine HR.out.mono ?_
      rintro e w2 ⟨rfl, rfl⟩
      go_wp2_with fail
      refine HA.out.mono ?_
      rintro e w3 ⟨rfl, hb3⟩
      go_wp2_with fail
      go_ret
      exact ⟨rfl, hb3⟩)
  · have hs1 : (s == 3) = false := by simpa using hs
    have hs2 : (s != 3) = true := by simpa using hs
    generalize nxtS s o = N at *
    generalize nxtE s o = E at *
    go_enter Tryd.func6, Tryd.ntmps6
    go_wp2_with fail
    refine HP.out.mono ?_
    rintro e w1 ⟨rfl, rfl⟩
    go_wp2_with fail
    refine HR.out.mono ?_
    rintro e w2 ⟨rfl, rfl⟩
    go_wp2_with fail
    refine HA.out.mono ?_
    rintro e w3 ⟨rfl, hb3⟩
    go_wp2_with fail
    go_ret
    exact ⟨rfl, hb3⟩
end Go.Proofs.YtkjcafhaenkpbaaDoor
