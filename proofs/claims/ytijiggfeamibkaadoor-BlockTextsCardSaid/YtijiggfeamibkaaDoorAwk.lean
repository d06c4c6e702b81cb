
/-
  The walk of the chapter's examples of layer 6.
-/
import Derived.Test.YtijiggfeamibkaaDoorBde
namespace Go.Proofs.YtijiggfeamibkaaDoor
set_option linter.unusedVariables false
set_option linter.unusedSimpArgs false
open Go.RowKit

def exB : Bk := ⟨0, 0, 1, false, 0, false, [160, 176]⟩
theorem ex_enc : benE 0 exB = 0 ∧ benV 0 exB = [0, 64, 2, 160, 176, 82] := by decide +kernel
theorem ex_dec : bdeE 0 [0, 130, 0, 130] = 0 ∧ bdeV 0 [0, 130, 0, 130] = ⟨0, 1, 0, false, 2, false, []⟩ := by
  have h : bdeE 0 [0, 130, 0, 130] = 0 := by decide +kernel
  refine ⟨h, ?_⟩
  rw [bdeV, if_pos h]
  have e : remV 0 [0, 130, 0, 130] = [0, 130, 0] := by decide +kernel
  rw [e]
  rfl

set_option maxRecDepth 100000 in
set_option maxHeartbeats 800000 in
theorem awake_any (w : World) (hT : Tb w) : Calls Tryd.prog 7 #[] w fun e w' => e = .returned (.bool true) ∧ Below w.heap.size w w' := by
  have HT := Lib.hid hT
  have hs0 := SL.lit' w [160, 176] (by decide)
  have H1 := penc_any 0 exB _ _ hs0 (hT.on (alloc_below w (.cells (List.map bv [160, 176]).toArray 5)))
  unfold BenR at H1
  rw [ex_enc.1, ex_enc.2] at H1
  have H1 : Hid (Calls Tryd.prog 16 #[.agg #[.int .i64 0, .int .i64 0, .int .i64 1, .bool false, .int .i64 0, .bool false, .slice (some ⟨w.heap.size, 0, none⟩) 2 2], .int .i64 0] (w.alloc (.cells #[.int .u8 160, .int .u8 176] 5)) fun e w' => ∃ v', e = .returned (.tuple #[v', .int .i64 0]) ∧ SL w' w'.heap.size v' [0, 64, 2, 160, 176, 82] ∧ Below (w.alloc (.cells #[.int .u8 160, .int .u8 176] 5)).heap.size (w.alloc (.cells #[.int .u8 160, .int .u8 176] 5)) w') := H1
  clear hT hs0
  go_enter Tryd.func7, Tryd.ntmps7
  go_wp2_with fail
  refine H1.out.mono ?_
  rintro e w1 ⟨v1, rfl, hv1, hb1⟩
  have hw1 : Below w.heap.size w w1 := below_alloc2 hb1
  have HV1 := Lib.hid hv1
  have HW1 := Lib.hid hw1
  clear hv1 hb1 hw1
  have hs1 := SL.lit' w1 [0, 130, 0, 130] (by decide)
  have H2 := pbde_any 0 [0, 130, 0, 130] _ _ hs1 (HT.out.on (HW1.out.trans ((alloc_below w1 (.cells (List.map bv [0, 130, 0, 130]).toArray 5)).mono HW1.out.size))) (by decide)
  unfold BdeR at H2
  rw [ex_dec.1, ex_dec.2] at H2
  have H2 : Hid (Calls Tryd.prog 17 #[.slice (some ⟨w1.heap.size, 0, none⟩) 4 4, .int .i64 0] (w1.alloc (.cells #[.int .u8 0, .int .u8 130, .int .u8 0, .int .u8 130] 5)) fun e w' => ∃ v', e = .returned (.tuple #[.agg #[.int .i64 0, .int .i64 1, .int .i64 0, .bool false, .int .i64 2, .bool false, v'], .int .i64 0]) ∧ SL w' w'.heap.size v' [] ∧ Below (w1.alloc (.cells #[.int .u8 0, .int .u8 130, .int .u8 0, .int .u8 130] 5)).heap.size (w1.alloc (.cells #[.int .u8 0, .int .u8 130, .int .u8 0, .int .u8 130] 5)) w') := H2
  clear hs1
  go_wp2_with fail
  refine H2.out.mono ?_
  rintro e w2 ⟨v2, rfl, hv2, hb2⟩
  have hw12 := below_alloc2 hb2
  have hw2 : Below w.heap.size w w2 := HW1.out.trans (hw12.mono HW1.out.size)
  have HV2 := Lib.hid (HV1.out.on hw12)
  have HW2 := Lib.hid hw2
  obtain ⟨A2, c2, rfl, _, _, _⟩ := hv2
  clear hb2 hw12 hw2
  have hlit : ∀ o : Obj, SL ((w2.alloc o).alloc (.cells #[.int .u8 0, .int .u8 64, .int .u8 2, .int .u8 160, .int .u8 176, .int .u8 82] 5)) ((w2.alloc o).alloc (.cells #[.int .u8 0, .int .u8 64, .int .u8 2, .int .u8 160, .int .u8 176, .int .u8 82] 5)).heap.size (.slice (some ⟨w2.heap.size + 1, 0, none⟩) 6 6) [0, 64, 2, 160, 176, 82] := fun o => by
    have := SL.lit' (w2.alloc o) [0, 64, 2, 160, 176, 82] (by decide)
    rw [alloc_size w2 o] at this
    exact this
  have HLIT := Lib.hid hlit
  clear hlit
  have HS := Lib.hid (fun (W : World) (hW : Below w2.heap.size w2 W) (u : Value) (hu : SL W W.heap.size u [0, 64, 2, 160, 176, 82]) => rsame_any [0, 64, 2, 160, 176, 82] [0, 64, 2, 160, 176, 82] v1 u W _ (HV2.out.on hW) hu)
  obtain ⟨A1, c1, rfl, _, _, _⟩ := HV2.out
  go_wp2_with fail
  refine (HS.out _ (below_2 _ _ _) _ (HLIT.out _)).mono ?_
  rintro e w3 ⟨rfl, n, rfl⟩
  go_wp2_with fail
  go_ret
  exact ⟨rfl, below_drewN (HW2.out.trans ((below_2 _ _ _).mono HW2.out.size)) _⟩
end Go.Proofs.YtijiggfeamibkaaDoor
