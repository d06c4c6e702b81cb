/-
  The walk of the law BlockDecodes.
-/
import Derived.Test.YtnbggokmiokhlaaDoorRde
import Derived.Test.YtnbggokmiokhlaaDoorAwk
namespace Go.Proofs.YtnbggokmiokhlaaDoor
set_option linter.unusedVariables false
set_option linter.unusedSimpArgs false
open Go.RowKit

set_option maxRecDepth 100000 in
set_option maxHeartbeats 1600000 in
theorem law_decs (l : List UInt8) (k : Int) (v : Value) (w : World) (hv : SL w w.heap.size v l) (hT : Tb w) :
    Calls Tryd.prog 14 #[v, .int .i64 k] w fun e w' => e = .returned (.bool true) ∧ Below w.heap.size w w' := by
  by_cases hl : 300 < l.length
  · obtain ⟨A, c, rfl, _, _, _⟩ := hv
    go_enter Tryd.func14, Tryd.ntmps14
    go_wp2_with fail
    go_ret
    exact ⟨rfl, Below.refl _ _⟩
  have HV := Lib.hid hv
  have HT := Lib.hid hT
  have HP := pbde_any k l v w hv hT (by omega)
  have HR := fun (W : World) (hW : Below w.heap.size w W) => rbde_any k l _ W (HV.out.on hW) (by omega)
  unfold BdeR at HP HR
  have HSB := fun (v1 v2 : Value) (W : World) (h3 : SL W W.heap.size v1 (bdeV k l).inf) (h4 : SL W W.heap.size v2 (bdeV k l).inf) => rsameb_any (bdeV k l) (bdeV k l) v1 v2 W h3 h4
  rw [sameB_self] at HSB
  have HA := Lib.hid (fun (W : World) (hW : Below w.heap.size w W) => awake_any W (HT.out.on hW))
  generalize bdeV k l = V at *
  generalize bdeE k l = E at *
  obtain ⟨nad, kind, s, m, code, ans, inf⟩ := V
  simp only [Bk.val] at HP HR HSB
  have HP := Lib.hid HP
  have HR := Lib.hid HR
  have HSB := Lib.hid HSB
  obtain ⟨A, c, rfl, _, _, _⟩ := hv
  clear hT
  have hl' : l.length ≤ 300 := by omega
  clear hl
  go_enter Tryd.func14, Tryd.ntmps14
  go_wp2_with fail
  refine HP.out.mono ?_
  rintro e w1 ⟨v1, rfl, hv1, hb1⟩
  have HV1 := Lib.hid hv1
  obtain ⟨A1, c1, rfl, _, _, _⟩ := hv1
  have hal := alloc_below w1 (.cells #[.int .i64 nad, .int .i64 kind, .int .i64 s, .bool m, .int .i64 code, .bool ans, .slice A1 inf.length c1] 47)
  have HW2 := Lib.hid (hb1.trans (hal.mono hb1.size))
  have HV2 := Lib.hid (HV1.out.on hal)
  have hrow := heap_alloc_new w1 (.cells #[.int .i64 nad, .int .i64 kind, .int .i64 s, .bool m, .int .i64 code, .bool ans, .slice A1 inf.length c1] 47)
  have hs1 : w1.heap.size < (w1.alloc (.cells #[.int .i64 nad, .int .i64 kind, .int .i64 s, .bool m, .int .i64 code, .bool ans, .slice A1 inf.length c1] 47)).heap.size := by rw [alloc_size]; omega
  clear hal hb1
  go_wp2_with fail
  refine (HR.out _ HW2.out).mono ?_
  rintro e w3 ⟨v3, rfl, hv3, hb3⟩
  have HR3 := Lib.hid ((hb3.block _ hs1).trans hrow)
  have HV3 := Lib.hid hv3
  have HV13 := Lib.hid (HV2.out.on hb3)
  obtain ⟨A3, c3, rfl, _, _, _⟩ := hv3
  have hs3 : w1.heap.size < w3.heap.size := by have := hb3.size; omega
  have hal3 := alloc_below w3 (.cells #[.int .i64 nad, .int .i64 kind, .int .i64 s, .bool m, .int .i64 code, .bool ans, .slice A3 inf.length c3] 47)
  have HW3 := Lib.hid (HW2.out.trans (hb3.mono HW2.out.size))
  have HW4 := Lib.hid (HW3.out.trans (hal3.mono HW3.out.size))
  have HR4 := Lib.hid ((hal3.block _ hs3).trans HR3.out)
  have HS4 := Lib.hid (HSB.out _ _ _ (HV13.out.on hal3) (HV3.out.on hal3))
  clear hal3 hb3 hrow hs1
  obtain ⟨r0, r1, r2, r3, r4, r5, r6⟩ := cells7 HR3.out
  go_wp2_with fail
  refine HS4.out.mono ?_
  rintro e w5 ⟨rfl, hb5⟩
  have HW5 := Lib.hid (HW4.out.trans (hb5.mono HW4.out.size))
  clear r0 r1 r2 r3 r4 r5 r6 hb5
  go_wp2_with fail
  refine (HA.out _ HW5.out).mono ?_
  rintro e w6 ⟨rfl, hb6⟩
  go_wp2_with fail
  go_ret
  exact ⟨rfl, HW5.out.trans (hb6.mono HW5.out.size)⟩
end Go.Proofs.YtnbggokmiokhlaaDoor
