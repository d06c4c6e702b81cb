/-
  The walk of the law ApduDecodes.
-/
import Derived.Test.YtjoibonbmalbdaaRdc
import Derived.Test.YtjoibonbmalbdaaDrs
import Derived.Test.YtjoibonbmalbdaaExh
import Derived.Test.YtjoibonbmalbdaaRsd
import Derived.Test.YtjoibonbmalbdaaLcm
namespace Go.Proofs.Ytjoibonbmalbdaa
set_option linter.unusedVariables false
set_option linter.unusedSimpArgs false
open Go.RowKit

theorem cells2 {W : World} {n : Nat} {x0 x1 : Value} {ty : TypeId} (ra : W.heap[n]? = some (.cells #[x0, x1] ty (0, 0))) :
    W.cell? ⟨n, 0, none⟩ = some x0 ∧ W.cell? ⟨n, 1, none⟩ = some x1 :=
  ⟨cell_of_row _ _ 0 _ _ _ ra, cell_of_row _ _ 1 _ _ _ ra⟩

set_option maxRecDepth 100000 in
set_option maxHeartbeats 3200000 in
theorem law_decodes (l : List UInt8) (v : Value) (w : World) (h : SL w w.heap.size v l) :
    Calls Try.prog 4 #[v] w fun e w' => e = .returned (.bool true) ∧ Below w.heap.size w w' := by
  by_cases hl : 70000 < l.length
  · obtain ⟨A, c, rfl, _, _, _⟩ := h
    go_enter Try.func4, Try.ntmps4
    go_wp2_with fail
    refine (example_any _).mono ?_
    rintro e w1 ⟨rfl, hb1⟩
    go_wp2_with fail
    go_ret
    exact ⟨rfl, hb1⟩
  have HV := Lib.hid h
  have HP := pdec_any l v w h (by omega)
  have HR := fun (W : World) (hW : Below w.heap.size w W) => rdec_any l _ W (HV.out.on hW) (by omega)
  have HP2 := fun (W : World) (hW : Below w.heap.size w W) => pdr_any l _ W (HV.out.on hW)
  have HR2 := fun (W : World) (hW : Below w.heap.size w W) => rdr_any l _ W (HV.out.on hW)
  unfold DecR at HP HR
  unfold DrR at HP2 HR2
  have HSB := fun (v1 v2 : Value) (W : World) (h3 : SL W W.heap.size v1 (decV l).data) (h4 : SL W W.heap.size v2 (decV l).data) => rsamec_any (decV l) (decV l) v1 v2 W h3 h4
  rw [sameC_self] at HSB
  have HSD := fun (v1 v2 : Value) (W : World) (h3 : SL W W.heap.size v1 (drV l).1) (h4 : SL W W.heap.size v2 (drV l).1) => rsamer_true (drV l).1 (drV l).2 v1 v2 W h3 h4
  generalize decV l = V at *
  generalize decE l = E at *
  generalize drE l = F at *
  generalize drV l = U at *
  obtain ⟨a0, a1, a2, a3, ad, ale, al⟩ := V
  obtain ⟨rd, sw⟩ := U
  simp only [Cm.val] at HP HR HSB
  simp only at HP2 HR2 HSD
  have HP := Lib.hid HP
  have HR := Lib.hid HR
  have HP2 := Lib.hid HP2
  have HR2 := Lib.hid HR2
  have HSB := Lib.hid HSB
  have HSD := Lib.hid HSD
  obtain ⟨A, c, rfl, _, _, _⟩ := h
  have hl' : l.length ≤ 70000 := by omega
  clear hl
  go_enter Try.func4, Try.ntmps4
  go_wp2_with fail
  refine HP.out.mono ?_
  rintro e w1 ⟨v1, rfl, hv1, hb1⟩
  have HV1 := Lib.hid hv1
  obtain ⟨A1, c1, rfl, _, _, _⟩ := hv1
  have hal := alloc_below w1 (.cells #[.int .i64 a0, .int .i64 a1, .int .i64 a2, .int .i64 a3, .slice A1 ad.length c1, .int .i64 ale, .bool al] 24)
  have HW2 := Lib.hid (hb1.trans (hal.mono hb1.size))
  have HV2 := Lib.hid (HV1.out.on hal)
  have hrow := heap_alloc_new w1 (.cells #[.int .i64 a0, .int .i64 a1, .int .i64 a2, .int .i64 a3, .slice A1 ad.length c1, .int .i64 ale, .bool al] 24)
  have hs1 : w1.heap.size < (w1.alloc (.cells #[.int .i64 a0, .int .i64 a1, .int .i64 a2, .int .i64 a3, .slice A1 ad.length c1, .int .i64 ale, .bool al] 24)).heap.size := by rw [alloc_size]; omega
  clear hal hb1
  go_wp2_with fail
  refine (HR.out _ HW2.out).mono ?_
  rintro e w3 ⟨v3, rfl, hv3, hb3⟩
  have HR3 := Lib.hid ((hb3.block _ hs1).trans hrow)
  have HV3 := Lib.hid hv3
  have HV13 := Lib.hid (HV2.out.on hb3)
  obtain ⟨A3, c3, rfl, _, _, _⟩ := hv3
  have hs3 : w1.heap.size < w3.heap.size := by have := hb3.size; omega
  have hal3 := alloc_below w3 (.cells #[.int .i64 a0, .int .i64 a1, .int .i64 a2, .int .i64 a3, .slice A3 ad.length c3, .int .i64 ale, .bool al] 24)
  have hrow3 := heap_alloc_new w3 (.cells #[.int .i64 a0, .int .i64 a1, .int .i64 a2, .int .i64 a3, .slice A3 ad.length c3, .int .i64 ale, .bool al] 24)
  have hs4 : w3.heap.size < (w3.alloc (.cells #[.int .i64 a0, .int .i64 a1, .int .i64 a2, .int .i64 a3, .slice A3 ad.length c3, .int .i64 ale, .bool al] 24)).heap.size := by rw [alloc_size]; omega
  have HW3 := Lib.hid (HW2.out.trans (hb3.mono HW2.out.size))
  have HW4 := Lib.hid (HW3.out.trans (hal3.mono HW3.out.size))
  have HR4 := Lib.hid ((hal3.block _ hs3).trans HR3.out)
  have HV14 := Lib.hid (HV13.out.on hal3)
  have HV34 := Lib.hid (HV3.out.on hal3)
  clear hal3 hb3 hrow hs1
  go_wp2_with fail
  refine (HP2.out _ HW4.out).mono ?_
  rintro e w5 ⟨v5, rfl, hv5, hb5⟩
  have HV5 := Lib.hid hv5
  have HR5 := Lib.hid ((hb5.block _ (by rw [alloc_size]; omega)).trans HR4.out)
  have HQ5 := Lib.hid ((hb5.block _ hs4).trans hrow3)
  have HV15 := Lib.hid (HV14.out.on hb5)
  have HV35 := Lib.hid (HV34.out.on hb5)
  obtain ⟨A5, c5, rfl, _, _, _⟩ := hv5
  have hs5 : w1.heap.size < w5.heap.size := by have := hb5.size; rw [alloc_size] at this; omega
  have hs35 : w3.heap.size < w5.heap.size := by have := hb5.size; rw [alloc_size] at this; omega
  have hal5 := alloc_below w5 (.cells #[.slice A5 rd.length c5, .int .i64 sw] 36)
  have hrow5 := heap_alloc_new w5 (.cells #[.slice A5 rd.length c5, .int .i64 sw] 36)
  have hs6 : w5.heap.size < (w5.alloc (.cells #[.slice A5 rd.length c5, .int .i64 sw] 36)).heap.size := by rw [alloc_size]; omega
  have HW5 := Lib.hid (HW4.out.trans (hb5.mono HW4.out.size))
  have HW6 := Lib.hid (HW5.out.trans (hal5.mono HW5.out.size))
  have HR6 := Lib.hid ((hal5.block _ hs5).trans HR5.out)
  have HQ6 := Lib.hid ((hal5.block _ hs35).trans HQ5.out)
  have HV16 := Lib.hid (HV15.out.on hal5)
  have HV36 := Lib.hid (HV35.out.on hal5)
  have HV56 := Lib.hid (HV5.out.on hal5)
  clear hal5 hb5
  go_wp2_with fail
  refine (HR2.out _ HW6.out).mono ?_
  rintro e w7 ⟨v7, rfl, hv7, hb7⟩
  have HV7 := Lib.hid hv7
  have HR7 := Lib.hid ((hb7.block _ (by rw [alloc_size]; omega)).trans HR6.out)
  have HQ7 := Lib.hid ((hb7.block _ (by rw [alloc_size]; omega)).trans HQ6.out)
  have HS7 := Lib.hid ((hb7.block _ hs6).trans hrow5)
  have HV17 := Lib.hid (HV16.out.on hb7)
  have HV37 := Lib.hid (HV36.out.on hb7)
  have HV57 := Lib.hid (HV56.out.on hb7)
  have HW7 := Lib.hid (HW6.out.trans (hb7.mono HW6.out.size))
  have hs7 : w5.heap.size < w7.heap.size := by have := hb7.size; omega
  obtain ⟨A7, c7, rfl, _, _, _⟩ := hv7
  have hal7 := alloc_below w7 (.cells #[.slice A7 rd.length c7, .int .i64 sw] 36)
  have hrow7 := heap_alloc_new w7 (.cells #[.slice A7 rd.length c7, .int .i64 sw] 36)
  have hs8 : w7.heap.size < (w7.alloc (.cells #[.slice A7 rd.length c7, .int .i64 sw] 36)).heap.size := by rw [alloc_size]; omega
  have HW8 := Lib.hid (HW7.out.trans (hal7.mono HW7.out.size))
  have HR8 := Lib.hid ((hal7.block _ (by omega)).trans HR7.out)
  have HQ8 := Lib.hid ((hal7.block _ (by omega)).trans HQ7.out)
  have HS8 := Lib.hid ((hal7.block _ hs7).trans HS7.out)
  have HV18 := Lib.hid (HV17.out.on hal7)
  have HV38 := Lib.hid (HV37.out.on hal7)
  have HV58 := Lib.hid (HV57.out.on hal7)
  have HV78 := Lib.hid (HV7.out.on hal7)
  have HSB1 := Lib.hid (HSB.out _ _ _ HV18.out HV38.out)
  clear hal7 hb7
  obtain ⟨r0, r1, r2, r3, r4, r5, r6⟩ := cells7 HR8.out
  obtain ⟨q0, q1, q2, q3, q4, q5, q6⟩ := cells7 HQ8.out
  go_wp2_with fail
  refine HSB1.out.mono ?_
  rintro e w9 ⟨rfl, hb9⟩
  have HS9 := Lib.hid ((hb9.block _ (by rw [alloc_size]; omega)).trans HS8.out)
  have HT9 := Lib.hid ((hb9.block _ hs8).trans hrow7)
  have HW9 := Lib.hid (HW8.out.trans (hb9.mono HW8.out.size))
  have HV59 := Lib.hid (HV58.out.on hb9)
  have HV79 := Lib.hid (HV78.out.on hb9)
  have HSD1 := Lib.hid (HSD.out _ _ _ HV59.out HV79.out)
  clear hb9 r0 r1 r2 r3 r4 r5 r6 q0 q1 q2 q3 q4 q5 q6
  obtain ⟨s0, s1⟩ := cells2 HS9.out
  obtain ⟨t0, t1⟩ := cells2 HT9.out
  go_wp2_with fail
  refine HSD1.out.mono ?_
  rintro e w10 ⟨rfl, hb10⟩
  have HW10 := Lib.hid (HW9.out.trans (hb10.mono HW9.out.size))
  clear s0 s1 t0 t1 hb10
  go_wp2_with fail
  refine (example_any _).mono ?_
  rintro e w11 ⟨rfl, hb11⟩
  go_wp2_with fail
  go_ret
  exact ⟨rfl, HW10.out.trans (hb11.mono HW10.out.size)⟩
end Go.Proofs.Ytjoibonbmalbdaa
