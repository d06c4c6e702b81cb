/-
  The walk of the law ApduCommands.
-/
import Derived.Test.YtjoibonbmalbdaaRne
namespace Go.Proofs.Ytjoibonbmalbdaa
set_option linter.unusedVariables false
set_option linter.unusedSimpArgs false
open Go.RowKit

theorem cells7 {W : World} {n : Nat} {x0 x1 x2 x3 x4 x5 x6 : Value} (ra : W.heap[n]? = some (.cells #[x0, x1, x2, x3, x4, x5, x6] 24 (0, 0))) :
    W.cell? ⟨n, 0, none⟩ = some x0 ∧ W.cell? ⟨n, 1, none⟩ = some x1 ∧ W.cell? ⟨n, 2, none⟩ = some x2 ∧ W.cell? ⟨n, 3, none⟩ = some x3 ∧ W.cell? ⟨n, 4, none⟩ = some x4 ∧ W.cell? ⟨n, 5, none⟩ = some x5 ∧ W.cell? ⟨n, 6, none⟩ = some x6 :=
  ⟨cell_of_row _ _ 0 _ _ _ ra, cell_of_row _ _ 1 _ _ _ ra, cell_of_row _ _ 2 _ _ _ ra, cell_of_row _ _ 3 _ _ _ ra, cell_of_row _ _ 4 _ _ _ ra, cell_of_row _ _ 5 _ _ _ ra, cell_of_row _ _ 6 _ _ _ ra⟩

set_option maxRecDepth 100000 in
set_option maxHeartbeats 3200000 in
theorem law_cmds (c : Cm) (v : Value) (w : World) (ha : SL w w.heap.size v c.data) (hle : -9223372036854775808 ≤ c.le ∧ c.le ≤ 9223372036854775807) :
    Calls Try.prog 3 #[c.val v] w fun e w' => e = .returned (.bool true) ∧ Below w.heap.size w w' := by
  have HA := Lib.hid ha
  have HP := fun (W : World) (hW : Below w.heap.size w W) => penc_any c _ W (HA.out.on hW) hle
  have HR := fun (W : World) (hW : Below w.heap.size w W) => renc_any c _ W (HA.out.on hW) hle
  unfold EncR at HP HR
  obtain ⟨A1, c1, rfl, _, _, _⟩ := ha
  have HPC := fun (W : World) => pchk_any c A1 c.data.length c1 W rfl hle
  have HRC := fun (W : World) => rchk_any c A1 c.data.length c1 W rfl hle
  have HPK := fun (W : World) => pcase_any c A1 c.data.length c1 W rfl hle
  have HRK := fun (W : World) => rcase_any c A1 c.data.length c1 W rfl hle
  obtain ⟨E, hE⟩ : ∃ E, E = chkC c := ⟨_, rfl⟩
  obtain ⟨V, hV⟩ : ∃ V, V = encV c := ⟨_, rfl⟩
  obtain ⟨K, hK⟩ : ∃ K, K = caseC c := ⟨_, rfl⟩
  simp only [← hE, ← hV] at HP HR
  simp only [← hE] at HPC HRC
  simp only [← hK] at HPK HRK
  clear hE hV hK hle
  obtain ⟨a0, a1, a2, a3, ad, ale, al⟩ := c
  simp only [Cm.val] at *
  have HP := Lib.hid HP
  have HR := Lib.hid HR
  have HPC := Lib.hid HPC
  have HRC := Lib.hid HRC
  have HPK := Lib.hid HPK
  have HRK := Lib.hid HRK
  have HROW := Lib.hid (heap_alloc_new w (.cells #[.int .i64 a0, .int .i64 a1, .int .i64 a2, .int .i64 a3, .slice A1 ad.length c1, .int .i64 ale, .bool al] 24))
  have HW := Lib.hid (alloc_below w (.cells #[.int .i64 a0, .int .i64 a1, .int .i64 a2, .int .i64 a3, .slice A1 ad.length c1, .int .i64 ale, .bool al] 24))
  by_cases hl : 70000 < ad.length
  · go_enter Try.func3, Try.ntmps3
    go_wp2_with fail
    refine (example_any _).mono ?_
    rintro e w1 ⟨rfl, hb1⟩
    go_wp2_with fail
    go_ret
    exact ⟨rfl, HW.out.trans (hb1.mono HW.out.size)⟩
  have hl' : ad.length ≤ 70000 := by omega
  clear hl
  go_enter Try.func3, Try.ntmps3
  go_wp2_with fail
  refine (HP.out _ HW.out).mono ?_
  rintro e w1 ⟨v1, rfl, hv1, hb1⟩
  have HR1 := Lib.hid ((hb1.block _ (by rw [alloc_size]; omega)).trans HROW.out)
  have HW1 := Lib.hid (HW.out.trans (hb1.mono HW.out.size))
  have hp1 : w.heap.size < w1.heap.size := by have := hb1.size; rw [alloc_size] at this; omega
  have HV1 := Lib.hid hv1
  obtain ⟨r0, r1, r2, r3, r4, r5, r6⟩ := cells7 HR1.out
  clear hb1 hv1
  go_wp2_with fail
  refine (HR.out _ HW1.out).mono ?_
  rintro e w2 ⟨v2, rfl, hv2, hb2⟩
  have HR2 := Lib.hid ((hb2.block _ hp1).trans HR1.out)
  have HW2 := Lib.hid (HW1.out.trans (hb2.mono HW1.out.size))
  have hp2 : w.heap.size < w2.heap.size := by have := hb2.size; omega
  have HSS := Lib.hid (fun (W : World) (hW : Below w2.heap.size w2 W) => same_yes V v1 v2 W _ ((HV1.out.on hb2).on hW) (hv2.on hW))
  have HB22 := Below.refl w2.heap.size w2
  clear hb2 hv2 r0 r1 r2 r3 r4 r5 r6 hp1
  go_wp2_with fail
  go_region_held3 (fun w' => w'.cell? ⟨w.heap.size, 0, none⟩ = some (.int .i64 a0) ∧ w'.cell? ⟨w.heap.size, 1, none⟩ = some (.int .i64 a1) ∧ w'.cell? ⟨w.heap.size, 2, none⟩ = some (.int .i64 a2) ∧ w'.cell? ⟨w.heap.size, 3, none⟩ = some (.int .i64 a3) ∧ w'.cell? ⟨w.heap.size, 4, none⟩ = some (.slice A1 ad.length c1) ∧ w'.cell? ⟨w.heap.size, 5, none⟩ = some (.int .i64 ale) ∧ w'.cell? ⟨w.heap.size, 6, none⟩ = some (.bool al))
    (first
      | (go_keep; done)
      | exact cells7 HR2.out
      | exact cells7 ((hb3.block _ hp2).trans HR2.out)
      | exact cells7 ((hb4.block _ hp3).trans ((hb3.block _ hp2).trans HR2.out))
      | exact cells7 ((hb5.block _ hp4).trans ((hb4.block _ hp3).trans ((hb3.block _ hp2).trans HR2.out)))
      | exact cells7 ((hb6.block _ hp5).trans ((hb5.block _ hp4).trans ((hb4.block _ hp3).trans ((hb3.block _ hp2).trans HR2.out))))
      | exact cells7 ((hb8.block _ (by show w.heap.size < w6.heap.size; exact hp6)).trans ((hb6.block _ hp5).trans ((hb5.block _ hp4).trans ((hb4.block _ hp3).trans ((hb3.block _ hp2).trans HR2.out))))))
    (first
      | (go_at_call 14; refine (HPC.out _).mono ?_; rintro e w3 ⟨rfl, hb3'⟩; have hb3 : Below w2.heap.size w2 w3 := (by first | exact hb3' | exact ((Below.refl _ _).drew).trans hb3'); have hp3 : w.heap.size < w3.heap.size := (by have := hb3.size; omega))
      | (go_at_call 15; refine (HRC.out _).mono ?_; rintro e w4 ⟨rfl, hb4'⟩; have hb4 : Below w3.heap.size w3 w4 := (by first | exact hb4' | exact ((Below.refl _ _).drew).trans hb4'); have hp4 : w.heap.size < w4.heap.size := (by have := hb4.size; omega))
      | (go_at_call 16; refine (HPK.out _).mono ?_; rintro e w5 ⟨rfl, hb5'⟩; have hb5 : Below w4.heap.size w4 w5 := (by first | exact hb5' | exact ((Below.refl _ _).drew).trans hb5'); have hp5 : w.heap.size < w5.heap.size := (by have := hb5.size; omega))
      | (go_at_call 17; refine (HRK.out _).mono ?_; rintro e w6 ⟨rfl, hb6'⟩; have hb6 : Below w5.heap.size w5 w6 := (by first | exact hb6' | exact ((Below.refl _ _).drew).trans hb6'); have hp6 : w.heap.size < w6.heap.size := (by have := hb6.size; omega))
      | (go_at_call 18; refine (HSS.out _ (by first | exact ((((HB22.trans (hb3.mono HB22.size)).trans (hb4.mono (HB22.trans (hb3.mono HB22.size)).size)).trans (hb5.mono ((HB22.trans (hb3.mono HB22.size)).trans (hb4.mono (HB22.trans (hb3.mono HB22.size)).size)).size)).trans (hb6.mono (((HB22.trans (hb3.mono HB22.size)).trans (hb4.mono (HB22.trans (hb3.mono HB22.size)).size)).trans (hb5.mono ((HB22.trans (hb3.mono HB22.size)).trans (hb4.mono (HB22.trans (hb3.mono HB22.size)).size)).size)).size)) | exact (((((HB22.trans (hb3.mono HB22.size)).trans (hb4.mono (HB22.trans (hb3.mono HB22.size)).size)).trans (hb5.mono ((HB22.trans (hb3.mono HB22.size)).trans (hb4.mono (HB22.trans (hb3.mono HB22.size)).size)).size)).trans (hb6.mono (((HB22.trans (hb3.mono HB22.size)).trans (hb4.mono (HB22.trans (hb3.mono HB22.size)).size)).trans (hb5.mono ((HB22.trans (hb3.mono HB22.size)).trans (hb4.mono (HB22.trans (hb3.mono HB22.size)).size)).size)).size))).drew)).mono ?_; rintro e w7 ⟨rfl, nn, rfl⟩)
      | (go_at_call 11; refine (example_any _).mono ?_; rintro e w8 ⟨rfl, hb8⟩))
  have hz3 := HW2.out.trans (hb3.mono HW2.out.size)
  have hz4 := hz3.trans (hb4.mono hz3.size)
  have hz5 := hz4.trans (hb5.mono hz4.size)
  have hz6 := hz5.trans (hb6.mono hz5.size)
  go_wp2_with fail
  go_ret
  exact ⟨rfl, by first | exact (below_drewN hz6 nn).trans (hb8.mono (below_drewN hz6 nn).size) | exact (below_drewN hz6.drew nn).trans (hb8.mono (below_drewN hz6.drew nn).size)⟩
end Go.Proofs.Ytjoibonbmalbdaa
