/-
  The walk of the law ApduResponses.
-/
import Derived.Test.YtjoibonbmalbdaaRsd
namespace Go.Proofs.Ytjoibonbmalbdaa
open Go.RowKit

set_option maxRecDepth 100000 in
set_option maxHeartbeats 1600000 in
theorem law_responses (l : List UInt8) (sw : Int) (d : Value) (w : World) (h : SL w w.heap.size d l) :
    Calls Try.prog 6 #[.agg #[d, .int .i64 sw]] w fun e w' => e = .returned (.bool true) ∧ Below w.heap.size w w' := by
  have HS := Lib.hid h
  obtain ⟨A, c, rfl, _, _, _⟩ := h
  generalize hW0 : w.alloc (.cells #[.slice A l.length c, .int .i64 sw] 36) = W0
  have hsz0 : W0.heap.size = w.heap.size + 1 := by rw [← hW0, alloc_size]
  have b0 : W0.cell? ⟨w.heap.size, 0, none⟩ = some (.slice A l.length c) := by rw [← hW0]; exact (cell_of_row _ w.heap.size 0 _ 36 (0, 0) (heap_alloc_new w _)).trans rfl
  have b1 : W0.cell? ⟨w.heap.size, 1, none⟩ = some (.int .i64 sw) := by rw [← hW0]; exact (cell_of_row _ w.heap.size 1 _ 36 (0, 0) (heap_alloc_new w _)).trans rfl
  have HB0 : Hid (Below w.heap.size w W0) := by show Below _ _ _; rw [← hW0]; exact alloc_below _ _
  have HW0 := Lib.hid hW0
  have HSZ := Lib.hid hsz0
  have hlt0 : w.heap.size < W0.heap.size := by omega
  clear hW0 hsz0
  by_cases hb : 70000 < l.length
  · go_enter Try.func6, Try.ntmps6
    go_wp2_with fail
    rw [HW0.out]
    refine (example_any _).mono ?_
    rintro e w1 ⟨rfl, hb1⟩
    go_wp2_with fail
    go_ret
    exact ⟨rfl, HB0.out.trans (hb1.mono HB0.out.size)⟩
  have HP := Lib.hid (fun (W : World) (hW : Below w.heap.size w W) => penr_any l sw _ W (HS.out.on hW) (by omega))
  have HR := Lib.hid (fun (W : World) (hW : Below w.heap.size w W) => renr_any l sw _ W (HS.out.on hW) (by omega))
  have HGOOD : Hid (respE l sw = 0 → l.length ≤ 65536 ∧ wordB sw = true ∧ respV l sw = l ++ putL sw.toNat 2) := by
    show _ → _
    intro he
    have hv : respV l sw = l ++ putL sw.toNat 2 := by rw [respV, if_pos he]
    unfold respE at he
    by_cases h1 : 65536 < l.length
    · rw [if_pos h1] at he; exact absurd he (by decide)
    · rw [if_neg h1] at he
      cases h2 : wordB sw
      · rw [h2] at he; exact absurd he (by decide)
      · exact ⟨by omega, rfl, hv⟩
  unfold RspR at HP HR
  generalize respE l sw = E at *
  generalize respV l sw = V at *
  have HS28 := Lib.hid (fun W : World => psucc_any sw W)
  have HS29 := Lib.hid (fun W : World => rsucc_any sw W)
  generalize succB sw = S at *
  by_cases he : E = 0
  · subst he
    obtain ⟨hl6, hwd, hv⟩ := HGOOD.out rfl
    obtain ⟨r0, r1⟩ := wordB_range hwd
    obtain ⟨N, rfl⟩ := Int.eq_ofNat_of_zero_le (show 0 ≤ sw by omega)
    have hv' : V = l ++ putL N 2 := hv
    have HVV := Lib.hid hv'
    have HL6 := Lib.hid hl6
    have HWD := Lib.hid hwd
    clear hv hv' hwd hl6
    go_enter Try.func6, Try.ntmps6
    go_wp2_with fail
    rw [HW0.out]
    refine (HP.out _ HB0.out).mono ?_
    rintro e w1 ⟨v1, rfl, hv1, hb1⟩
    have c0 := (hb1.cell (p := ⟨w.heap.size, 0, none⟩) hlt0).trans b0
    have c1 := (hb1.cell (p := ⟨w.heap.size, 1, none⟩) hlt0).trans b1
    have hw1 : Below w.heap.size w w1 := HB0.out.trans (hb1.mono (by omega))
    have hlt1 : w.heap.size < w1.heap.size := by have := hb1.size; omega
    have HW1 := Lib.hid hw1
    have HV1 := Lib.hid hv1
    clear hb1 hw1 hv1
    go_wp2_with fail
    refine (HR.out _ HW1.out).mono ?_
    rintro e w2 ⟨v2, rfl, hv2, hb2⟩
    have d0 := (hb2.cell (p := ⟨w.heap.size, 0, none⟩) hlt1).trans c0
    have d1 := (hb2.cell (p := ⟨w.heap.size, 1, none⟩) hlt1).trans c1
    have hw2 : Below w.heap.size w w2 := HW1.out.trans (hb2.mono (by omega))
    have HW2 := Lib.hid hw2
    have hq := fun (W : World) (hW : Below w2.heap.size w2 W) => rsame_any V V v1 v2 W _ ((HV1.out.on hb2).on hW) (hv2.on hW)
    rw [beq_self_eq_true] at hq
    have HQ := Lib.hid hq
    have hlt2 : w.heap.size < w2.heap.size := by have := hb2.size; omega
    have hd := fun (W : World) (hW : Below w2.heap.size w2 W) => pdecr_good l N v1 W (by rw [← HVV.out]; exact (HV1.out.on hb2).on hW) HL6.out HWD.out
    have HD := Lib.hid hd
    clear hb2 hw2 hv2 hq hd
    go_wp2_with fail
    go_region_held3 (fun w' => w'.cell? ⟨w.heap.size, 0, none⟩ = some (.slice A l.length c) ∧ w'.cell? ⟨w.heap.size, 1, none⟩ = some (.int .i64 (N : Int)))
      (first
        | (go_keep; done)
        | exact ⟨d0, d1⟩)
      (first
        | (go_at_call 18; refine (HQ.out _ (by first | exact Below.refl _ _ | exact (Below.refl _ _).drew)).mono ?_; rintro e w3 ⟨rfl, n3, rfl⟩)
        | (go_at_call 28; refine (HS28.out _).mono ?_; rintro e w4 ⟨rfl, rfl⟩)
        | (go_at_call 29; refine (HS29.out _).mono ?_; rintro e w5 ⟨rfl, rfl⟩))
    go_wp2_with fail
    refine (HD.out _ (drewN_below _ _ _)).mono ?_
    rintro e w6 ⟨v6, rfl, hv6, hb6⟩
    have f0 := (hb6.cell (p := ⟨w.heap.size, 0, none⟩) hlt2).trans d0
    have f1 := (hb6.cell (p := ⟨w.heap.size, 1, none⟩) hlt2).trans d1
    have hw6 : Below w.heap.size w w6 := (below_drewN HW2.out (1 + n3)).trans (hb6.mono (below_drewN HW2.out (1 + n3)).size)
    have hlt6 : w.heap.size < w6.heap.size := by have := hb6.size; have h2 : w2.heap.size ≤ w6.heap.size := this; omega
    have HW6 := Lib.hid hw6
    have HV6 := Lib.hid hv6
    obtain ⟨A6, c6, rfl, _, _, _⟩ := hv6
    clear hb6 hw6
    go_wp2_with fail
    have hw7 : Below w.heap.size w (w6.alloc (.cells #[.slice A6 l.length c6, .int .i64 (N : Int)] 36)) := HW6.out.trans ((alloc_below _ _).mono HW6.out.size)
    have HW7 := Lib.hid hw7
    refine (rsamer_true l (N : Int) _ _ _ (HS.out.on hw7) (HV6.out.on (alloc_below _ _))).mono ?_
    rintro e w8 ⟨rfl, hb8⟩
    have hw8 := hw7.trans (hb8.mono hw7.size)
    have HW8 := Lib.hid hw8
    clear hw7 hw8 hb8
    go_wp2_with fail
    refine (example_any _).mono ?_
    rintro e w9 ⟨rfl, hb9⟩
    go_wp2_with fail
    go_ret
    exact ⟨rfl, HW8.out.trans (hb9.mono HW8.out.size)⟩
  have he' : (E == 0) = false := by rw [beq_eq_false_iff_ne]; exact he
  go_enter Try.func6, Try.ntmps6
  go_wp2_with fail
  rw [HW0.out]
  refine (HP.out _ HB0.out).mono ?_
  rintro e w1 ⟨v1, rfl, hv1, hb1⟩
  have c0 := (hb1.cell (p := ⟨w.heap.size, 0, none⟩) hlt0).trans b0
  have c1 := (hb1.cell (p := ⟨w.heap.size, 1, none⟩) hlt0).trans b1
  have hw1 : Below w.heap.size w w1 := HB0.out.trans (hb1.mono (by omega))
  have hlt1 : w.heap.size < w1.heap.size := by have := hb1.size; omega
  have HW1 := Lib.hid hw1
  have HV1 := Lib.hid hv1
  clear hb1 hw1 hv1
  go_wp2_with fail
  refine (HR.out _ HW1.out).mono ?_
  rintro e w2 ⟨v2, rfl, hv2, hb2⟩
  have d0 := (hb2.cell (p := ⟨w.heap.size, 0, none⟩) hlt1).trans c0
  have d1 := (hb2.cell (p := ⟨w.heap.size, 1, none⟩) hlt1).trans c1
  have hw2 : Below w.heap.size w w2 := HW1.out.trans (hb2.mono (by omega))
  have HW2 := Lib.hid hw2
  have hq := fun (W : World) (hW : Below w2.heap.size w2 W) => rsame_any V V v1 v2 W _ ((HV1.out.on hb2).on hW) (hv2.on hW)
  rw [beq_self_eq_true] at hq
  have HQ := Lib.hid hq
  clear hb2 hw2 hv2 hq
  go_wp2_with fail
  go_region_held3 (fun w' => w'.cell? ⟨w.heap.size, 0, none⟩ = some (.slice A l.length c) ∧ w'.cell? ⟨w.heap.size, 1, none⟩ = some (.int .i64 sw))
    (first
      | (go_keep; done)
      | exact ⟨d0, d1⟩)
    (first
      | (go_at_call 18; refine (HQ.out _ (by first | exact Below.refl _ _ | exact (Below.refl _ _).drew)).mono ?_; rintro e w3 ⟨rfl, n3, rfl⟩)
      | (go_at_call 28; refine (HS28.out _).mono ?_; rintro e w4 ⟨rfl, rfl⟩)
      | (go_at_call 29; refine (HS29.out _).mono ?_; rintro e w5 ⟨rfl, rfl⟩))
  go_wp2_with fail
  refine (example_any _).mono ?_
  rintro e w6 ⟨rfl, hb6⟩
  go_wp2_with fail
  go_ret
  have hz2 := below_drewN HW2.out (1 + n3)
  exact ⟨rfl, hz2.trans (hb6.mono hz2.size)⟩
end Go.Proofs.Ytjoibonbmalbdaa
