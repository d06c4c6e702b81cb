/-
  The walk of the law ApduRoundTrip.
-/
import Derived.Test.YtjoibonbmalbdaaSam
import Derived.Test.YtjoibonbmalbdaaRtm
namespace Go.Proofs.Ytjoibonbmalbdaa
open Go.RowKit

set_option maxRecDepth 100000 in
set_option maxHeartbeats 1600000 in
theorem law_round (c : Cm) (d : Value) (l : List UInt8) (v : Value) (w : World) (h1 : SL w w.heap.size d c.data) (h2 : SL w w.heap.size v l) (hle : -9223372036854775808 ≤ c.le ∧ c.le ≤ 9223372036854775807) :
    Calls Try.prog 5 #[c.val d, v] w fun e w' => e = .returned (.bool true) ∧ Below w.heap.size w w' := by
  have HS1 := Lib.hid h1
  have HS2 := Lib.hid h2
  obtain ⟨A, k, rfl, _, _, _⟩ := h1
  obtain ⟨A2, k2, rfl, _, _, _⟩ := h2
  have HLE := Lib.hid hle
  clear hle
  by_cases hb : 70000 < c.data.length
  · obtain ⟨a0, a1, a2, a3, ad, ale, al⟩ := c
    simp only [Cm.val] at *
    go_enter Try.func5, Try.ntmps5
    go_wp2_with fail
    all_goals
      refine (example_any _).mono ?_
      rintro e w1 ⟨rfl, hb1⟩
      go_wp2_with fail
      go_ret
      exact ⟨rfl, (alloc_below w _).trans (hb1.mono (by rw [alloc_size]; omega))⟩
  by_cases hb' : 70000 < l.length
  · obtain ⟨a0, a1, a2, a3, ad, ale, al⟩ := c
    simp only [Cm.val] at *
    go_enter Try.func5, Try.ntmps5
    go_wp2_with fail
    all_goals
      refine (example_any _).mono ?_
      rintro e w1 ⟨rfl, hb1⟩
      go_wp2_with fail
      go_ret
      exact ⟨rfl, (alloc_below w _).trans (hb1.mono (by rw [alloc_size]; omega))⟩
  have HENC := Lib.hid (fun (W : World) (hW : Below w.heap.size w W) => penc_any c _ W (HS1.out.on hW) HLE.out)
  have HDEC := Lib.hid (fun (W : World) (hW : Below w.heap.size w W) => pdec_any l _ W (HS2.out.on hW) (by omega))
  have HENC2 : Hid (decE l = 0 → ∀ (d : Value) (W : World), SL W W.heap.size d (decV l).data → Calls Try.prog 12 #[(decV l).val d] W fun e w' => ∃ v', e = .returned (.tuple #[v', .int .i64 0]) ∧ SL w' w'.heap.size v' l ∧ Below W.heap.size W w') := fun he d W hd => by
    obtain ⟨g1, g2⟩ := enc_dec l he
    have hp := chk_parts g1
    have hm := maxL_le (decV l).long
    have := penc_any (decV l) d W hd (by omega)
    unfold EncR encV at this
    rw [g1, if_pos rfl, g2] at this
    exact this
  have HRT := Lib.hid (dec_enc c)
  have HEL := Lib.hid (encL_length c (by omega))
  have HSELF := Lib.hid (sameC_self c)
  unfold EncR at HENC
  unfold DecR at HDEC
  generalize decE l = E at *
  generalize decV l = D at *
  by_cases h0 : chkC c = 0
  · have HENC' : Hid (∀ (W : World), Below w.heap.size w W → Calls Try.prog 12 #[c.val (.slice A c.data.length k)] W fun e w' => ∃ v', e = .returned (.tuple #[v', .int .i64 0]) ∧ SL w' w'.heap.size v' (encL c) ∧ Below W.heap.size W w') := fun W hW => by
      have := HENC.out W hW
      rw [encV, h0, if_pos rfl] at this
      exact this
    have HD1 : Hid (∀ (u : Value) (W : World), SL W W.heap.size u (encL c) → Calls Try.prog 19 #[u] W fun e w' => ∃ d, e = .returned (.tuple #[c.val d, .int .i64 0]) ∧ SL w' w'.heap.size d c.data ∧ Below W.heap.size W w') := fun u W hu => by
      have := pdec_any (encL c) u W hu HEL.out
      unfold DecR at this
      rw [(HRT.out h0).1, (HRT.out h0).2] at this
      exact this
    have HP : Hid (∀ (u1 u2 : Value) (W : World), SL W W.heap.size u1 c.data → SL W W.heap.size u2 c.data → Calls Try.prog 25 #[c.val u1, c.val u2] W fun e w' => e = .returned (.bool true) ∧ Below W.heap.size W w') := fun u1 u2 W h1 h2 => by
      have := psame_any c c u1 u2 W h1 h2
      rw [HSELF.out] at this
      exact this
    have HR : Hid (∀ (u1 u2 : Value) (W : World), SL W W.heap.size u1 c.data → SL W W.heap.size u2 c.data → Calls Try.prog 23 #[c.val u1, c.val u2] W fun e w' => e = .returned (.bool true) ∧ Below W.heap.size W w') := fun u1 u2 W h1 h2 => by
      have := rsamec_any c c u1 u2 W h1 h2
      rw [HSELF.out] at this
      exact this
    clear h0 HRT HENC HEL HSELF
    obtain ⟨a0, a1, a2, a3, ad, ale, al⟩ := c
    simp only [Cm.val] at HENC' HD1 HP HR HS1 hb ⊢
    go_enter Try.func5, Try.ntmps5
    go_wp2_with fail
    refine (HENC'.out _ (alloc_below _ _)).mono ?_
    rintro e w1 ⟨v1, rfl, hv1, hb1⟩
    rw [alloc_size] at hb1
    have p0 := box_cell hb1 0 _ rfl
    have p1 := box_cell hb1 1 _ rfl
    have p2 := box_cell hb1 2 _ rfl
    have p3 := box_cell hb1 3 _ rfl
    have p4 := box_cell hb1 4 _ rfl
    have p5 := box_cell hb1 5 _ rfl
    have p6 := box_cell hb1 6 _ rfl
    have hw1 : Below w.heap.size w w1 := (alloc_below w _).trans (hb1.mono (by omega))
    have hlt1 : w.heap.size < w1.heap.size := by have := hb1.size; rw [alloc_size] at this; omega
    have HW1 := Lib.hid hw1
    have HV1 := Lib.hid hv1
    clear hw1 hv1 hb1
    go_wp2_with fail
    refine (HD1.out _ _ HV1.out).mono ?_
    rintro e w2 ⟨d2, rfl, hv2, hb2⟩
    have q0 := (hb2.cell (p := ⟨w.heap.size, 0, none⟩) hlt1).trans p0
    have q1 := (hb2.cell (p := ⟨w.heap.size, 1, none⟩) hlt1).trans p1
    have q2 := (hb2.cell (p := ⟨w.heap.size, 2, none⟩) hlt1).trans p2
    have q3 := (hb2.cell (p := ⟨w.heap.size, 3, none⟩) hlt1).trans p3
    have q4 := (hb2.cell (p := ⟨w.heap.size, 4, none⟩) hlt1).trans p4
    have q5 := (hb2.cell (p := ⟨w.heap.size, 5, none⟩) hlt1).trans p5
    have q6 := (hb2.cell (p := ⟨w.heap.size, 6, none⟩) hlt1).trans p6
    have hw2 : Below w.heap.size w w2 := HW1.out.trans (hb2.mono HW1.out.size)
    have hlt2 : w.heap.size < w2.heap.size := by have := hb2.size; omega
    have HW2 := Lib.hid hw2
    have HV2 := Lib.hid hv2
    obtain ⟨A3, k3, rfl, _, _, _⟩ := hv2
    clear hw2 hb2
    go_wp2_with fail
    have hw3 : Below w.heap.size w (w2.alloc (.cells #[.int .i64 a0, .int .i64 a1, .int .i64 a2, .int .i64 a3, .slice A3 ad.length k3, .int .i64 ale, .bool al] 24)) := HW2.out.trans ((alloc_below _ _).mono HW2.out.size)
    generalize hW3 : w2.alloc (.cells #[.int .i64 a0, .int .i64 a1, .int .i64 a2, .int .i64 a3, .slice A3 ad.length k3, .int .i64 ale, .bool al] 24) = w3 at hw3
    have hb3 : Below w2.heap.size w2 w3 := by rw [← hW3]; exact alloc_below _ _
    have hr3 : w3.heap[w2.heap.size]? = some (.cells #[.int .i64 a0, .int .i64 a1, .int .i64 a2, .int .i64 a3, .slice A3 ad.length k3, .int .i64 ale, .bool al] 24 (0, 0)) := by rw [← hW3]; exact heap_alloc_new w2 _
    have hlt3 : w2.heap.size < w3.heap.size := by rw [← hW3, alloc_size]; omega
    have HV3 := Lib.hid (HV2.out.on hb3)
    have HW3 := Lib.hid hw3
    have HW33 := Lib.hid hW3
    clear hW3
    refine (HP.out _ _ _ (HS1.out.on hw3) HV3.out).mono ?_
    rintro e w4 ⟨rfl, hb4⟩
    have hw4 : Below w.heap.size w w4 := HW3.out.trans (hb4.mono HW3.out.size)
    have hlt4 : w2.heap.size < w4.heap.size := by have := hb4.size; omega
    have q0' := (hb4.cell (p := ⟨w.heap.size, 0, none⟩) (by show w.heap.size < _; omega)).trans ((hb3.cell (p := ⟨w.heap.size, 0, none⟩) hlt2).trans q0)
    have q1' := (hb4.cell (p := ⟨w.heap.size, 1, none⟩) (by show w.heap.size < _; omega)).trans ((hb3.cell (p := ⟨w.heap.size, 1, none⟩) hlt2).trans q1)
    have q2' := (hb4.cell (p := ⟨w.heap.size, 2, none⟩) (by show w.heap.size < _; omega)).trans ((hb3.cell (p := ⟨w.heap.size, 2, none⟩) hlt2).trans q2)
    have q3' := (hb4.cell (p := ⟨w.heap.size, 3, none⟩) (by show w.heap.size < _; omega)).trans ((hb3.cell (p := ⟨w.heap.size, 3, none⟩) hlt2).trans q3)
    have q4' := (hb4.cell (p := ⟨w.heap.size, 4, none⟩) (by show w.heap.size < _; omega)).trans ((hb3.cell (p := ⟨w.heap.size, 4, none⟩) hlt2).trans q4)
    have q5' := (hb4.cell (p := ⟨w.heap.size, 5, none⟩) (by show w.heap.size < _; omega)).trans ((hb3.cell (p := ⟨w.heap.size, 5, none⟩) hlt2).trans q5)
    have q6' := (hb4.cell (p := ⟨w.heap.size, 6, none⟩) (by show w.heap.size < _; omega)).trans ((hb3.cell (p := ⟨w.heap.size, 6, none⟩) hlt2).trans q6)
    have hr4 := (hb4.block w2.heap.size hlt3).trans hr3
    have r0 := cell_of_row _ _ 0 _ _ _ hr4
    have r1 := cell_of_row _ _ 1 _ _ _ hr4
    have r2 := cell_of_row _ _ 2 _ _ _ hr4
    have r3 := cell_of_row _ _ 3 _ _ _ hr4
    have r4 := cell_of_row _ _ 4 _ _ _ hr4
    have r5 := cell_of_row _ _ 5 _ _ _ hr4
    have r6 := cell_of_row _ _ 6 _ _ _ hr4
    have HV4 := Lib.hid (HV3.out.on hb4)
    have HW4 := Lib.hid hw4
    clear hr3 hr4 hw3 hw4 hb3 hb4
    go_wp2_with fail
    refine (HR.out _ _ _ (HS1.out.on HW4.out) HV4.out).mono ?_
    rintro e w6 ⟨rfl, hb6⟩
    have hw6 : Below w.heap.size w w6 := HW4.out.trans (hb6.mono HW4.out.size)
    have HW6 := Lib.hid hw6
    clear hw6 hb6
    go_wp2_with fail
    refine (HDEC.out _ HW6.out).mono ?_
    rintro e w8 ⟨d8, rfl, hv8, hb8⟩
    have hw8 : Below w.heap.size w w8 := HW6.out.trans (hb8.mono HW6.out.size)
    have HW8 := Lib.hid hw8
    have HV8 := Lib.hid hv8
    clear hb8 hw8
    by_cases he : E = 0
    · subst he
      have HE3 := HENC2.out rfl
      clear HENC2
      have HENC3 := Lib.hid HE3
      clear HE3
      obtain ⟨D0, D1, D2, D3, Dd, De, Dl⟩ := D
      obtain ⟨A8, c8, rfl, _, _, _⟩ := hv8
      simp only [Cm.val] at *
      go_wp2_with fail
      refine (HENC3.out _ _ (HV8.out.on (alloc_below _ _))).mono ?_
      rintro e w9 ⟨v9, rfl, hv9, hb9⟩
      have hw9 : Below w.heap.size w w9 := HW8.out.trans (((alloc_below _ _).trans (hb9.mono (by rw [alloc_size]; omega))).mono HW8.out.size)
      have hs := rsame_any l l v9 _ w9 _ hv9 (HS2.out.on hw9)
      rw [beq_self_eq_true] at hs
      have HSM := Lib.hid hs
      have HW9 := Lib.hid hw9
      clear hs hw9 hv9 hb9
      go_wp2_with fail
      refine HSM.out.mono ?_
      rintro e w10 ⟨rfl, n10, rfl⟩
      go_wp2_with fail
      refine (example_any _).mono ?_
      rintro e w11 ⟨rfl, hb11⟩
      go_wp2_with fail
      go_ret
      have hz := below_drewN HW9.out n10
      exact ⟨rfl, hz.trans (hb11.mono hz.size)⟩
    · have he' : (E == 0) = false := by rw [beq_eq_false_iff_ne]; exact he
      obtain ⟨D0, D1, D2, D3, Dd, De, Dl⟩ := D
      obtain ⟨A8, c8, rfl, _, _, _⟩ := hv8
      simp only [Cm.val] at *
      clear he
      go_wp2_with fail
      refine (example_any _).mono ?_
      rintro e w9 ⟨rfl, hb9⟩
      go_wp2_with fail
      go_ret
      exact ⟨rfl, HW8.out.trans (((alloc_below _ _).trans (hb9.mono (by rw [alloc_size]; omega))).mono HW8.out.size)⟩
  have h0' : (chkC c == 0) = false := by rw [beq_eq_false_iff_ne]; exact h0
  generalize chkC c = C at *
  clear h0 HRT HEL HSELF
  obtain ⟨a0, a1, a2, a3, ad, ale, al⟩ := c
  simp only [Cm.val] at HENC hb ⊢
  go_enter Try.func5, Try.ntmps5
  go_wp2_with fail
  refine (HENC.out _ (alloc_below _ _)).mono ?_
  rintro e w1 ⟨v1, rfl, hv1, hb1⟩
  have hw1 : Below w.heap.size w w1 := (alloc_below w _).trans (hb1.mono (by rw [alloc_size]; omega))
  have HW1 := Lib.hid hw1
  clear hw1 hv1 hb1
  go_wp2_with fail
  refine (HDEC.out _ HW1.out).mono ?_
  rintro e w8 ⟨d8, rfl, hv8, hb8⟩
  have hw8 : Below w.heap.size w w8 := HW1.out.trans (hb8.mono HW1.out.size)
  have HW8 := Lib.hid hw8
  have HV8 := Lib.hid hv8
  clear hb8 hw8
  by_cases he : E = 0
  · subst he
    have HE3 := HENC2.out rfl
    clear HENC2
    have HENC3 := Lib.hid HE3
    clear HE3
    obtain ⟨D0, D1, D2, D3, Dd, De, Dl⟩ := D
    obtain ⟨A8, c8, rfl, _, _, _⟩ := hv8
    simp only [Cm.val] at *
    go_wp2_with fail
    refine (HENC3.out _ _ (HV8.out.on (alloc_below _ _))).mono ?_
    rintro e w9 ⟨v9, rfl, hv9, hb9⟩
    have hw9 : Below w.heap.size w w9 := HW8.out.trans (((alloc_below _ _).trans (hb9.mono (by rw [alloc_size]; omega))).mono HW8.out.size)
    have hs := rsame_any l l v9 _ w9 _ hv9 (HS2.out.on hw9)
    rw [beq_self_eq_true] at hs
    have HSM := Lib.hid hs
    have HW9 := Lib.hid hw9
    clear hs hw9 hv9 hb9
    go_wp2_with fail
    refine HSM.out.mono ?_
    rintro e w10 ⟨rfl, n10, rfl⟩
    go_wp2_with fail
    refine (example_any _).mono ?_
    rintro e w11 ⟨rfl, hb11⟩
    go_wp2_with fail
    go_ret
    have hz := below_drewN HW9.out n10
    exact ⟨rfl, hz.trans (hb11.mono hz.size)⟩
  · have he' : (E == 0) = false := by rw [beq_eq_false_iff_ne]; exact he
    obtain ⟨D0, D1, D2, D3, Dd, De, Dl⟩ := D
    obtain ⟨A8, c8, rfl, _, _, _⟩ := hv8
    simp only [Cm.val] at *
    clear he
    go_wp2_with fail
    refine (example_any _).mono ?_
    rintro e w9 ⟨rfl, hb9⟩
    go_wp2_with fail
    go_ret
    exact ⟨rfl, HW8.out.trans (((alloc_below _ _).trans (hb9.mono (by rw [alloc_size]; omega))).mono HW8.out.size)⟩
end Go.Proofs.Ytjoibonbmalbdaa
