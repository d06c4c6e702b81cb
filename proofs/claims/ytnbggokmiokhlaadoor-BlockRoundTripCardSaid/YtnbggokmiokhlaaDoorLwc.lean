/-
  The walk of the law BlockRoundTrip.
-/
import Derived.Test.YtnbggokmiokhlaaDoorLwb
namespace Go.Proofs.YtnbggokmiokhlaaDoor
set_option linter.unusedVariables false
set_option linter.unusedSimpArgs false
open Go.RowKit

theorem law_skip (b : Bk) (cs : List UInt8) (crc : Bool) (v u : Value) (w : World) (hv : SL w w.heap.size v b.inf) (hu : SL w w.heap.size u cs) (h : 300 < b.inf.length ∨ 300 < cs.length) :
    Calls Tryd.prog 17 #[b.val v, u, .bool crc] w fun e w' => e = .returned (.bool true) ∧ Below w.heap.size w w' := by
  obtain ⟨A, c, rfl, _, _, _⟩ := hv
  obtain ⟨A2, c2, rfl, _, _, _⟩ := hu
  obtain ⟨nad, kind, s, m, code, ans, l⟩ := b
  simp only [Bk.val] at *
  by_cases h1 : 300 < l.length
  · clear h
    go_enter Tryd.func17, Tryd.ntmps17
    go_wp2_with fail
    go_ret
    exact ⟨rfl, alloc_below _ _⟩
  · have h2 : 300 < cs.length := h.resolve_left h1
    have h1' : l.length ≤ 300 := by omega
    clear h h1
    go_enter Tryd.func17, Tryd.ntmps17
    go_wp2_with fail
    go_ret
    exact ⟨rfl, alloc_below _ _⟩

set_option maxRecDepth 100000 in
set_option maxHeartbeats 3200000 in
theorem law_roundk (b : Bk) (cs : List UInt8) (crc : Bool) (k : Int) (hk : k = if crc then 1 else 0) (v u : Value) (w : World) (hv : SL w w.heap.size v b.inf) (hu : SL w w.heap.size u cs) (hT : Tb w) (h1 : b.inf.length ≤ 300) (h2 : cs.length ≤ 300) :
    Calls Tryd.prog 17 #[b.val v, u, .bool crc] w fun e w' => e = .returned (.bool true) ∧ Below w.heap.size w w' := by
  have HV := Lib.hid hv
  have HU := Lib.hid hu
  have HT := Lib.hid hT
  have HA := Lib.hid (fun (W : World) (hW : Below w.heap.size w W) => awake_any W (HT.out.on hW))
  have HEN := fun (W : World) (hW : Below w.heap.size w W) => penc_any k b _ W (HV.out.on hW) (HT.out.on hW)
  unfold BenR at HEN
  have HB1 : Hid (∀ (v' : Value) (W : World), benE k b = 0 → SL W W.heap.size v' (benV k b) → Tb W → Calls Tryd.prog 44 #[v', .int .i64 k] W fun e w' => ∃ v'', e = .returned (.tuple #[b.val v'', .int .i64 0]) ∧ SL w' w'.heap.size v'' b.inf ∧ Below W.heap.size W w') := by
    intro v' W he h3 h4
    have hx := ben_len he
    have h5 := pbde_any k (benV k b) v' W h3 h4 (by omega)
    unfold BdeR at h5
    rw [(back_enc he).1, (back_enc he).2] at h5
    exact h5
  have HSB := fun (v1 v2 : Value) (W : World) (h3 : SL W W.heap.size v1 b.inf) (h4 : SL W W.heap.size v2 b.inf) => rsameb_any b b v1 v2 W h3 h4
  rw [sameB_self] at HSB
  have HD := fun (W : World) (hW : Below w.heap.size w W) => pbde_any k cs _ W (HU.out.on hW) (HT.out.on hW) (by omega)
  unfold BdeR at HD
  have HBK := Lib.hid (fun h => back_dec (k := k) (l := cs) h)
  have HE2 := fun (v' : Value) (W : World) (h3 : SL W W.heap.size v' (bdeV k cs).inf) (h4 : Tb W) => penc_any k (bdeV k cs) v' W h3 h4
  unfold BenR at HE2
  generalize bdeV k cs = BB at *
  generalize bdeE k cs = D at *
  generalize benE k b = E at *
  generalize benV k b = V at *
  have HEN := Lib.hid HEN
  have HSB := Lib.hid HSB
  have HD := Lib.hid HD
  have HE2 := Lib.hid HE2
  obtain ⟨A, c, rfl, _, _, _⟩ := hv
  obtain ⟨A2, c2, rfl, _, _, _⟩ := hu
  obtain ⟨n0, k0, s0, m0, c0, a0, i0⟩ := BB
  obtain ⟨nad, kind, s, m, code, ans, l⟩ := b
  simp only [Bk.val] at *
  have HROW := Lib.hid (heap_alloc_new w (.cells #[.int .i64 nad, .int .i64 kind, .int .i64 s, .bool m, .int .i64 code, .bool ans, .slice A l.length c] 47))
  have HW := Lib.hid (alloc_below w (.cells #[.int .i64 nad, .int .i64 kind, .int .i64 s, .bool m, .int .i64 code, .bool ans, .slice A l.length c] 47))
  clear hT
  cases crc
  all_goals
    simp only [Bool.false_eq_true, if_false, if_true] at hk
    subst hk
    go_enter Tryd.func17, Tryd.ntmps17
    go_wp2_with fail
    refine (HEN.out _ HW.out).mono ?_
    rintro e w1 ⟨v1, rfl, hv1, hb1⟩
    have HR1 := Lib.hid ((hb1.block _ (by rw [alloc_size]; omega)).trans HROW.out)
    have HW1 := Lib.hid (HW.out.trans (hb1.mono HW.out.size))
    have hs1 : w.heap.size < w1.heap.size := by have := hb1.size; rw [alloc_size] at this; omega
    have HV1 := Lib.hid hv1
    clear hb1 hv1
    by_cases hE : E = 0
    · subst hE
      have HB2 := Lib.hid (HB1.out v1 w1 rfl HV1.out (HT.out.on HW1.out))
      go_wp2_with fail
      refine HB2.out.mono ?_
      rintro e w2 ⟨v2, rfl, hv2, hb2⟩
      have HR2 := Lib.hid ((hb2.block _ hs1).trans HR1.out)
      have HW2 := Lib.hid (HW1.out.trans (hb2.mono HW1.out.size))
      have hs2 : w.heap.size < w2.heap.size := by have := hb2.size; omega
      have HV2 := Lib.hid hv2
      obtain ⟨A5, c5, rfl, _, _, _⟩ := hv2
      have hal2 := alloc_below w2 (.cells #[.int .i64 nad, .int .i64 kind, .int .i64 s, .bool m, .int .i64 code, .bool ans, .slice A5 l.length c5] 47)
      have HWA := Lib.hid (HW2.out.trans (hal2.mono HW2.out.size))
      have HR3 := Lib.hid ((hal2.block _ hs2).trans HR2.out)
      have HS2 := Lib.hid (HSB.out _ _ _ (HV2.out.on hal2) (HV.out.on HWA.out))
      clear hb2 hal2 hs1 hs2
      obtain ⟨r0, r1, r2, r3, r4, r5, r6⟩ := cells7 HR3.out
      go_wp2_with fail
      refine HS2.out.mono ?_
      rintro e w3 ⟨rfl, hb3⟩
      have HW3 := Lib.hid (HWA.out.trans (hb3.mono HWA.out.size))
      clear hb3 r0 r1 r2 r3 r4 r5 r6
      have HUX := Lib.hid (HD.out _ HW3.out)
      go_wp2_with fail
      refine HUX.out.mono ?_
      rintro e x1 ⟨d1, rfl, hd1, hx1⟩
      have HX1 := Lib.hid (HW3.out.trans (hx1.mono HW3.out.size))
      have HDD := Lib.hid hd1
      obtain ⟨Ad, cd, rfl, _, _, _⟩ := hd1
      clear hx1
      by_cases hD : D = 0
      · subst hD
        have hbk := HBK.out rfl
        have HE3 := HE2.out
        rw [hbk.1, hbk.2] at HE3
        have HE3 := Lib.hid HE3
        have HAL := Lib.hid (HX1.out.trans ((alloc_below x1 (.cells #[.int .i64 n0, .int .i64 k0, .int .i64 s0, .bool m0, .int .i64 c0, .bool a0, .slice Ad i0.length cd] 47)).mono HX1.out.size))
        have HE4 := Lib.hid (HE3.out _ _ (HDD.out.on (alloc_below x1 (.cells #[.int .i64 n0, .int .i64 k0, .int .i64 s0, .bool m0, .int .i64 c0, .bool a0, .slice Ad i0.length cd] 47))) (HT.out.on HAL.out))
        clear hbk
        go_wp2_with fail
        refine HE4.out.mono ?_
        rintro e x2 ⟨d2, rfl, hd2, hx2⟩
        have HX2 := Lib.hid (HAL.out.trans (hx2.mono HAL.out.size))
        have HSM := Lib.hid (rsame_any cs cs _ _ x2 _ hd2 (HU.out.on HX2.out))
        clear hx2 hd2
        go_wp2_with fail
        refine HSM.out.mono ?_
        rintro e x3 ⟨rfl, nn, rfl⟩
        have hvv : (cs == cs) = true := by simp
        rw [hvv]
        clear hvv
        go_wp2_with fail
        refine (HA.out _ (below_drewN HX2.out nn)).mono ?_
        rintro e x4 ⟨rfl, hx4⟩
        go_wp2_with fail
        go_ret
        exact ⟨rfl, (below_drewN HX2.out nn).trans (hx4.mono (below_drewN HX2.out nn).size)⟩
      · have hD1 : (D == 0) = false := beq_eq_false_iff_ne.2 hD
        have hD2 : (D != 0) = true := by rw [bne_iff_ne]; exact hD
        have HAL := Lib.hid (HX1.out.trans ((alloc_below x1 (.cells #[.int .i64 n0, .int .i64 k0, .int .i64 s0, .bool m0, .int .i64 c0, .bool a0, .slice Ad i0.length cd] 47)).mono HX1.out.size))
        clear hD
        go_wp2_with fail
        refine (HA.out _ HAL.out).mono ?_
        rintro e x4 ⟨rfl, hx4⟩
        go_wp2_with fail
        go_ret
        exact ⟨rfl, HAL.out.trans (hx4.mono HAL.out.size)⟩
    · have hE1 : (E == 0) = false := beq_eq_false_iff_ne.2 hE
      clear hE hs1
      have HUX := Lib.hid (HD.out _ HW1.out)
      go_wp2_with fail
      refine HUX.out.mono ?_
      rintro e x1 ⟨d1, rfl, hd1, hx1⟩
      have HX1 := Lib.hid (HW1.out.trans (hx1.mono HW1.out.size))
      have HDD := Lib.hid hd1
      obtain ⟨Ad, cd, rfl, _, _, _⟩ := hd1
      clear hx1
      by_cases hD : D = 0
      · subst hD
        have hbk := HBK.out rfl
        have HE3 := HE2.out
        rw [hbk.1, hbk.2] at HE3
        have HE3 := Lib.hid HE3
        have HAL := Lib.hid (HX1.out.trans ((alloc_below x1 (.cells #[.int .i64 n0, .int .i64 k0, .int .i64 s0, .bool m0, .int .i64 c0, .bool a0, .slice Ad i0.length cd] 47)).mono HX1.out.size))
        have HE4 := Lib.hid (HE3.out _ _ (HDD.out.on (alloc_below x1 (.cells #[.int .i64 n0, .int .i64 k0, .int .i64 s0, .bool m0, .int .i64 c0, .bool a0, .slice Ad i0.length cd] 47))) (HT.out.on HAL.out))
        clear hbk
        go_wp2_with fail
        refine HE4.out.mono ?_
        rintro e x2 ⟨d2, rfl, hd2, hx2⟩
        have HX2 := Lib.hid (HAL.out.trans (hx2.mono HAL.out.size))
        have HSM := Lib.hid (rsame_any cs cs _ _ x2 _ hd2 (HU.out.on HX2.out))
        clear hx2 hd2
        go_wp2_with fail
        refine HSM.out.mono ?_
        rintro e x3 ⟨rfl, nn, rfl⟩
        have hvv : (cs == cs) = true := by simp
        rw [hvv]
        clear hvv
        go_wp2_with fail
        refine (HA.out _ (below_drewN HX2.out nn)).mono ?_
        rintro e x4 ⟨rfl, hx4⟩
        go_wp2_with fail
        go_ret
        exact ⟨rfl, (below_drewN HX2.out nn).trans (hx4.mono (below_drewN HX2.out nn).size)⟩
      · have hD1 : (D == 0) = false := beq_eq_false_iff_ne.2 hD
        have hD2 : (D != 0) = true := by rw [bne_iff_ne]; exact hD
        have HAL := Lib.hid (HX1.out.trans ((alloc_below x1 (.cells #[.int .i64 n0, .int .i64 k0, .int .i64 s0, .bool m0, .int .i64 c0, .bool a0, .slice Ad i0.length cd] 47)).mono HX1.out.size))
        clear hD
        go_wp2_with fail
        refine (HA.out _ HAL.out).mono ?_
        rintro e x4 ⟨rfl, hx4⟩
        go_wp2_with fail
        go_ret
        exact ⟨rfl, HAL.out.trans (hx4.mono HAL.out.size)⟩

theorem law_roundb (b : Bk) (cs : List UInt8) (crc : Bool) (v u : Value) (w : World) (hv : SL w w.heap.size v b.inf) (hu : SL w w.heap.size u cs) (hT : Tb w) :
    Calls Tryd.prog 17 #[b.val v, u, .bool crc] w fun e w' => e = .returned (.bool true) ∧ Below w.heap.size w w' := by
  by_cases h : 300 < b.inf.length ∨ 300 < cs.length
  · exact law_skip b cs crc v u w hv hu h
  · exact law_roundk b cs crc _ rfl v u w hv hu hT (by omega) (by omega)
end Go.Proofs.YtnbggokmiokhlaaDoor
