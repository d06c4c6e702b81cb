/-
  Layer 20: the law that decryption inverts encryption.
-/
import Derived.Test.YtndkkkkfgihemaaMok
namespace Go.Proofs.Ytndkkkkfgihemaa
set_option linter.unusedVariables false
set_option linter.unusedSimpArgs false
open Go.RowKit

set_option maxRecDepth 100000 in
set_option maxHeartbeats 3200000 in
theorem law_mback (k iv d : List UInt8) (v u t : Value) (w : World) (hk : SL w w.heap.size v k) (hi : SL w w.heap.size u iv) (hd : SL w w.heap.size t d) :
    Calls Try.prog 12 #[v, u, t] w fun e w' => e = .returned (.bool true) ∧ Below w.heap.size w w' := by
  have HW := Lib.hid works_any
  have HF := Lib.hid (fun o ho => few3 k iv d v u t w o ho hk hi hd)
  have hd9 : fewB [k, iv, d] = true → d.length ≤ 100000 := fun h => by
    simp [fewB] at h
    omega
  have H1 := Lib.hid (fun W (h : Below w.heap.size w W) (hl : d.length ≤ 100000) => pcbe_any k iv d v u t W (hk.on h) (hi.on h) (hd.on h) hl)
  have H2 := Lib.hid (fun W (h : Below w.heap.size w W) (hl : d.length ≤ 100000) => pcbd_any k iv d v u t W (hk.on h) (hi.on h) (hd.on h) hl)
  have HD := Lib.hid (fun W (h : Below w.heap.size w W) => hd.on h)
  by_cases hf : fitC k iv d = 0
  · obtain ⟨f1, f2, f3⟩ := fitC_zero hf
    have l1 := cbE_len k iv d f3
    have l2 := cbD_len k iv d f2 f3
    have g1 : fitC k iv (cbE k iv d) = 0 := by
      unfold fitC at hf ⊢
      rw [l1]
      exact hf
    have g2 : fitC k iv (cbD k iv d) = 0 := by
      unfold fitC at hf ⊢
      rw [l2]
      exact hf
    have H3 := Lib.hid (fun W va (h : Below w.heap.size w W) (hv : SL W W.heap.size va (cbE k iv d)) (hl : d.length ≤ 100000) => pcbd_any k iv (cbE k iv d) v u va W (hk.on h) (hi.on h) hv (by rw [l1]; exact hl))
    have H4 := Lib.hid (fun W va (h : Below w.heap.size w W) (hv : SL W W.heap.size va (cbD k iv d)) (hl : d.length ≤ 100000) => pcbe_any k iv (cbD k iv d) v u va W (hk.on h) (hi.on h) hv (by rw [l2]; exact hl))
    simp only [hf, g1, g2, if_true, cbD_cbE k iv d f2 f3, cbE_cbD k iv d f2 f3] at H1 H2 H3 H4
    generalize cbE k iv d = r1 at *
    generalize cbD k iv d = r2 at *
    clear hf f1 f2 f3 l1 l2 g1 g2
    obtain ⟨A1, c1, rfl, h11, h12, h13⟩ := hk
    obtain ⟨A2, c2, rfl, h21, h22, h23⟩ := hi
    obtain ⟨A3, c3, rfl, h31, h32, h33⟩ := hd
    clear h13 h23 h33
    generalize fewB [k, iv, d] = q at *
    have H9 := Lib.hid hd9
    clear hd9
    go_enter Try.func12, Try.ntmps12
    go_wp2_with fail
    refine (HF.out _ rfl).mono ?_
    rintro e w1 ⟨rfl, hb1⟩
    cases q
    · go_wp2_with fail
      refine (HW.out _).mono ?_
      rintro e w2 ⟨rfl, hb2⟩
      go_wp2
      go_ret
      exact ⟨rfl, after hb1 hb2⟩
    · have H99 : d.length ≤ 100000 := H9.out (by first | exact trivial | rfl)
      have HK := Lib.hid H99
      clear H99
      go_wp2_with fail
      refine (H1.out _ hb1 HK.out).mono ?_
      rintro e w2 ⟨v2, rfl, hv2, hb2⟩
      have b2 := after hb1 hb2
      go_wp2_with fail
      refine (H2.out _ b2 HK.out).mono ?_
      rintro e w3 ⟨v3, rfl, hv3, hb3⟩
      have b3 := after b2 hb3
      go_wp2_with fail
      refine (H3.out _ _ b3 (hv2.sl.on hb3) HK.out).mono ?_
      rintro e w4 ⟨v4, rfl, hv4, hb4⟩
      have b4 := after b3 hb4
      go_wp2_with fail
      refine (H4.out _ _ b4 (hv3.sl.on hb4) HK.out).mono ?_
      rintro e w5 ⟨v5, rfl, hv5, hb5⟩
      have b5 := after b4 hb5
      have C2 := (hv4.sl.on hb5).convert
      have C3 := hv5.sl.convert
      have C4 := (HD.out _ b5).convert
      go_wp2_with fail
      refine (HW.out _).mono ?_
      rintro e w6 ⟨rfl, hb6⟩
      go_wp2
      go_ret
      exact ⟨rfl, after b5 hb6⟩
  · rw [if_neg hf] at H1 H2
    have hn : (fitC k iv d != 0) = true := by simp [hf]
    generalize fitC k iv d = E at *
    clear hf
    obtain ⟨A1, c1, rfl, h11, h12, h13⟩ := hk
    obtain ⟨A2, c2, rfl, h21, h22, h23⟩ := hi
    obtain ⟨A3, c3, rfl, h31, h32, h33⟩ := hd
    clear h13 h23 h33
    generalize fewB [k, iv, d] = q at *
    have H9 := Lib.hid hd9
    clear hd9
    go_enter Try.func12, Try.ntmps12
    go_wp2_with fail
    refine (HF.out _ rfl).mono ?_
    rintro e w1 ⟨rfl, hb1⟩
    cases q
    · go_wp2_with fail
      refine (HW.out _).mono ?_
      rintro e w2 ⟨rfl, hb2⟩
      go_wp2
      go_ret
      exact ⟨rfl, after hb1 hb2⟩
    · have H99 : d.length ≤ 100000 := H9.out (by first | exact trivial | rfl)
      have HK := Lib.hid H99
      clear H99
      go_wp2_with fail
      refine (H1.out _ hb1 HK.out).mono ?_
      rintro e w2 ⟨v2, rfl, hv2, hb2⟩
      have b2 := after hb1 hb2
      obtain ⟨A5, c5, e5, _⟩ := hv2.sl
      subst e5
      go_wp2_with fail
      refine (H2.out _ b2 HK.out).mono ?_
      rintro e w3 ⟨v3, rfl, hv3, hb3⟩
      have b3 := after b2 hb3
      obtain ⟨A6, c6, e6, _⟩ := hv3.sl
      subst e6
      go_wp2_with fail
      refine (HW.out _).mono ?_
      rintro e w4 ⟨rfl, hb4⟩
      go_wp2
      go_ret
      exact ⟨rfl, after b3 hb4⟩
end Go.Proofs.Ytndkkkkfgihemaa
