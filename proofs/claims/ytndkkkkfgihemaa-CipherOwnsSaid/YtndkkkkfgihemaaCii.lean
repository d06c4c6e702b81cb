/-
  Layer 19: the laws.
-/
import Derived.Test.YtndkkkkfgihemaaCih
namespace Go.Proofs.Ytndkkkkfgihemaa
set_option linter.unusedVariables false
set_option linter.unusedSimpArgs false
open Go.RowKit

theorem dec_self (a : List UInt8) : decide (a = a) = true := by simp
theorem dec_len (k b : List UInt8) (h : fitE k b = 0) : fitE k (encB k b) = 0 ∧ fitE k (decB k b) = 0 := by
  obtain ⟨h1, h2⟩ := fit_zero h
  exact ⟨by rw [fitE, if_neg (by simp [h1]), if_neg (by simp [encB_length])], by rw [fitE, if_neg (by simp [h1]), if_neg (by simp [decB_length])]⟩
theorem after {w w1 w2 : World} (h : Below w.heap.size w w1) (g : Below w1.heap.size w1 w2) : Below w.heap.size w w2 := h.trans (g.mono h.size)

set_option maxRecDepth 100000 in
set_option maxHeartbeats 3200000 in
theorem law_cencrypts (k b : List UInt8) (v u : Value) (w : World) (hk : SL w w.heap.size v k) (hb : SL w w.heap.size u b) :
    Calls Try.prog 3 #[v, u] w fun e w' => e = .returned (.bool true) ∧ Below w.heap.size w w' := by
  have HX := Lib.hid ex19_any
  have H1 := Lib.hid (fun W (h : Below w.heap.size w W) => penc_any k b v u W (hk.below h |>.more h.size) (hb.below h |>.more h.size))
  have H2 := Lib.hid (fun W (h : Below w.heap.size w W) => renc_any k b v u W (hk.below h |>.more h.size) (hb.below h |>.more h.size))
  have H3 := Lib.hid (fun W (h : Below w.heap.size w W) => pdec_any k b v u W (hk.below h |>.more h.size) (hb.below h |>.more h.size))
  have H4 := Lib.hid (fun W (h : Below w.heap.size w W) => rdec_any k b v u W (hk.below h |>.more h.size) (hb.below h |>.more h.size))
  obtain ⟨A1, c1, rfl, h11, h12, h13⟩ := hk
  obtain ⟨A2, c2, rfl, h21, h22, h23⟩ := hb
  clear h13 h23
  rcases Nat.lt_or_ge 100 k.length with hs | hs
  · go_enter Try.func3, Try.ntmps3
    go_wp2_with (go_at_call 15; refine (HX.out _).mono ?_; rintro e w1 ⟨rfl, hb1⟩)
    go_ret
    exact ⟨rfl, hb1⟩
  rcases Nat.lt_or_ge 100 b.length with hs2 | hs2
  · have s1 : ¬ 100 < k.length := by omega
    go_enter Try.func3, Try.ntmps3
    go_wp2_with (go_at_call 15; refine (HX.out _).mono ?_; rintro e w1 ⟨rfl, hb1⟩)
    go_ret
    exact ⟨rfl, hb1⟩
  have s1 : ¬ 100 < k.length := by omega
  have s2 : ¬ 100 < b.length := by omega
  clear hs hs2
  generalize encM k b = r1 at *
  generalize decM k b = r2 at *
  generalize fitE k b = E at *
  go_enter Try.func3, Try.ntmps3
  go_wp2_with (first
    | (go_at_call 16; refine (H1.out _ (Below.refl _ _)).mono ?_; rintro e w1 ⟨v1, rfl, hv1, hb1⟩)
    | (go_at_call 17; refine (H2.out _ hb1).mono ?_; rintro e w2 ⟨v2, rfl, hv2, hb2⟩; have b2 := after hb1 hb2)
    | (go_at_call 18; refine (H3.out _ b2).mono ?_; rintro e w3 ⟨v3, rfl, hv3, hb3⟩; have b3 := after b2 hb3)
    | (go_at_call 19; refine (H4.out _ b3).mono ?_; rintro e w4 ⟨v4, rfl, hv4, hb4⟩; have b4 := after b3 hb4))
  have x1 := (((hv1.sl.on hb2).on hb3).on hb4)
  have x2 := ((hv2.sl.on hb3).on hb4)
  have x3 := hv3.sl.on hb4
  have x4 := hv4.sl
  refine (rsame_any r1 r1 v1 v2 w4 w4.heap.size x1 x2).mono ?_
  rw [dec_self]
  rintro e w5 ⟨rfl, n5, rfl⟩
  go_wp2_with fail
  refine (rsame_any r2 r2 v3 v4 (w4.drewN n5) w4.heap.size x3 x4).mono ?_
  rw [dec_self]
  rintro e w6 ⟨rfl, n6, rfl⟩
  go_wp2_with fail
  refine (HX.out _).mono ?_
  rintro e w7 ⟨rfl, hb7⟩
  go_wp2
  go_ret
  exact ⟨rfl, after (below_drewN b4 (n5 + n6)) hb7⟩

set_option maxRecDepth 100000 in
set_option maxHeartbeats 3200000 in
theorem law_cinverts (k b : List UInt8) (v u : Value) (w : World) (hk : SL w w.heap.size v k) (hb : SL w w.heap.size u b) :
    Calls Try.prog 4 #[v, u] w fun e w' => e = .returned (.bool true) ∧ Below w.heap.size w w' := by
  have HX := Lib.hid ex19_any
  have HK := Lib.hid (fun W (h : Below w.heap.size w W) => (hk.below h |>.more h.size))
  have HB := Lib.hid (fun W (h : Below w.heap.size w W) => (hb.below h |>.more h.size))
  obtain ⟨A1, c1, rfl, h11, h12, h13⟩ := hk
  obtain ⟨A2, c2, rfl, h21, h22, h23⟩ := hb
  clear h13 h23
  rcases Nat.lt_or_ge 100 k.length with hs | hs
  · go_enter Try.func4, Try.ntmps4
    go_wp2_with (go_at_call 15; refine (HX.out _).mono ?_; rintro e w1 ⟨rfl, hb1⟩)
    go_ret
    exact ⟨rfl, hb1⟩
  rcases Nat.lt_or_ge 100 b.length with hs2 | hs2
  · have s1 : ¬ 100 < k.length := by omega
    go_enter Try.func4, Try.ntmps4
    go_wp2_with (go_at_call 15; refine (HX.out _).mono ?_; rintro e w1 ⟨rfl, hb1⟩)
    go_ret
    exact ⟨rfl, hb1⟩
  have s1 : ¬ 100 < k.length := by omega
  have s2 : ¬ 100 < b.length := by omega
  clear hs hs2
  by_cases hf : fitE k b = 0
  · have H1 := Lib.hid (fun W (h : Below w.heap.size w W) => penc_any k b _ _ W (HK.out W h) (HB.out W h))
    have H3 := Lib.hid (fun W (h : Below w.heap.size w W) => pdec_any k b _ _ W (HK.out W h) (HB.out W h))
    have H2 := Lib.hid (fun W v1 (h : Below w.heap.size w W) (h1 : SL W W.heap.size v1 (encB k b)) => pdec_any k (encB k b) _ v1 W (HK.out W h) h1)
    have H4 := Lib.hid (fun W v1 (h : Below w.heap.size w W) (h1 : SL W W.heap.size v1 (decB k b)) => penc_any k (decB k b) _ v1 W (HK.out W h) h1)
    have hl := (fit_zero hf).2
    simp only [encM, decM, hf, (dec_len k b hf).1, (dec_len k b hf).2, if_true, dec_enc k b hl, enc_dec k b hl] at H1 H2 H3 H4
    have HLE := Lib.hid (encB_length k b)
    generalize encB k b = r1 at *
    generalize decB k b = r2 at *
    clear hl hf
    go_enter Try.func4, Try.ntmps4
    go_wp2_with fail
    refine (H1.out _ (Below.refl _ _)).mono ?_
    rintro e w1 ⟨v1, rfl, hv1, hb1⟩
    obtain ⟨A5, c5, e5, _⟩ := hv1.sl
    rw [HLE.out] at e5
    subst e5
    go_wp2_with fail
    refine (H2.out _ _ hb1 hv1.sl).mono ?_
    rintro e w2 ⟨v2, rfl, hv2, hb2⟩
    have b2 := after hb1 hb2
    go_wp2_with fail
    refine (H3.out _ b2).mono ?_
    rintro e w3 ⟨v3, rfl, hv3, hb3⟩
    have b3 := after b2 hb3
    go_wp2_with fail
    refine (H4.out _ _ b3 hv3.sl).mono ?_
    rintro e w4 ⟨v4, rfl, hv4, hb4⟩
    have b4 := after b3 hb4
    have x2 := ((hv2.sl.on hb3).on hb4)
    have x4 := hv4.sl
    have xb := HB.out _ b4
    go_wp2_with fail
    refine (rsame_any b b v2 _ w4 w4.heap.size x2 xb).mono ?_
    rw [dec_self]
    rintro e w5 ⟨rfl, n5, rfl⟩
    go_wp2_with fail
    refine (rsame_any b b v4 _ (w4.drewN n5) w4.heap.size x4 xb).mono ?_
    rw [dec_self]
    rintro e w6 ⟨rfl, n6, rfl⟩
    go_wp2_with fail
    refine (HX.out _).mono ?_
    rintro e w7 ⟨rfl, hb7⟩
    go_wp2
    go_ret
    exact ⟨rfl, after (below_drewN b4 (n5 + n6)) hb7⟩
  · have H1 := Lib.hid (fun W (h : Below w.heap.size w W) => penc_any k b _ _ W (HK.out W h) (HB.out W h))
    have hn : (fitE k b != 0) = true := by simp [hf]
    rw [encM, if_neg hf] at H1
    generalize fitE k b = E at *
    go_enter Try.func4, Try.ntmps4
    go_wp2_with fail
    refine (H1.out _ (Below.refl _ _)).mono ?_
    rintro e w1 ⟨v1, rfl, hv1, hb1⟩
    obtain ⟨A5, c5, e5, _⟩ := hv1.sl
    subst e5
    go_wp2_with fail
    refine (HX.out _).mono ?_
    rintro e w7 ⟨rfl, hb7⟩
    go_wp2
    go_ret
    exact ⟨rfl, after hb1 hb7⟩

set_option maxRecDepth 100000 in
set_option maxHeartbeats 3200000 in
theorem law_ckeys (k a b : List UInt8) (v u t : Value) (w : World) (hk : SL w w.heap.size v k) (ha : SL w w.heap.size u a) (hb : SL w w.heap.size t b) :
    Calls Try.prog 5 #[v, u, t] w fun e w' => e = .returned (.bool true) ∧ Below w.heap.size w w' := by
  have HX := Lib.hid ex19_any
  have HA := Lib.hid (fun W (h : Below w.heap.size w W) => (ha.below h |>.more h.size))
  have HB := Lib.hid (fun W (h : Below w.heap.size w W) => (hb.below h |>.more h.size))
  have H1 := Lib.hid (fun W (h : Below w.heap.size w W) => penc_any k a v u W (hk.below h |>.more h.size) (ha.below h |>.more h.size))
  have H2 := Lib.hid (fun W (h : Below w.heap.size w W) => penc_any k b v t W (hk.below h |>.more h.size) (hb.below h |>.more h.size))
  obtain ⟨A1, c1, rfl, h11, h12, h13⟩ := hk
  obtain ⟨A2, c2, rfl, h21, h22, h23⟩ := hb
  obtain ⟨A3, c3, rfl, h31, h32, h33⟩ := ha
  clear h13 h23 h33
  rcases Nat.lt_or_ge 100 k.length with hs | hs
  · go_enter Try.func5, Try.ntmps5
    go_wp2_with (go_at_call 15; refine (HX.out _).mono ?_; rintro e w1 ⟨rfl, hb1⟩)
    go_ret
    exact ⟨rfl, hb1⟩
  have s1 : ¬ 100 < k.length := by omega
  rcases Nat.lt_or_ge 100 a.length with hs2 | hs2
  · go_enter Try.func5, Try.ntmps5
    go_wp2_with (go_at_call 15; refine (HX.out _).mono ?_; rintro e w1 ⟨rfl, hb1⟩)
    go_ret
    exact ⟨rfl, hb1⟩
  have s2 : ¬ 100 < a.length := by omega
  rcases Nat.lt_or_ge 100 b.length with hs3 | hs3
  · go_enter Try.func5, Try.ntmps5
    go_wp2_with (go_at_call 15; refine (HX.out _).mono ?_; rintro e w1 ⟨rfl, hb1⟩)
    go_ret
    exact ⟨rfl, hb1⟩
  have s3 : ¬ 100 < b.length := by omega
  clear hs hs2 hs3
  have HQ : Hid (fitE k a = 0 → fitE k b = 0 → decide (encM k a = encM k b) = decide (a = b)) := fun h1 h2 => by
    rw [encM, encM, if_pos h1, if_pos h2, Bool.eq_iff_iff, decide_eq_true_iff, decide_eq_true_iff]
    exact ⟨fun h => by rw [← dec_enc k a (fit_zero h1).2, h, dec_enc k b (fit_zero h2).2], fun h => by rw [h]⟩
  generalize encM k a = r1 at *
  generalize encM k b = r2 at *
  generalize fitE k a = E1 at *
  generalize fitE k b = E2 at *
  by_cases e1 : E1 = 0
  · by_cases e2 : E2 = 0
    · subst e1 e2
      have HQ := Lib.hid (HQ.out rfl rfl)
      go_enter Try.func5, Try.ntmps5
      go_wp2_with fail
      refine (H1.out _ (Below.refl _ _)).mono ?_
      rintro e w1 ⟨v1, rfl, hv1, hb1⟩
      go_wp2_with fail
      refine (H2.out _ hb1).mono ?_
      rintro e w2 ⟨v2, rfl, hv2, hb2⟩
      have b2 := after hb1 hb2
      go_wp2_with fail
      refine (rsame_any r1 r2 v1 v2 w2 w2.heap.size (hv1.sl.on hb2) hv2.sl).mono ?_
      rw [HQ.out]
      generalize hq : decide (a = b) = q
      have HD := Lib.hid hq
      clear hq
      rintro e w5 ⟨rfl, n5, rfl⟩
      go_wp2_with fail
      refine (rsame_any a b _ _ (w2.drewN n5) w2.heap.size (HA.out _ (below_drewN b2 n5)) (HB.out _ (below_drewN b2 n5))).mono ?_
      rw [HD.out]
      rintro e w6 ⟨rfl, n6, rfl⟩
      cases q
      all_goals (try exact trivial)
      all_goals
        go_wp2_with fail
        all_goals (try exact trivial)
        refine (HX.out _).mono ?_
        rintro e w7 ⟨rfl, hb7⟩
        go_wp2
        go_ret
        exact ⟨rfl, after (below_drewN b2 (n5 + n6)) hb7⟩
    · have hn : (E2 != 0) = true := by simp [e2]
      subst e1
      go_enter Try.func5, Try.ntmps5
      go_wp2_with fail
      refine (H1.out _ (Below.refl _ _)).mono ?_
      rintro e w1 ⟨v1, rfl, hv1, hb1⟩
      go_wp2_with fail
      refine (H2.out _ hb1).mono ?_
      rintro e w2 ⟨v2, rfl, hv2, hb2⟩
      have b2 := after hb1 hb2
      go_wp2_with fail
      refine (HX.out _).mono ?_
      rintro e w7 ⟨rfl, hb7⟩
      go_wp2
      go_ret
      exact ⟨rfl, after b2 hb7⟩
  · have hn : (E1 != 0) = true := by simp [e1]
    go_enter Try.func5, Try.ntmps5
    go_wp2_with fail
    refine (H1.out _ (Below.refl _ _)).mono ?_
    rintro e w1 ⟨v1, rfl, hv1, hb1⟩
    go_wp2_with fail
    refine (H2.out _ hb1).mono ?_
    rintro e w2 ⟨v2, rfl, hv2, hb2⟩
    have b2 := after hb1 hb2
    go_wp2_with fail
    refine (HX.out _).mono ?_
    rintro e w7 ⟨rfl, hb7⟩
    go_wp2
    go_ret
    exact ⟨rfl, after b2 hb7⟩
end Go.Proofs.Ytndkkkkfgihemaa
