/-
  Layer 20: the law of two strings of blocks.
-/
import Derived.Test.YtndkkkkfgihemaaMok
namespace Go.Proofs.Ytndkkkkfgihemaa
set_option linter.unusedVariables false
set_option linter.unusedSimpArgs false
open Go.RowKit

theorem app_mk (a b : List UInt8) : (⟨a.toArray⟩ : ByteArray) ++ ⟨b.toArray⟩ = ⟨(a ++ b).toArray⟩ := by
  apply ByteArray.ext
  simp
theorem fitC_ok {k iv d : List UInt8} (h1 : k.length = 16) (h2 : iv.length = 8) (h3 : d.length % 8 = 0) : fitC k iv d = 0 := by
  unfold fitC
  rw [if_neg (by simp [h1, h2, h3])]

set_option maxRecDepth 100000 in
set_option maxHeartbeats 3200000 in
theorem law_mchains_bad (k iv x y : List UInt8) (v u t s : Value) (w : World) (hk : SL w w.heap.size v k) (hi : SL w w.heap.size u iv) (hx : SL w w.heap.size t x) (hy : SL w w.heap.size s y)
    (hbad : ¬ (fewB [k, iv, x, y] = true ∧ x.length % 8 = 0 ∧ y.length % 8 = 0 ∧ k.length = 16 ∧ iv.length = 8)) :
    Calls Try.prog 13 #[v, u, t, s] w fun e w' => e = .returned (.bool true) ∧ Below w.heap.size w w' := by
  have HW := Lib.hid works_any
  have HF := Lib.hid (fun o ho => few4 k iv x y v u t s w o ho hk hi hx hy)
  obtain ⟨A1, c1, rfl, h11, h12, h13⟩ := hk
  obtain ⟨A2, c2, rfl, h21, h22, h23⟩ := hi
  obtain ⟨A3, c3, rfl, h31, h32, h33⟩ := hx
  obtain ⟨A4, c4, rfl, h41, h42, h43⟩ := hy
  clear h13 h23 h33 h43
  generalize fewB [k, iv, x, y] = q at *
  have fin : ∀ (b1 b2 b3 b4 : Bool), ((x.length : Int) % 8 != 0) = b1 → ((y.length : Int) % 8 != 0) = b2 → ((k.length : Int) != 16) = b3 → ((iv.length : Int) != 8) = b4 → (q = false ∨ b1 = true ∨ b2 = true ∨ b3 = true ∨ b4 = true) →
    Calls Try.prog 13 #[.slice A1 k.length c1, .slice A2 iv.length c2, .slice A3 x.length c3, .slice A4 y.length c4] w fun e w' => e = .returned (.bool true) ∧ Below w.heap.size w w' := by
    intro b1 b2 b3 b4 n1 n2 n3 n4 hor
    clear hbad
    go_enter Try.func13, Try.ntmps13
    go_wp2_with fail
    refine (HF.out _ rfl).mono ?_
    rintro e w1 ⟨rfl, hb1⟩
    cases q
    · clear hor
      go_wp2_with fail
      refine (HW.out _).mono ?_
      rintro e w2 ⟨rfl, hb2⟩
      go_wp2
      go_ret
      exact ⟨rfl, after hb1 hb2⟩
    · cases b1
      · cases b2
        · cases b3
          · cases b4
            · simp at hor
            · clear hor
              go_wp2_with fail
              refine (HW.out _).mono ?_
              rintro e w2 ⟨rfl, hb2⟩
              go_wp2
              go_ret
              exact ⟨rfl, after hb1 hb2⟩
          · clear hor
            go_wp2_with fail
            refine (HW.out _).mono ?_
            rintro e w2 ⟨rfl, hb2⟩
            go_wp2
            go_ret
            exact ⟨rfl, after hb1 hb2⟩
        · clear hor
          go_wp2_with fail
          refine (HW.out _).mono ?_
          rintro e w2 ⟨rfl, hb2⟩
          go_wp2
          go_ret
          exact ⟨rfl, after hb1 hb2⟩
      · clear hor
        go_wp2_with fail
        refine (HW.out _).mono ?_
        rintro e w2 ⟨rfl, hb2⟩
        go_wp2
        go_ret
        exact ⟨rfl, after hb1 hb2⟩
  refine fin _ _ _ _ rfl rfl rfl rfl ?_
  simp only [bne_iff_ne, ne_eq]
  cases q
  · exact Or.inl rfl
  · refine Or.inr ?_
    simp only [true_and] at hbad
    omega

set_option maxRecDepth 100000 in
set_option maxHeartbeats 6400000 in
theorem law_mchains_ok (k iv x y : List UInt8) (v u t s : Value) (w : World) (hk : SL w w.heap.size v k) (hi : SL w w.heap.size u iv) (hx : SL w w.heap.size t x) (hy : SL w w.heap.size s y)
    (hq : fewB [k, iv, x, y] = true) (hx8 : x.length % 8 = 0) (hy8 : y.length % 8 = 0) (hk16 : k.length = 16) (hi8 : iv.length = 8) :
    Calls Try.prog 13 #[v, u, t, s] w fun e w' => e = .returned (.bool true) ∧ Below w.heap.size w w' := by
  have HW := Lib.hid works_any
  have HF := Lib.hid (fun o ho => few4 k iv x y v u t s w o ho hk hi hx hy)
  rw [hq] at HF
  have hxl : x.length ≤ 1000 := by simp [fewB] at hq; omega
  have hyl : y.length ≤ 1000 := by simp [fewB] at hq; omega
  clear hq
  have la := cbE_len k iv x (by omega)
  have lb := cbE_len k (lastB iv (cbE k iv x)) y (by omega)
  have ll : (lastB iv (cbE k iv x)).length = 8 := by
    unfold lastB
    split
    · exact hi8
    · rw [List.length_drop]; omega
  have H1 := Lib.hid (fun W (h : Below w.heap.size w W) => pcbe_any k iv x v u t W (hk.on h) (hi.on h) (hx.on h) (by omega))
  have H2 := Lib.hid (fun W vl (h : Below w.heap.size w W) (hl : SL W W.heap.size vl (lastB iv (cbE k iv x))) => pcbe_any k (lastB iv (cbE k iv x)) y v vl s W (hk.on h) hl (hy.on h) (by omega))
  have H3 := Lib.hid (fun W va (h : Below w.heap.size w W) (ha : SL W W.heap.size va (x ++ y)) => pcbe_any k iv (x ++ y) v u va W (hk.on h) (hi.on h) ha (by rw [List.length_append]; omega))
  rw [fitC_ok hk16 hi8 hx8, if_pos rfl] at H1
  rw [fitC_ok hk16 ll hy8, if_pos rfl] at H2
  rw [fitC_ok hk16 hi8 (by rw [List.length_append]; omega), if_pos rfl, cbE_append k iv x y (by omega) (by omega)] at H3
  have HI := Lib.hid (fun W (h : Below w.heap.size w W) => hi.on h)
  have HY := Lib.hid (fun W (h : Below w.heap.size w W) => hy.on h)
  have HL : Hid (lastB iv (cbE k iv x) = if (cbE k iv x).length < 8 then iv else (cbE k iv x).drop ((cbE k iv x).length - 8)) := rfl
  generalize lastB iv (cbE k iv x) = m at *
  generalize cbE k iv x = a at *
  generalize cbE k m y = b at *
  have SZ : Hid (¬ 9223372036854775807 < a.length + b.length) := by show ¬ _; omega
  have EQ : Hid (a ++ b = ((⟨a.toArray⟩ : ByteArray) ++ ⟨b.toArray⟩).toList) := by show _ = _; rw [app_mk]; simp
  obtain ⟨n, hn⟩ : ∃ n, n = x.length / 8 := ⟨_, rfl⟩
  have HAL : Hid (a.length = 8 * n) := by show _ = _; omega
  have hn9 : n ≤ 125 := by omega
  obtain ⟨A1, c1, rfl, h11, h12, h13⟩ := hk
  obtain ⟨A2, c2, rfl, h21, h22, h23⟩ := hi
  obtain ⟨A3, c3, rfl, h31, h32, h33⟩ := hx
  obtain ⟨A4, c4, rfl, h41, h42, h43⟩ := hy
  clear h13 h23
  have HR3 := Lib.hid (fun W (hb : Below w.heap.size w W) (hp : 0 < x.length) => by obtain ⟨b6, o6, hA, hb6, hc6⟩ := h33 hp; exact (⟨b6, o6, hA, fun k hk => (hb.cell hb6).trans (hc6 k hk)⟩ : ∃ b6 o6, A3 = some ⟨b6, o6, none⟩ ∧ ∀ k, k < x.length → W.cell? ⟨b6, o6 + k, none⟩ = some (.int .u8 ((x.getD k 0).toNat : Int))))
  have HXL : Hid (x.length ≤ 1000) := hxl
  have HYL : Hid (y.length ≤ 1000) := hyl
  have HR4 := Lib.hid (fun W (hb : Below w.heap.size w W) (hp : 0 < y.length) => by obtain ⟨b6, o6, hA, hb6, hc6⟩ := h43 hp; exact (⟨b6, o6, hA, fun k hk => (hb.cell hb6).trans (hc6 k hk)⟩ : ∃ b6 o6, A4 = some ⟨b6, o6, none⟩ ∧ ∀ k, k < y.length → W.cell? ⟨b6, o6 + k, none⟩ = some (.int .u8 ((y.getD k 0).toNat : Int))))
  clear h33 h43
  have n1 : ((x.length : Int) % 8 != 0) = false := by simp; omega
  have n2 : ((y.length : Int) % 8 != 0) = false := by simp; omega
  have n3 : ((k.length : Int) != 16) = false := by simp; omega
  have n4 : ((iv.length : Int) != 8) = false := by simp; omega
  clear hx8 hy8 hk16 hi8 la lb ll hn hxl hyl
  go_enter Try.func13, Try.ntmps13
  go_wp2_with fail
  refine (HF.out _ rfl).mono ?_
  rintro e w1 ⟨rfl, hb1⟩
  go_wp2_with (first
    | (at_builtin; refine wpList_appS rfl _ _ rfl w1 w1.heap.size _ [] x A3 c3 rfl rfl (Below.refl _ _) (OB.nil _ _) (HR3.out _ hb1) (by have := HXL.out; simp; omega) (Nat.le_refl _) ?_; intro v2 w2 hv2 hb2; obtain ⟨A5, c5, rfl⟩ := hv2.value; have b2 := after hb1 hb2)
    | (at_builtin; refine wpList_appS rfl _ _ rfl w2 w1.heap.size _ ([] ++ x) y A4 c4 rfl rfl (Below.refl _ _) hv2 (HR4.out _ b2) (by have := HXL.out; have := HYL.out; simp; omega) hb2.size ?_; intro v3 w3 hv3 hb3; obtain ⟨A6, c6, rfl⟩ := hv3.value))
  have b3 : Below w.heap.size w w3 := after hb1 (hb2.trans hb3)
  have S3 := hv3.sl
  simp only [List.nil_append, List.length_append] at S3
  have HS3 := Lib.hid S3
  clear S3 hv2 hv3
  go_wp2_with fail
  refine (H1.out _ b3).mono ?_
  rintro e w4 ⟨v4, rfl, hv4, hb4⟩
  have b4 := after b3 hb4
  have HSA := Lib.hid hv4.sl
  obtain ⟨A7, c7, rfl, h71, h72, h73⟩ := hv4.sl
  rw [HAL.out] at HSA h71 ⊢
  clear hv4
  unfold maxLen at h72
  cases n with
  | zero =>
    have hm : m = iv := by have := HAL.out; rw [HL.out, if_pos (by omega)]
    clear h73
    have ix1 : ¬ ((8 : Int) ≤ ((8 * 0 : Nat) : Int)) := by omega
    go_wp2_with fail
    refine (H2.out _ _ b4 (by rw [hm]; exact HI.out _ b4)).mono ?_
    rintro e w5 ⟨v5, rfl, hv5, hb5⟩
    have b5 := after b4 hb5
    go_wp2_with fail
    refine (H3.out _ _ b5 (HS3.out.on (after hb4 hb5))).mono ?_
    rintro e w6 ⟨v6, rfl, hv6, hb6⟩
    have b6 := after b5 hb6
    have C4 := (HSA.out.on (after hb5 hb6)).convert
    have C5 := (hv5.sl.on hb6).convert
    have C6 := hv6.sl.convert
    have sz := SZ.out
    have eq1 := EQ.out
    go_wp2_with (go_at_call 23; refine (HW.out _).mono ?_; rintro e w7 ⟨rfl, hb7⟩)
    go_ret
    exact ⟨rfl, after b6 hb7⟩
  | succ p =>
    have hp0 : 0 < a.length := by have := HAL.out; omega
    obtain ⟨b7, o7, rfl, hb7, hc7⟩ := h73 hp0
    have hm : SL w4 w4.heap.size (.slice (some ⟨b7, o7 + 8 * p, none⟩) 8 (c7 - 8 * p)) m := by
      have := HAL.out
      rw [HL.out, if_neg (by omega), show a.length - 8 = 8 * p by omega]
      exact ⟨some ⟨b7, o7 + 8 * p, none⟩, c7 - 8 * p, by rw [List.length_drop]; congr 1; omega, by rw [List.length_drop]; omega, by unfold maxLen; omega, Rd.drop h73 (8 * p) (by omega)⟩
    have H7 := Lib.hid hm
    clear hm h73 hc7 hp0
    rw [show 8 * (p + 1) = 8 * p + 8 by omega] at h71 HSA ⊢
    obtain ⟨q, hq⟩ : ∃ q, q = 8 * p := ⟨_, rfl⟩
    rw [← hq] at h71 H7 HSA ⊢
    have ix1 : ((q + 8 : Nat) : Int) - 8 = (q : Int) := by omega
    have ix2 : (q : Int) ≤ ((q + 8 : Nat) : Int) := by omega
    have ix3 : (8 : Int) ≤ ((q + 8 : Nat) : Int) := by omega
    have hq9 : q ≤ 1000 := by omega
    clear hq
    go_wp2_with fail
    refine (H2.out _ _ b4 H7.out).mono ?_
    rintro e w5 ⟨v5, rfl, hv5, hb5⟩
    have b5 := after b4 hb5
    go_wp2_with fail
    refine (H3.out _ _ b5 (HS3.out.on (after hb4 hb5))).mono ?_
    rintro e w6 ⟨v6, rfl, hv6, hb6⟩
    have b6 := after b5 hb6
    have C4 := (HSA.out.on (after hb5 hb6)).convert
    have C5 := (hv5.sl.on hb6).convert
    have C6 := hv6.sl.convert
    have sz := SZ.out
    have eq1 := EQ.out
    go_wp2_with (go_at_call 23; refine (HW.out _).mono ?_; rintro e w7 ⟨rfl, hb7⟩)
    go_ret
    exact ⟨rfl, after b6 hb7⟩
theorem law_mchains (k iv x y : List UInt8) (v u t s : Value) (w : World) (hk : SL w w.heap.size v k) (hi : SL w w.heap.size u iv) (hx : SL w w.heap.size t x) (hy : SL w w.heap.size s y) :
    Calls Try.prog 13 #[v, u, t, s] w fun e w' => e = .returned (.bool true) ∧ Below w.heap.size w w' := by
  by_cases h : fewB [k, iv, x, y] = true ∧ x.length % 8 = 0 ∧ y.length % 8 = 0 ∧ k.length = 16 ∧ iv.length = 8
  · exact law_mchains_ok k iv x y v u t s w hk hi hx hy h.1 h.2.1 h.2.2.1 h.2.2.2.1 h.2.2.2.2
  · exact law_mchains_bad k iv x y v u t s w hk hi hx hy h
end Go.Proofs.Ytndkkkkfgihemaa
