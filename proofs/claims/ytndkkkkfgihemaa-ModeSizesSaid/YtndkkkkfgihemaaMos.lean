/-
  Layer 20: the law of the sizes.
-/
import Derived.Test.YtndkkkkfgihemaaMor
import Derived.Test.YtndkkkkfgihemaaMop
namespace Go.Proofs.Ytndkkkkfgihemaa
set_option linter.unusedVariables false
set_option linter.unusedSimpArgs false
open Go.RowKit

set_option maxRecDepth 100000 in
set_option maxHeartbeats 3200000 in
theorem law_msizes_bad (k iv d : List UInt8) (v u t : Value) (w : World) (hk : SL w w.heap.size v k) (hi : SL w w.heap.size u iv) (hd : SL w w.heap.size t d)
    (hbad : ¬ (fewB [k, iv, d] = true ∧ k.length = 16 ∧ iv.length = 8)) :
    Calls Try.prog 14 #[v, u, t] w fun e w' => e = .returned (.bool true) ∧ Below w.heap.size w w' := by
  have HW := Lib.hid works_any
  have HF := Lib.hid (fun o ho => few3 k iv d v u t w o ho hk hi hd)
  obtain ⟨A1, c1, rfl, h11, h12, h13⟩ := hk
  obtain ⟨A2, c2, rfl, h21, h22, h23⟩ := hi
  obtain ⟨A3, c3, rfl, h31, h32, h33⟩ := hd
  clear h13 h23 h33
  generalize fewB [k, iv, d] = q at *
  have fin : ∀ (b3 b4 : Bool), ((k.length : Int) != 16) = b3 → ((iv.length : Int) != 8) = b4 → (q = false ∨ b3 = true ∨ b4 = true) →
    Calls Try.prog 14 #[.slice A1 k.length c1, .slice A2 iv.length c2, .slice A3 d.length c3] w fun e w' => e = .returned (.bool true) ∧ Below w.heap.size w w' := by
    intro b3 b4 n3 n4 hor
    clear hbad
    go_enter Try.func14, Try.ntmps14
    go_wp2_with fail
    refine (HF.out _ rfl).mono ?_
    rintro e w1 ⟨rfl, hb1⟩
    cases q
    · clear hor
      go_wp2_with fail
      refine (HW.out _).mono ?_
      rintro e w2 ⟨rfl, hb2⟩
      go_wp2
      go_ret
      exact ⟨rfl, after hb1 hb2⟩
    · cases b3
      · cases b4
        · simp at hor
        · clear hor
          go_wp2_with fail
          refine (HW.out _).mono ?_
          rintro e w2 ⟨rfl, hb2⟩
          go_wp2
          go_ret
          exact ⟨rfl, after hb1 hb2⟩
      · clear hor
        go_wp2_with fail
        refine (HW.out _).mono ?_
        rintro e w2 ⟨rfl, hb2⟩
        go_wp2
        go_ret
        exact ⟨rfl, after hb1 hb2⟩
  refine fin _ _ rfl rfl ?_
  simp only [bne_iff_ne, ne_eq]
  cases q
  · exact Or.inl rfl
  · refine Or.inr ?_
    simp only [true_and] at hbad
    omega

set_option maxRecDepth 100000 in
set_option maxHeartbeats 6400000 in
theorem law_msizes_ok (k iv d : List UInt8) (v u t : Value) (w : World) (hk : SL w w.heap.size v k) (hi : SL w w.heap.size u iv) (hd : SL w w.heap.size t d)
    (hq : fewB [k, iv, d] = true) (hk16 : k.length = 16) (hi8 : iv.length = 8) :
    Calls Try.prog 14 #[v, u, t] w fun e w' => e = .returned (.bool true) ∧ Below w.heap.size w w' := by
  have HW := Lib.hid works_any
  have HF := Lib.hid (fun o ho => few3 k iv d v u t w o ho hk hi hd)
  rw [hq] at HF
  have hdl : d.length ≤ 1000 := by simp [fewB] at hq; omega
  clear hq
  have hpl := padL_len d
  have la := cbE_len k iv (padL d 8) (by omega)
  have lm := macL_len k iv d
  have lh := hashL_len d
  have f0 : fitM k iv = 0 := by unfold fitM; rw [if_neg (by simp [hk16, hi8])]
  have fz : fitM k z8 = 0 := by rw [fitM_z, if_neg (by simp [hk16])]
  have ld : (derL k d).length = 16 := by rw [derL, if_pos fz, List.length_append, macL_len, macL_len]
  have lc : (chkL k).length = 3 := by rw [chkL, if_pos fz, List.length_take, encB_length]; rfl
  have H0 := Lib.hid (fun W (h : Below w.heap.size w W) => rpad_ok d t 8 W (hd.on h) (by omega) (by omega) (by omega))
  have H1 := Lib.hid (fun W vp (h : Below w.heap.size w W) (hp : SL W W.heap.size vp (padL d 8)) => pcbe_any k iv (padL d 8) v u vp W (hk.on h) (hi.on h) hp (by omega))
  have H2 := Lib.hid (fun W (h : Below w.heap.size w W) => pmac_any k iv d v u t W (hk.on h) (hi.on h) (hd.on h) (by omega))
  have H3 := Lib.hid (fun W (h : Below w.heap.size w W) => pder_any k d v t W (hk.on h) (hd.on h) (by omega))
  have H4 := Lib.hid (fun W (h : Below w.heap.size w W) => pchk_any k v W (hk.on h))
  have H5 := Lib.hid (fun W (h : Below w.heap.size w W) => phash_any d t W (hd.on h) (by omega))
  have HM : Hid (macL k iv d = (cbE k iv (padL d 8)).drop ((padL d 8).length - 8)) := rfl
  rw [fitM_c, f0, if_pos rfl] at H1
  rw [macM, f0, if_pos rfl] at H2
  rw [fz] at H3 H4
  generalize macL k iv d = m at *
  generalize cbE k iv (padL d 8) = a at *
  generalize padL d 8 = p at *
  generalize derL k d = r at *
  generalize chkL k = s at *
  generalize hashL d = z at *
  obtain ⟨n, hn⟩ : ∃ n, n = 8 * (d.length / 8) := ⟨_, rfl⟩
  have HPL : Hid (p.length = n + 8) := by show _ = _; omega
  have HAL : Hid (a.length = n + 8) := by show _ = _; omega
  have HML := Lib.hid lm
  have HRL := Lib.hid ld
  have HSL := Lib.hid lc
  have HZL := Lib.hid lh
  have HM2 : Hid (m = a.drop n) := by show _ = _; rw [HM.out, HPL.out]; congr 1
  have hn9 : n ≤ 1000 := by omega
  have n3 : ((k.length : Int) != 16) = false := by simp; omega
  have n4 : ((iv.length : Int) != 8) = false := by simp; omega
  obtain ⟨A1, c1, rfl, h11, h12, h13⟩ := hk
  obtain ⟨A2, c2, rfl, h21, h22, h23⟩ := hi
  obtain ⟨A3, c3, rfl, h31, h32, h33⟩ := hd
  clear h13 h23 h33 hk16 hi8 hdl hpl la lm lh f0 fz ld lc HM hn
  go_enter Try.func14, Try.ntmps14
  go_wp2_with fail
  refine (HF.out _ rfl).mono ?_
  rintro e w1 ⟨rfl, hb1⟩
  go_wp2_with fail
  refine (H0.out _ hb1).mono ?_
  rintro e w2 ⟨v2, rfl, hv2, hb2⟩
  have b2 := after hb1 hb2
  go_wp2_with fail
  refine (H1.out _ _ b2 hv2).mono ?_
  rintro e w3 ⟨v3, rfl, hv3, hb3⟩
  have b3 := after b2 hb3
  go_wp2_with fail
  refine (H2.out _ b3).mono ?_
  rintro e w4 ⟨v4, rfl, hv4, hb4⟩
  have b4 := after b3 hb4
  go_wp2_with fail
  refine (H3.out _ b4).mono ?_
  rintro e w5 ⟨v5, rfl, hv5, hb5⟩
  have b5 := after b4 hb5
  go_wp2_with fail
  refine (H4.out _ b5).mono ?_
  rintro e w6 ⟨v6, rfl, hv6, hb6⟩
  have b6 := after b5 hb6
  have d6 := (Below.refl w6.heap.size w6).drew
  have b7 := b6.drew
  have H5' := Lib.hid (H5.out _ b7)
  have S3 := (hv3.sl.on (after hb4 (after hb5 hb6))).on d6
  have S4 := (hv4.on (after hb5 hb6)).on d6
  obtain ⟨Ap, cp, ep, _, _, _⟩ := hv2
  obtain ⟨Aa, ca, ea, ha1, ha2, ha3⟩ := S3
  have C4 := S4.convert
  obtain ⟨Am, cm, em, _, _, _⟩ := S4
  obtain ⟨Ar, cr, er, _, _, _⟩ := hv5
  obtain ⟨As, cs, es, _, _, _⟩ := hv6
  subst ep ea em er es
  obtain ⟨b9, o7, rfl, hb9, hc7⟩ := ha3 (by have := HAL.out; omega)
  have hm : SL w6.drew w6.drew.heap.size (.slice (some ⟨b9, o7 + n, none⟩) 8 (ca - n)) m := by
    have := HAL.out
    rw [HM2.out]
    exact ⟨some ⟨b9, o7 + n, none⟩, ca - n, by rw [List.length_drop]; congr 1; omega, by rw [List.length_drop]; omega, by omega, Rd.drop ha3 n (by omega)⟩
  have C5 := hm.convert
  rw [HAL.out] at ha1 ⊢
  rw [HPL.out, HML.out, HRL.out, HSL.out]
  rw [HML.out] at C4
  clear hm ha3 hc7 hv3 hv4
  unfold maxLen at ha2
  have ix1 : ((n + 8 : Nat) : Int) - 8 = (n : Int) := by omega
  have ix2 : (n : Int) ≤ ((n + 8 : Nat) : Int) := by omega
  go_wp2_with fail
  have W1 : IntKind.i64.wrap (n : Int) = (n : Int) := by simp [IntKind.wrap, IntKind.bits, IntKind.signed]; omega
  have W2 : ca ≠ n := by omega
  have W3 : n + 8 - n = 8 := by omega
  have W4 : (n : Int) ≤ (n : Int) + 8 := by omega
  refine wp_region_still_tail 48 (by kernel_rfl) (by kernel_rfl) ?_
  simp only [List.take_succ_cons, List.take_zero, List.drop_succ_cons, List.drop_zero]
  repeat still_step
  refine wpStill_nil ?_
  change wpList _ _ _ _ _ w6.drew
  go_wp2_with (first
    | (go_at_call 34; refine H5'.out.mono ?_; rintro e w7 ⟨v7, rfl, hv7, hb7⟩; obtain ⟨Az, cz, ez, _, _, _⟩ := hv7; subst ez; rw [HZL.out])
    | (go_at_call 23; refine (HW.out _).mono ?_; rintro e w8 ⟨rfl, hb8⟩))
  go_ret
  exact ⟨rfl, after (after b7 hb7) hb8⟩
theorem law_msizes (k iv d : List UInt8) (v u t : Value) (w : World) (hk : SL w w.heap.size v k) (hi : SL w w.heap.size u iv) (hd : SL w w.heap.size t d) :
    Calls Try.prog 14 #[v, u, t] w fun e w' => e = .returned (.bool true) ∧ Below w.heap.size w w' := by
  by_cases h : fewB [k, iv, d] = true ∧ k.length = 16 ∧ iv.length = 8
  · exact law_msizes_ok k iv d v u t w hk hi hd h.1 h.2.1 h.2.2
  · exact law_msizes_bad k iv d v u t w hk hi hd h
end Go.Proofs.Ytndkkkkfgihemaa
