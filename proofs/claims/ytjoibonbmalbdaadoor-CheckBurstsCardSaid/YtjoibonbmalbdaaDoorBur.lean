/-
  The walk of the law CheckBursts.
-/
import Derived.Test.YtjoibonbmalbdaaDoorDet
namespace Go.Proofs.YtjoibonbmalbdaaDoor
open Go.RowKit

theorem burst_det (l y : List UInt8) (f p : Nat) (hlen : y.length = (appL 1 l).length) (hb : ∀ t, t < 8 * y.length → bitAt y t = (bitAt (appL 1 l) t ^^ burst f 16 p t)) (hf : f + 16 ≤ 8 * y.length) (hp : p < 65536) (h0 : p ≠ 0) :
    remE 1 y = 6 ∧ remV 1 y = [] := by
  obtain ⟨a1, a2, a3, a4, a5⟩ := app_rem 1 l (.inr rfl)
  have hz : sizeK 1 = 2 := rfl
  have hno : remOk 1 y = false := by
    rw [Bool.eq_false_iff]
    intro hok
    unfold remOk at hok
    rw [beq_iff_eq] at hok
    have hsplit : y = y.take (y.length - sizeK 1) ++ sumL 1 (y.take (y.length - sizeK 1)) := by
      rw [hok, List.take_append_drop]
    exact burst_ne f 16 p (8 * (appL 1 l).length) (by omega) (by omega) (by omega) h0 (crc_detects (appL 1 l) y l (y.take (y.length - sizeK 1)) (burst f 16 p) a1 hsplit hlen.symm (fun n hn => hb n (by rw [hlen]; exact hn)))
  refine ⟨?_, ?_⟩
  · rw [remE, if_neg (by omega), if_neg (by omega), if_neg (by simp [hno])]
  · rw [remV, if_neg (by omega), if_neg (by omega), if_neg (by simp [hno])]
theorem burst_zero (f p t : Nat) : burst f 0 p t = false := by
  unfold burst
  by_cases h : f ≤ t
  · simp [h]; omega
  · simp [h]
theorem burst_yes (f j p t : Nat) (h : p.testBit j = true) : burst f (j + 1) p t = (burst f j p t ^^ decide (t = f + j)) := by
  unfold burst
  by_cases e : t = f + j
  · subst e
    simp [h]
  · have h1 : decide (t < f + (j + 1)) = decide (t < f + j) := by
      apply decide_eq_decide.2
      omega
    rw [h1]
    simp [e]
theorem burst_no (f j p t : Nat) (h : p.testBit j = false) : burst f (j + 1) p t = burst f j p t := by
  unfold burst
  by_cases e : t = f + j
  · subst e
    simp [h]
  · have h1 : decide (t < f + (j + 1)) = decide (t < f + j) := by
      apply decide_eq_decide.2
      omega
    rw [h1]
theorem testBit_odd (p j : Nat) : p.testBit j = decide (p / 2 ^ j % 2 = 1) := by
  rw [Nat.testBit_eq_decide_div_mod_eq]

theorem tmod_bit (q j : Nat) : ((((q : Int) / 2 ^ j).tmod 2 == 1) : Bool) = q.testBit j := by
  have e : ((q : Int) / 2 ^ j) = ((q / 2 ^ j : Nat) : Int) := by simp
  rw [testBit_odd, e, Int.tmod_eq_emod_of_nonneg (Int.natCast_nonneg _), Bool.eq_iff_iff, beq_iff_eq, decide_eq_true_iff]
  generalize q / 2 ^ j = r
  omega

set_option maxRecDepth 100000 in
set_option maxHeartbeats 800000 in
theorem law_burst (l : List UInt8) (v : Value) (n p : Int) (w : World) (hl : SL w w.heap.size v l) (hT : Tb w) (hn : n ≤ 9223372036854775807) (hp0 : 0 ≤ p) (hp : p ≤ 65535) :
    Calls Tryd.prog 8 #[v, .int .i64 n, .int .u16 p] w fun e w' => e = .returned (.bool true) ∧ Below w.heap.size w w' := by
  by_cases h4 : 400 < l.length
  · obtain ⟨A, c, rfl, _, _, _⟩ := hl
    go_enter Tryd.func8, Tryd.ntmps8
    go_wp2_with fail
    go_ret
    exact ⟨rfl, Below.refl _ _⟩
  · by_cases hneg : n < 0
    · obtain ⟨A, c, rfl, _, _, _⟩ := hl
      go_enter Tryd.func8, Tryd.ntmps8
      go_wp2_with fail
      go_ret
      exact ⟨rfl, Below.refl _ _⟩
    · by_cases hpz : p = 0
      · subst hpz
        obtain ⟨A, c, rfl, _, _, _⟩ := hl
        go_enter Tryd.func8, Tryd.ntmps8
        go_wp2_with fail
        go_ret
        exact ⟨rfl, Below.refl _ _⟩
      · obtain ⟨m, rfl⟩ := Int.eq_ofNat_of_zero_le (show 0 ≤ n by omega)
        obtain ⟨q, rfl⟩ := Int.eq_ofNat_of_zero_le hp0
        have HL := Lib.hid hl
        have HT := Lib.hid hT
        obtain ⟨A, c, rfl, _, _, _⟩ := hl
        obtain ⟨a1, a2, a3, a4, a5⟩ := app_rem 1 l (.inr rfl)
        have hz : sizeK 1 = 2 := rfl
        have H1 := papp_any 1 l _ w HL.out hT (by omega)
        unfold AppR at H1
        rw [a4] at H1
        have hbd := burst_det l
        generalize hx : appL 1 l = x at *
        have hx1 : 2 ≤ x.length := by omega
        have hx2 : x.length ≤ 500 := by omega
        obtain ⟨a, ha⟩ : ∃ a, a = m % (8 * x.length - 15) := ⟨_, rfl⟩
        have hal : a + 16 ≤ 8 * x.length := by have := Nat.mod_lt m (show 0 < 8 * x.length - 15 by omega); omega
        have HM : Hid ((m : Int) % (8 * (x.length : Int) - 15) = (a : Int)) := by
          show _ = _
          rw [ha, Int.natCast_emod]
          congr 1
          omega
        have HBD := Lib.hid hbd
        have H1 := Lib.hid H1
        have HX := Lib.hid hx
        have hq0 : ((q : Int) == 0) = false := by rw [beq_eq_false_iff_ne]; exact hpz
        have HQ0 : Hid (q ≠ 0) := by show _ ≠ _; omega
        have hpos : (0 : Int) < 8 * (x.length : Int) - 15 := by omega
        clear hT a1 a2 a3 a4 a5 hz ha hbd hx hpz
        go_enter Tryd.func8, Tryd.ntmps8
        go_wp2_with fail
        refine H1.out.mono ?_
        rintro e w1 ⟨v1, rfl, hv1, hb1⟩
        obtain ⟨A1, c1, rfl, _, _, r1⟩ := hv1
        have R1 := Lib.hid r1
        clear r1
        go_wp2_with (at_builtin; refine wpList_appS rfl (.tmp 44) (.tmp 45) rfl (w1.alloc (.cells #[] 5)) w1.heap.size _ [] x A1 c1 rfl rfl (Below.refl _ _) (OB.made _) (fun hp => by obtain ⟨b, o, hA, hb, hc⟩ := R1.out hp; exact ⟨b, o, hA, fun k' hk' => ((alloc_below w1 (.cells #[] 5)).cell (p := ⟨b, o + k', none⟩) hb).trans (hc k' hk')⟩) (by simp only [List.length_nil]; omega) (by rw [alloc_size]; omega) ?_; intro v2 w2 hv2 hb2)
        rw [HM.out]
        have hv2' : OB w2 w1.heap.size v2 x := hv2
        clear hv2
        obtain ⟨g, cap, rfl, _, _⟩ := World.ownsRow.form hv2' (by omega)
        have hgb := hv2'.base_le
        have hw2 : Below w.heap.size w w2 := hb1.trans (((alloc_below w1 (.cells #[] 5)).trans hb2).mono hb1.size)
        have hs1 := hb1.size
        have HW2 := Lib.hid hw2
        clear hb2 hw2
        go_loopw [11] (fun i wr => ∃ j : Nat, j ≤ 16 ∧ i = .int .i64 j ∧ (∃ y : List UInt8, y.length = x.length ∧ OB wr w1.heap.size (.slice (some ⟨g, 0, none⟩) x.length cap) y ∧ Hid (∀ t, t < 8 * y.length → bitAt y t = (bitAt x t ^^ burst a j q t))) ∧ Below w.heap.size w wr) (fun i _ => 16 - (intOf i).toNat)
        case atStart => exact ⟨0, Nat.zero_le _, rfl, ⟨x, rfl, hv2', fun t _ => by rw [burst_zero]; simp⟩, HW2.out⟩
        case round =>
          obtain ⟨j, hj, rfl, ⟨y, hyl, hown, hbits⟩, hbel⟩ := hrel
          have HYL := Lib.hid hyl
          have hyl2 : y.length ≤ x.length := by omega
          have hyl3 : x.length ≤ y.length := by omega
          clear hyl
          by_cases hj16 : j < 16
          · have htm := tmod_bit q j
            cases htb : q.testBit j
            · have HTB := Lib.hid htb
              rw [htb] at htm
              clear htb
              go_wp2_with fail
              go_roundw
              case rel => exact ⟨j + 1, by omega, by go_num, ⟨y, HYL.out, hown, fun t ht => by rw [hbits.out t ht, burst_no _ _ _ _ HTB.out]⟩, hbel⟩
              case measure => simp [intOf]; omega
            · have HTB := Lib.hid htb
              rw [htb] at htm
              clear htb
              have g3 := hown.cellAt ((a + j) / 8) (by omega)
              have g4 := hown.frozenAt ((a + j) / 8)
              have i0 : (0 : Int) ≤ ((a : Int) + (j : Int)) / 8 := by omega
              have i1 : ((a : Int) + (j : Int)) / 8 < (x.length : Int) := by omega
              have i2 : (0 : Int) ≤ ((a : Int) + (j : Int)) % 8 := by omega
              have i3 : ((a : Int) + (j : Int)) % 8 < 8 := by omega
              go_wp2_with fail
              go_region
              go_wp2_with fail
              go_roundw
              case rel =>
                have hval : bits .xor .u8 (((y[(a + j) / 8]?.getD 0).toNat : Nat) : Int) (2 ^ ((a + j) % 8) % 256) = ((y.getD ((a + j) / 8) 0 ^^^ bitB ((a + j) % 8)).toNat : Int) := by
                  rw [shl_bit _ (Nat.mod_lt _ (by omega)), bits_xor]
                  rfl
                refine ⟨j + 1, by omega, by go_num, ⟨y.set ((a + j) / 8) (y.getD ((a + j) / 8) 0 ^^^ bitB ((a + j) % 8)), by rw [List.length_set]; exact HYL.out, ?_, fun t ht => ?_⟩, (hbel.setCell (p := ⟨g, (a + j) / 8, none⟩) (Nat.le_trans hs1 hgb) _).drew⟩
                · rw [hval]
                  exact (hown.stored ((a + j) / 8) _ _ rfl).later (Below.refl _ _).drew
                · rw [List.length_set] at ht
                  rw [bitAt_flip y (a + j) t (by omega), hbits.out t ht, burst_yes _ _ _ _ HTB.out, Bool.xor_assoc]
              case measure => simp [intOf]; omega
          · obtain rfl : j = 16 := by omega
            have hd := HBD.out y a q HYL.out hbits.out (by omega) (by omega) HQ0.out
            have H3 := prem_any 1 y _ wr hown.sl (HT.out.on hbel) (by omega)
            unfold RemR at H3
            rw [hd.1, hd.2] at H3
            have H3 := Lib.hid H3
            clear hd hown
            go_wp2_with fail
            refine H3.out.mono ?_
            rintro e w4 ⟨v4, rfl, hv4, hb4⟩
            have hw4 : Below w.heap.size w w4 := hbel.trans (hb4.mono hbel.size)
            go_wp2_with fail
            refine (awake_any _ (HT.out.on hw4)).mono ?_
            rintro e w5 ⟨rfl, hb5⟩
            go_wp2_with fail
            go_ret
            exact ⟨rfl, hw4.trans (hb5.mono hw4.size)⟩
end Go.Proofs.YtjoibonbmalbdaaDoor
