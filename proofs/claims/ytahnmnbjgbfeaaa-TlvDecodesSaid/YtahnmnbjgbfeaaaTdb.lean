/-
  The walks of the laws TlvDecodes and TlvBack.
  The walk of the law TlvBack.
-/
import Derived.Test.YtahnmnbjgbfeaaaDme
import Derived.Test.YtahnmnbjgbfeaaaTcr
namespace Go.Proofs.Ytahnmnbjgbfeaaa
set_option linter.unusedVariables false
set_option linter.unusedSimpArgs false
open Go.RowKit


theorem KI.tlS {w : World} {base : Nat} {v : Value} {ts : List T} (h : KI w (From w base) v ts) : TL w w.heap.size v ts := h.tl fun _ hb => hb.2
set_option maxRecDepth 100000 in
set_option maxHeartbeats 6400000 in
theorem law_decodes (b : List UInt8) (v : Value) (w : World) (hv : SL w w.heap.size v b) :
    Calls Try.prog 12 #[v] w fun e w' => e = .returned (.bool true) ∧ Below w.heap.size w w' := by
  obtain ⟨A, c, rfl, h1, h2, h3⟩ := id hv
  unfold maxLen at h2
  have HV := Lib.hid hv
  have HA := Lib.hid fun (W : World) => works_any W
  have HP := Lib.hid (pdecode_any b _ w hv)
  have HQ := Lib.hid fun (W : World) (hW : Below w.heap.size w W) => rdecode_any b _ W (hv.on hW)
  clear hv h3
  by_cases hl : 6000 < b.length
  · have hli : (6000 : Int) < (b.length : Int) := by omega
    clear HP HQ HV
    go_enter Try.func12, Try.ntmps12
    go_wp2_with fail
    refine (HA.out _).mono ?_
    rintro e w3 ⟨rfl, hb3⟩
    go_wp2_with fail
    go_ret
    exact ⟨rfl, hb3⟩
  · have hli : ¬ (6000 : Int) < (b.length : Int) := by omega
    generalize decR b = R at *
    obtain ⟨er, ts⟩ := R
    have hsm := samT_refl ts
    have HS : Hid (∀ (va vb : Value) (W : World), TL W W.heap.size va ts → TL W W.heap.size vb ts → Calls Try.prog 55 #[va, vb] W fun e w' => e = .returned (.bool true) ∧ Below W.heap.size W w') := fun va vb W ha hb => by
      have := rsa_any _ ts (Nat.lt_succ_self _) ts va vb W ha hb
      rwa [hsm] at this
    clear hsm
    go_enter Try.func12, Try.ntmps12
    go_wp2_with fail
    refine HP.out.mono ?_
    rintro e w1 ⟨A1, c1, rfl, hk1, hb1⟩
    have HB1 := Lib.hid hb1
    have HK1 := Lib.hid hk1
    clear hb1 hk1
    go_wp2_with fail
    refine (HQ.out _ HB1.out).mono ?_
    rintro e w2 ⟨A2, c2, rfl, hk2, hb2⟩
    have HB2 := Lib.hid (HB1.out.trans (hb2.mono HB1.out.size))
    have HK2 := Lib.hid hk2.tlS
    have HK1' := Lib.hid (HK1.out.tlS.on hb2)
    clear hb2 hk2 HK1
    have hee : (er == er) = true := by simp
    go_wp2_with fail
    refine (HS.out _ _ _ HK1'.out HK2.out).mono ?_
    rintro e w3 ⟨rfl, hb3⟩
    have HB3 := Lib.hid (HB2.out.trans (hb3.mono HB2.out.size))
    clear hb3
    go_wp2_with fail
    refine (HA.out _).mono ?_
    rintro e w4 ⟨rfl, hb4⟩
    go_wp2_with fail
    go_ret
    exact ⟨rfl, HB3.out.trans (hb4.mono HB3.out.size)⟩



theorem enc_ok {ts : List T} (h : encE ts = 0) : okL 1 ts = true ∧ (encL ts).length ≤ 4096 ∧ encM ts = encL ts := by
  unfold encE at h
  unfold encM
  by_cases h1 : okL 1 ts = true
  · rw [if_pos h1] at h ⊢
    by_cases h2 : 4096 < (encL ts).length
    · rw [if_pos h2] at h; exact absurd h (by decide)
    · rw [if_neg h2]; exact ⟨h1, by omega, rfl⟩
  · rw [if_neg h1] at h; exact absurd h (by decide)
theorem dec_enc {ts : List T} (h : encE ts = 0) : decR (encM ts) = (0, ts) := by
  obtain ⟨h1, h2, h3⟩ := enc_ok h
  unfold decR
  rw [h3, if_neg (by omega)]
  exact back_enc _ ts 1 (Nat.lt_succ_self _) h1 (by omega)
theorem enc_dec {b : List UInt8} (h : (decR b).1 = 0) : encE (decR b).2 = 0 ∧ encM (decR b).2 = b ∧ (encL (decR b).2).length ≤ 4096 := by
  unfold decR at h ⊢
  by_cases hl : 4096 < b.length
  · rw [if_pos hl] at h; exact absurd h (by decide)
  · rw [if_neg hl] at h ⊢
    obtain ⟨h1, h2⟩ := back_dec _ b 1 (Nat.lt_succ_self _) h
    have h1' : okL 1 (readL 1 b).2 = true := h1
    unfold encE encM
    rw [h2, if_pos h1', if_pos h1', if_neg (by omega), if_neg (by omega)]
    exact ⟨rfl, rfl, by omega⟩
set_option maxRecDepth 100000 in
set_option maxHeartbeats 6400000 in
theorem law_back (ts : List T) (b : List UInt8) (v u : Value) (w : World) (hv : TL w w.heap.size v ts) (hu : SL w w.heap.size u b) :
    Calls Try.prog 16 #[v, u] w fun e w' => e = .returned (.bool true) ∧ Below w.heap.size w w' := by
  obtain ⟨A1, c1, rfl, _⟩ := id hv
  obtain ⟨A2, c2, rfl, h11, h12, _⟩ := id hu
  unfold maxLen at h12
  have HF := Lib.hid (few_any ts _ w hv)
  have HA := Lib.hid fun (W : World) => works_any W
  have HV := Lib.hid hv
  have HU := Lib.hid hu
  clear hv hu
  by_cases hf : 0 ≤ leftL ts 6000
  · rw [decide_eq_true hf] at HF
    by_cases hl : 6000 < b.length
    · have hli : (6000 : Int) < (b.length : Int) := by omega
      clear hf
      go_enter Try.func16, Try.ntmps16
      go_wp2_with (go_at_call 49; refine HF.out.mono ?_; rintro e w1 ⟨rfl, hb1⟩)
      refine (HA.out _).mono ?_
      rintro e w3 ⟨rfl, hb3⟩
      go_wp2_with fail
      go_ret
      exact ⟨rfl, hb1.trans (hb3.mono hb1.size)⟩
    · have hli : ¬ (6000 : Int) < (b.length : Int) := by omega
      have HE := Lib.hid fun (W : World) (hW : Below w.heap.size w W) => pencode_any ts _ W (HV.out.on hW) (few_enc ts hf)
      have HD := Lib.hid fun (W : World) (hW : Below w.heap.size w W) => pdecode_any b _ W (HU.out.on hW)
      -- behind the first half
      have HS : Hid (∀ (va vb : Value) (W : World), TL W W.heap.size va ts → TL W W.heap.size vb ts → Calls Try.prog 55 #[va, vb] W fun e w' => e = .returned (.bool true) ∧ Below W.heap.size W w') := fun va vb W ha hb => by
        have := rsa_any _ ts (Nat.lt_succ_self _) ts va vb W ha hb
        rwa [samT_refl ts] at this
      have HED : Hid (encE ts = 0 → (encM ts).length ≤ 4096 ∧ ∀ (x : Value) (W : World), SL W W.heap.size x (encM ts) → Calls Try.prog 53 #[x] W fun e w' => RlP W (0, ts) e w') := fun h => by
        refine ⟨by rw [(enc_ok h).2.2]; exact (enc_ok h).2.1, fun x W hx => ?_⟩
        have := pdecode_any (encM ts) x W hx
        rwa [dec_enc h] at this
      have HDE : Hid ((decR b).1 = 0 → ∀ (x : Value) (W : World), TL W W.heap.size x (decR b).2 → Calls Try.prog 50 #[x] W fun e w' => ∃ v', e = .returned (.tuple #[v', .int .i64 0]) ∧ SL w' w'.heap.size v' b ∧ Below W.heap.size W w') := fun h x W hx => by
        obtain ⟨h1, h2, h3⟩ := enc_dec h
        have := pencode_any (decR b).2 x W hx (by omega)
        rwa [h1, h2] at this
      generalize encE ts = er at *
      generalize encM ts = em at *
      generalize decR b = R at *
      obtain ⟨dr, us⟩ := R
      simp only at HDE
      clear hf
      by_cases he : er = 0
      · subst he
        obtain ⟨hem, hed⟩ := HED.out rfl
        have HED2 := Lib.hid hed
        have hem2 : ¬ (4096 : Int) < (em.length : Int) := by omega
        clear hed hem HED
        by_cases hd : dr = 0
        · subst hd
          have HDE2 := Lib.hid (HDE.out rfl)
          clear HDE
          go_enter Try.func16, Try.ntmps16
          go_wp2_with (go_at_call 49; refine HF.out.mono ?_; rintro e w1 ⟨rfl, hb1⟩; have HB1 := Lib.hid hb1; clear hb1)
          refine (HE.out _ HB1.out).mono ?_
          rintro e w2 ⟨v2, rfl, hv2, hb2⟩
          obtain ⟨A3, c3, rfl, _⟩ := id hv2
          have HB2 := Lib.hid (HB1.out.trans (hb2.mono HB1.out.size))
          have HV2 := Lib.hid hv2
          clear hb2 hv2
          go_wp2_with fail
          refine (HED2.out _ _ HV2.out).mono ?_
          rintro e w3 ⟨A4, c4, rfl, hk3, hb3⟩
          have HB3 := Lib.hid (HB2.out.trans (hb3.mono HB2.out.size))
          have HK3 := Lib.hid hk3.tlS
          clear hb3 hk3
          go_wp2_with (go_at_call 55; refine (HS.out _ _ _ HK3.out (HV.out.on HB3.out)).mono ?_; rintro e w4 ⟨rfl, hb4⟩; have HB4 := Lib.hid (HB3.out.trans (hb4.mono HB3.out.size)); clear hb4)
          refine (HD.out _ HB4.out).mono ?_
          rintro e w5 ⟨A5, c5, rfl, hk5, hb5⟩
          have HB5 := Lib.hid (HB4.out.trans (hb5.mono HB4.out.size))
          have HK5 := Lib.hid hk5.tlS
          clear hb5 hk5
          go_wp2_with fail
          refine (HDE2.out _ _ HK5.out).mono ?_
          rintro e w6 ⟨v6, rfl, hv6, hb6⟩
          have HB6 := Lib.hid (HB5.out.trans (hb6.mono HB5.out.size))
          have cv1 := hv6.convert
          have cv2 := (HU.out.on HB6.out).convert
          obtain ⟨A6, c6, rfl, _⟩ := id hv6
          clear hb6 hv6
          go_wp2_with fail
          refine (HA.out _).mono ?_
          rintro e w7 ⟨rfl, hb7⟩
          go_wp2_with fail
          go_ret
          exact ⟨rfl, HB6.out.trans (hb7.mono HB6.out.size)⟩
        · have hdb : (dr == 0) = false := by simpa using hd
          clear HDE hd
          go_enter Try.func16, Try.ntmps16
          go_wp2_with (go_at_call 49; refine HF.out.mono ?_; rintro e w1 ⟨rfl, hb1⟩; have HB1 := Lib.hid hb1; clear hb1)
          refine (HE.out _ HB1.out).mono ?_
          rintro e w2 ⟨v2, rfl, hv2, hb2⟩
          obtain ⟨A3, c3, rfl, _⟩ := id hv2
          have HB2 := Lib.hid (HB1.out.trans (hb2.mono HB1.out.size))
          have HV2 := Lib.hid hv2
          clear hb2 hv2
          go_wp2_with fail
          refine (HED2.out _ _ HV2.out).mono ?_
          rintro e w3 ⟨A4, c4, rfl, hk3, hb3⟩
          have HB3 := Lib.hid (HB2.out.trans (hb3.mono HB2.out.size))
          have HK3 := Lib.hid hk3.tlS
          clear hb3 hk3
          go_wp2_with (go_at_call 55; refine (HS.out _ _ _ HK3.out (HV.out.on HB3.out)).mono ?_; rintro e w4 ⟨rfl, hb4⟩; have HB4 := Lib.hid (HB3.out.trans (hb4.mono HB3.out.size)); clear hb4)
          refine (HD.out _ HB4.out).mono ?_
          rintro e w5 ⟨A5, c5, rfl, hk5, hb5⟩
          have HB5 := Lib.hid (HB4.out.trans (hb5.mono HB4.out.size))
          have HK5 := Lib.hid hk5.tlS
          clear hb5 hk5
          go_wp2_with fail
          refine (HA.out _).mono ?_
          rintro e w7 ⟨rfl, hb7⟩
          go_wp2_with fail
          go_ret
          exact ⟨rfl, HB5.out.trans (hb7.mono HB5.out.size)⟩
      · have heb : (er == 0) = false := by simpa using he
        clear HED HS he
        by_cases hd : dr = 0
        · subst hd
          have HDE2 := Lib.hid (HDE.out rfl)
          clear HDE
          go_enter Try.func16, Try.ntmps16
          go_wp2_with (go_at_call 49; refine HF.out.mono ?_; rintro e w1 ⟨rfl, hb1⟩; have HB1 := Lib.hid hb1; clear hb1)
          refine (HE.out _ HB1.out).mono ?_
          rintro e w2 ⟨v2, rfl, hv2, hb2⟩
          obtain ⟨A3, c3, rfl, _⟩ := id hv2
          have HB2 := Lib.hid (HB1.out.trans (hb2.mono HB1.out.size))
          have HV2 := Lib.hid hv2
          clear hb2 hv2
          go_wp2_with fail
          refine (HD.out _ HB2.out).mono ?_
          rintro e w5 ⟨A5, c5, rfl, hk5, hb5⟩
          have HB5 := Lib.hid (HB2.out.trans (hb5.mono HB2.out.size))
          have HK5 := Lib.hid hk5.tlS
          clear hb5 hk5
          go_wp2_with fail
          refine (HDE2.out _ _ HK5.out).mono ?_
          rintro e w6 ⟨v6, rfl, hv6, hb6⟩
          have HB6 := Lib.hid (HB5.out.trans (hb6.mono HB5.out.size))
          have cv1 := hv6.convert
          have cv2 := (HU.out.on HB6.out).convert
          obtain ⟨A6, c6, rfl, _⟩ := id hv6
          clear hb6 hv6
          go_wp2_with fail
          refine (HA.out _).mono ?_
          rintro e w7 ⟨rfl, hb7⟩
          go_wp2_with fail
          go_ret
          exact ⟨rfl, HB6.out.trans (hb7.mono HB6.out.size)⟩
        · have hdb : (dr == 0) = false := by simpa using hd
          clear HDE hd
          go_enter Try.func16, Try.ntmps16
          go_wp2_with (go_at_call 49; refine HF.out.mono ?_; rintro e w1 ⟨rfl, hb1⟩; have HB1 := Lib.hid hb1; clear hb1)
          refine (HE.out _ HB1.out).mono ?_
          rintro e w2 ⟨v2, rfl, hv2, hb2⟩
          obtain ⟨A3, c3, rfl, _⟩ := id hv2
          have HB2 := Lib.hid (HB1.out.trans (hb2.mono HB1.out.size))
          have HV2 := Lib.hid hv2
          clear hb2 hv2
          go_wp2_with fail
          refine (HD.out _ HB2.out).mono ?_
          rintro e w5 ⟨A5, c5, rfl, hk5, hb5⟩
          have HB5 := Lib.hid (HB2.out.trans (hb5.mono HB2.out.size))
          have HK5 := Lib.hid hk5.tlS
          clear hb5 hk5
          go_wp2_with fail
          refine (HA.out _).mono ?_
          rintro e w7 ⟨rfl, hb7⟩
          go_wp2_with fail
          go_ret
          exact ⟨rfl, HB5.out.trans (hb7.mono HB5.out.size)⟩
  · rw [decide_eq_false hf] at HF
    clear hf
    go_enter Try.func16, Try.ntmps16
    go_wp2_with (go_at_call 49; refine HF.out.mono ?_; rintro e w1 ⟨rfl, hb1⟩)
    refine (HA.out _).mono ?_
    rintro e w3 ⟨rfl, hb3⟩
    go_wp2_with fail
    go_ret
    exact ⟨rfl, hb1.trans (hb3.mono hb1.size)⟩

end Go.Proofs.Ytahnmnbjgbfeaaa
