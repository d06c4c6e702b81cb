/-
  The reference's Encode, and the walk of the law on encodings.
-/
import Derived.Test.YtahnmnbjgbfeaaaRefc
namespace Go.Proofs.Ytahnmnbjgbfeaaa
set_option linter.unusedVariables false
set_option linter.unusedSimpArgs false
open Go.RowKit

theorem all_any : ∀ (n : Nat) (ts : List T) (d : Int), depL ts < n → okL d ts = true → AllC ts
  | 0, ts, d, h, _ => absurd h (by omega)
  | n + 1, ts, d, h, hok => all_step ts d (fun ts' h' hk => all_any n ts' (d + 1) (by omega) hk) hok

set_option maxRecDepth 100000 in
theorem rencode_any (ts : List T) (v : Value) (w : World) (hv : TL w w.heap.size v ts) :
    Calls Try.prog 51 #[v] w fun e w' => ∃ v', e = .returned (.tuple #[v', .int .i64 (encE ts)]) ∧ SL w' w'.heap.size v' (encM ts) ∧ Below w.heap.size w w' := by
  have HV := Lib.hid hv
  have hc := rright_any ts v w hv
  obtain ⟨A, c, rfl, h1, h2, h3⟩ := hv
  cases hok : okL 1 ts with
  | false =>
    rw [hok] at hc
    have HC := Lib.hid hc
    have HM := Lib.hid (show encM ts = [] by unfold encM; rw [hok]; rfl)
    have HE := Lib.hid (show encE ts = 1 by unfold encE; rw [hok]; rfl)
    clear hc hok
    go_enter Try.func51, Try.ntmps51
    rw [HM.out, HE.out]
    go_wp2_with (go_at_call 72; refine HC.out.mono ?_; rintro e w2 ⟨rfl, hb2⟩)
    go_ret2
    exact ⟨_, rfl, SL.nil _ _ _ _ (Nat.zero_le _), hb2⟩
  | true =>
    rw [hok] at hc
    have HC := Lib.hid hc
    have hal := all_any (depL ts + 1) ts 1 (by omega) hok
    unfold AllC at hal
    by_cases hl : 4096 < (encL ts).length
    · have HM := Lib.hid (show encM ts = [] by unfold encM; rw [if_pos hok, if_pos hl])
      have HE := Lib.hid (show encE ts = 3 by unfold encE; rw [if_pos hok, if_pos hl])
      rw [allB_f hl, allM_f hl] at hal
      have HA := Lib.hid hal
      clear hc hok hal hl
      go_enter Try.func51, Try.ntmps51
      rw [HM.out, HE.out]
      go_wp2_with (first
        | (go_at_call 72; refine HC.out.mono ?_; rintro e w2 ⟨rfl, hb2⟩)
        | (go_at_call 73; refine (HA.out _ _ (HV.out.on hb2)).mono ?_; rintro e w3 ⟨v3, rfl, hv3, hb3⟩))
      go_ret2
      exact ⟨_, rfl, SL.nil _ _ _ _ (Nat.zero_le _), hb2.trans (hb3.mono hb2.size)⟩
    · have HM := Lib.hid (show encM ts = encL ts by unfold encM; rw [if_pos hok, if_neg hl])
      have HE := Lib.hid (show encE ts = 0 by unfold encE; rw [if_pos hok, if_neg hl])
      rw [allB_t (by omega), allM_t (by omega)] at hal
      have HA := Lib.hid hal
      clear hc hok hal hl
      go_enter Try.func51, Try.ntmps51
      rw [HM.out, HE.out]
      go_wp2_with (first
        | (go_at_call 72; refine HC.out.mono ?_; rintro e w2 ⟨rfl, hb2⟩)
        | (go_at_call 73; refine (HA.out _ _ (HV.out.on hb2)).mono ?_; rintro e w3 ⟨v3, rfl, hv3, hb3⟩))
      go_ret2
      exact ⟨_, rfl, hv3.1, hb2.trans (hb3.mono hb2.size)⟩

set_option maxRecDepth 100000 in
set_option maxHeartbeats 3200000 in
theorem law_encodes (ts : List T) (v : Value) (w : World) (hv : TL w w.heap.size v ts) :
    Calls Try.prog 11 #[v] w fun e w' => e = .returned (.bool true) ∧ Below w.heap.size w w' := by
  have HF := Lib.hid (few_any ts v w hv)
  have HV := Lib.hid hv
  obtain ⟨A, c, rfl, h1, h2, h3⟩ := hv
  by_cases hfew : 0 ≤ leftL ts 6000
  · have hs := few_enc ts hfew
    have hf := HF.out
    rw [decide_eq_true hfew] at hf
    have HF2 := Lib.hid hf
    obtain ⟨E, hE⟩ : ∃ E, E = encE ts := ⟨_, rfl⟩
    obtain ⟨M, hM⟩ : ∃ M, M = encM ts := ⟨_, rfl⟩
    have k1 := fun V W h => pencode_any ts V W h hs
    have k2 := fun V W h => rencode_any ts V W h
    have k3 := fun V W h => psize_any ts V W h hs
    simp only [← hE, ← hM] at k1 k2 k3
    have K1 := Lib.hid k1
    have K2 := Lib.hid k2
    have K3 := Lib.hid k3
    clear HF hf hs hfew hE hM k1 k2 k3
    go_enter Try.func11, Try.ntmps11
    go_wp2_with (go_at_call 49; refine HF2.out.mono ?_; rintro e w1 ⟨rfl, hb1⟩)
    refine (K1.out _ w1 (HV.out.on hb1)).mono ?_
    rintro e w2 ⟨v2, rfl, hv2, hb2⟩
    go_wp2_with fail
    refine (K2.out _ w2 ((HV.out.on hb1).on hb2)).mono ?_
    rintro e w3 ⟨v3, rfl, hv3, hb3⟩
    have cv1 := (hv2.on hb3).convert
    have cv2 := hv3.convert
    obtain ⟨A2, c2, e2, _⟩ := id hv2
    obtain ⟨A3, c3, e3, _⟩ := id hv3
    subst e2 e3
    have s1 := hb1.size
    have b3 : Below w.heap.size w w3 := hb1.trans ((hb2.trans (hb3.mono hb2.size)).mono s1)
    have HV3 := Lib.hid (((HV.out.on hb1).on hb2).on hb3)
    clear hb1 hb2 hb3 hv2 hv3
    go_wp2_with (first
      | (go_at_call 52; refine (K3.out _ w3 HV3.out).mono ?_; rintro e w4 ⟨rfl, hb4⟩)
      | (go_at_call 48; refine (works_any _).mono ?_; rintro e w5 ⟨rfl, hb5⟩))
    go_ret
    exact ⟨rfl, (b3.trans (hb4.mono b3.size)).trans (hb5.mono (b3.trans (hb4.mono b3.size)).size)⟩
  · have hf := HF.out
    rw [decide_eq_false hfew] at hf
    have HF2 := Lib.hid hf
    clear HF hf hfew
    go_enter Try.func11, Try.ntmps11
    go_wp2_with (first
      | (go_at_call 49; refine HF2.out.mono ?_; rintro e w1 ⟨rfl, hb1⟩)
      | (go_at_call 48; refine (works_any _).mono ?_; rintro e w2 ⟨rfl, hb2⟩))
    go_ret
    exact ⟨rfl, hb1.trans (hb2.mono hb1.size)⟩
end Go.Proofs.Ytahnmnbjgbfeaaa
