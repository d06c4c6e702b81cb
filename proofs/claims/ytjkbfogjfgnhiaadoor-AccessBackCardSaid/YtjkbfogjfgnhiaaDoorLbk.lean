/-
  The walk of the law AccessBack.
-/
import Derived.Test.YtjkbfogjfgnhiaaDoorCii
import Derived.Test.YtjkbfogjfgnhiaaDoorWks
namespace Go.Proofs.YtjkbfogjfgnhiaaDoor
set_option linter.unusedVariables false
set_option linter.unusedSimpArgs false
open Go.RowKit

set_option maxRecDepth 100000 in
set_option maxHeartbeats 6400000 in
theorem law_back (rs : List Rl) (b : List UInt8) (v u : Value) (w : World) (hk : RL w w.heap.size v rs) (hu : SL w w.heap.size u b) (hT : Tb w) :
    Calls Tryd.prog 14 #[v, u] w fun e w' => e = .returned (.bool true) ∧ Below w.heap.size w w' := by
  have HF := Lib.hid (fewr_any rs v w hk)
  have HFC := Lib.hid (@fewR_cnt rs)
  have hp1 := fun (W : World) (hW : Below w.heap.size w W) hc => penr_any rs v W (hk.on hW) (hT.on hW) hc
  have HD1 := Lib.hid fun (W : World) (x : Value) (m : List UInt8) (hW : Below w.heap.size w W) (hx : SL W W.heap.size x m) (hm : m.length ≤ 1700) => pdeca_any m x W hx (hT.on hW) hm
  have hd2 := fun (W : World) (hW : Below w.heap.size w W) (hl : b.length ≤ 1000) => pdeca_any b u W (hu.on hW) (hT.on hW) (by omega)
  have HS := Lib.hid fun (W : World) (x : Value) (hW : Below w.heap.size w W) (hx : RL W W.heap.size x rs) => rsmr_any rs rs x v W hx (hk.on hW)
  rw [samR_self] at HS
  have hA := fun (W : World) (hW : Below w.heap.size w W) => works_any W (hT.on hW)
  have hp3 := fun (W : World) (x : Value) (hW : Below w.heap.size w W) (hx : RL W W.heap.size x (decA b).2) hc => penr_any (decA b).2 x W hx (hT.on hW) hc
  have hp4 := fun (W : World) (x : Value) (hW : Below w.heap.size w W) (hx : RL W W.heap.size x (decA b).2) hc => pchr_any (decA b).2 x W hx (hT.on hW) hc
  have hbk := @decA_back b
  have HEN := Lib.hid (@decA_enc rs)
  have hml : rE rs = 0 → (rM rs).length ≤ 1700 := fun h => by
    have h2 := decA_back (b := rM rs) (by rw [decA_enc h])
    have h3 : (decR (rM rs)).1 = 0 := by
      by_cases h4 : (decR (rM rs)).1 = 0
      · exact h4
      · have h5 := decA_enc h
        unfold decA at h5
        rw [if_pos h4] at h5
        exact absurd (congrArg Prod.fst h5) h4
    rw [decA_enc h] at h2
    simp only at h2
    have hc := chkR_S h2.1
    have h6 := rts_len rs (fun k hk => (chk_parts (chkS_get rs k hk hc.1).2).2.1)
    unfold rM
    rw [if_pos h2.1]
    unfold encM
    split
    · split
      · simp
      · have := hc.2; omega
    · simp
  have HML := Lib.hid hml
  unfold EnrP at hp1 hp3
  unfold RaP at hd2 HD1
  obtain ⟨A, cap, rfl, _, _, _⟩ := id hk
  obtain ⟨Au, cu, rfl, _, hcu, _⟩ := id hu
  obtain ⟨E2, hE2⟩ : ∃ E2, E2 = (decA b).1 := ⟨_, rfl⟩
  obtain ⟨R2, hR2⟩ : ∃ R2, R2 = (decA b).2 := ⟨_, rfl⟩
  simp only [← hE2, ← hR2] at hd2 hp3 hp4 hbk
  have hp3' : E2 = 0 → ∀ (W : World) (x : Value), Below w.heap.size w W → RL W W.heap.size x R2 → Calls Tryd.prog 29 #[x] W fun e w' => ∃ v', e = .returned (.tuple #[v', .int .i64 0]) ∧ SL w' w'.heap.size v' b ∧ Below W.heap.size W w' := fun h0 W x hW hx => by
    obtain ⟨k1, k2, k3⟩ := hbk h0
    have := hp3 W x hW hx (fun k hk => by have := (chk_parts (chkS_get R2 k hk (chkR_S k1).1).2).2.1; omega)
    rw [k2, k3] at this
    exact this
  have hp4' : E2 = 0 → ∀ (W : World) (x : Value), Below w.heap.size w W → RL W W.heap.size x R2 → Calls Tryd.prog 22 #[x] W fun e w' => e = .returned (.int .i64 0) ∧ Below W.heap.size W w' := fun h0 W x hW hx => by
    obtain ⟨k1, k2, k3⟩ := hbk h0
    have := hp4 W x hW hx (fun k hk => by have := (chk_parts (chkS_get R2 k hk (chkR_S k1).1).2).2.1; omega)
    rw [k1] at this
    exact this
  have HP3 := Lib.hid hp3'
  have HP4 := Lib.hid hp4'
  have HU := Lib.hid hu
  have HA := Lib.hid hA
  obtain ⟨E, hE⟩ : ∃ E, E = rE rs := ⟨_, rfl⟩
  obtain ⟨M, hM⟩ : ∃ M, M = rM rs := ⟨_, rfl⟩
  simp only [← hE, ← hM] at hp1 HEN HML
  have HP1 := Lib.hid hp1
  have HUP : Hid (∀ W w', Below w.heap.size w W → Below W.heap.size W w' → Below w.heap.size w w') := fun W w' h h' => h.trans (h'.mono h.size)
  clear hk hT hp1 hE hM hE2 hR2 hbk hp3 hp4 hp3' hp4' hu hA hml
  unfold maxLen at hcu
  generalize fewR rs = F at *
  by_cases hbl : b.length ≤ 1000
  case neg =>
    have hgt : (1000 : Int) < (b.length : Int) := by omega
    clear hd2 HP3 HP4 HP1 HS HD1
    cases F
    all_goals
      go_enter Tryd.func14, Tryd.ntmps14
      go_wp2_with fail
      refine HF.out.mono ?_
      rintro e w1 ⟨rfl, hb1⟩
      go_wp2_with fail
      refine (HA.out _ hb1).mono ?_
      rintro e w2 ⟨rfl, hb2⟩
      go_wp2_with fail
      go_ret
      exact ⟨rfl, HUP.out _ _ hb1 hb2⟩
  have HD2 := Lib.hid (fun W hW => hd2 W hW hbl)
  have hgt : ¬ (1000 : Int) < (b.length : Int) := by omega
  clear hd2 hbl
  go_enter Tryd.func14, Tryd.ntmps14
  go_wp2_with fail
  refine HF.out.mono ?_
  rintro e w1 ⟨rfl, hb1⟩
  have HB1 := Lib.hid hb1
  clear hb1
  cases F with
  | false =>
    go_wp2_with fail
    refine (HA.out _ HB1.out).mono ?_
    rintro e w2 ⟨rfl, hb2⟩
    go_wp2_with fail
    go_ret
    exact ⟨rfl, HUP.out _ _ HB1.out hb2⟩
  | true =>
    have hc := HFC.out (by first | exact trivial | rfl)
    have HC := Lib.hid hc
    clear hc
    go_wp2_with fail
    refine (HP1.out _ HB1.out HC.out).mono ?_
    rintro e w2 ⟨v2, rfl, hv2, hb2'⟩
    have HB2 := Lib.hid (HUP.out _ _ HB1.out hb2')
    have HV2 := Lib.hid hv2
    obtain ⟨A2, c2, e2, _⟩ := id hv2
    subst e2
    clear hb2' hv2
    by_cases hE0 : E = 0
    · have HM1 := Lib.hid (HML.out hE0)
      have HE1 := Lib.hid (HEN.out hE0)
      subst hE0
      have HDD := Lib.hid (HD1.out _ _ _ HB2.out HV2.out HM1.out)
      rw [HE1.out] at HDD
      go_wp2_with fail
      refine HDD.out.mono ?_
      rintro e w3 ⟨A3, c3, rfl, hrc3, hb3'⟩
      have HB3 := Lib.hid (HUP.out _ _ HB2.out hb3')
      have HR3 := Lib.hid hrc3.rlF
      clear hb3' hrc3
      go_wp2_with fail
      refine (HS.out _ _ HB3.out HR3.out).mono ?_
      rintro e w4 ⟨rfl, hb4'⟩
      have HB4 := Lib.hid (HUP.out _ _ HB3.out hb4')
      clear hb4'
      go_wp2_with fail
      refine (HD2.out _ HB4.out).mono ?_
      rintro e w6 ⟨A6, c6, rfl, hrc6, hb6'⟩
      have hb6 := HUP.out _ _ HB4.out hb6'
      have hr6 := hrc6.rlF
      have HR6 := Lib.hid hr6
      have HB6 := Lib.hid hb6
      clear hb6' hrc6 hr6 hb6
      by_cases hE2 : E2 = 0
      · subst hE2
        go_wp2_with fail
        refine (HP3.out (by first | exact trivial | rfl) _ _ HB6.out HR6.out).mono ?_
        rintro e w7 ⟨v7, rfl, hv7, hb7'⟩
        have hb7 := HUP.out _ _ HB6.out hb7'
        have HR7 := Lib.hid (HR6.out.on hb7')
        have cv1 := hv7.convert
        have cv2 := (HU.out.on hb7).convert
        have HB7 := Lib.hid hb7
        obtain ⟨A7, c7, e7, _⟩ := id hv7
        subst e7
        clear hb7' hb7 hv7
        go_wp2_with fail
        refine (HP4.out (by first | exact trivial | rfl) _ _ HB7.out HR7.out).mono ?_
        rintro e w8 ⟨rfl, hb8'⟩
        have hb8 := HUP.out _ _ HB7.out hb8'
        have HB8 := Lib.hid hb8
        clear hb8 hb8' cv1 cv2
        go_wp2_with fail
        refine (HA.out _ HB8.out).mono ?_
        rintro e w9 ⟨rfl, hb9⟩
        go_wp2_with fail
        go_ret
        exact ⟨rfl, HUP.out _ _ HB8.out hb9⟩
      · have hEb : (E2 == 0) = false := by rw [beq_eq_false_iff_ne]; exact hE2
        go_wp2_with fail
        refine (HA.out _ HB6.out).mono ?_
        rintro e w9 ⟨rfl, hb9⟩
        go_wp2_with fail
        go_ret
        exact ⟨rfl, HUP.out _ _ HB6.out hb9⟩
    · have hEb : (E == 0) = false := by rw [beq_eq_false_iff_ne]; exact hE0
      go_wp2_with fail
      refine (HD2.out _ HB2.out).mono ?_
      rintro e w6 ⟨A6, c6, rfl, hrc6, hb6'⟩
      have hb6 := HUP.out _ _ HB2.out hb6'
      have hr6 := hrc6.rlF
      have HR6 := Lib.hid hr6
      have HB6 := Lib.hid hb6
      clear hb6' hrc6 hr6 hb6
      by_cases hE2 : E2 = 0
      · subst hE2
        go_wp2_with fail
        refine (HP3.out (by first | exact trivial | rfl) _ _ HB6.out HR6.out).mono ?_
        rintro e w7 ⟨v7, rfl, hv7, hb7'⟩
        have hb7 := HUP.out _ _ HB6.out hb7'
        have HR7 := Lib.hid (HR6.out.on hb7')
        have cv1 := hv7.convert
        have cv2 := (HU.out.on hb7).convert
        have HB7 := Lib.hid hb7
        obtain ⟨A7, c7, e7, _⟩ := id hv7
        subst e7
        clear hb7' hb7 hv7
        go_wp2_with fail
        refine (HP4.out (by first | exact trivial | rfl) _ _ HB7.out HR7.out).mono ?_
        rintro e w8 ⟨rfl, hb8'⟩
        have hb8 := HUP.out _ _ HB7.out hb8'
        have HB8 := Lib.hid hb8
        clear hb8 hb8' cv1 cv2
        go_wp2_with fail
        refine (HA.out _ HB8.out).mono ?_
        rintro e w9 ⟨rfl, hb9⟩
        go_wp2_with fail
        go_ret
        exact ⟨rfl, HUP.out _ _ HB8.out hb9⟩
      · have hEb : (E2 == 0) = false := by rw [beq_eq_false_iff_ne]; exact hE2
        go_wp2_with fail
        refine (HA.out _ HB6.out).mono ?_
        rintro e w9 ⟨rfl, hb9⟩
        go_wp2_with fail
        go_ret
        exact ⟨rfl, HUP.out _ _ HB6.out hb9⟩
end Go.Proofs.YtjkbfogjfgnhiaaDoor
