/-
  The walk of the law ApduChains.
-/
import Derived.Test.YtjoibonbmalbdaaRce
import Derived.Test.YtjoibonbmalbdaaRjn
import Derived.Test.YtjoibonbmalbdaaLsm
import Derived.Test.YtjoibonbmalbdaaExh
namespace Go.Proofs.Ytjoibonbmalbdaa
set_option linter.unusedVariables false
set_option linter.unusedSimpArgs false
open Go.RowKit

theorem chnR_le (c : Cm) (n : Nat) (hn : 1 ≤ n) (hc : -9223372036854775808 ≤ c.le ∧ c.le ≤ 9223372036854775807) : ∀ (f : Nat) (r : List UInt8), r.length ≤ f → (chnR c n r).length ≤ r.length + 1 ∧ ∀ x ∈ chnR c n r, -9223372036854775808 ≤ x.le ∧ x.le ≤ 9223372036854775807
  | f, r, h => by
    by_cases hl : n < r.length
    · rw [chnR_more c n hn r hl]
      cases f with
      | zero => omega
      | succ f =>
        obtain ⟨e1, e2⟩ := chnR_le c n hn hc f (r.drop n) (by simp; omega)
        have : (r.drop n).length = r.length - n := List.length_drop
        refine ⟨by rw [List.length_cons]; omega, fun x hx => ?_⟩
        rcases List.mem_cons.1 hx with rfl | hx
        · exact ⟨by show (-9223372036854775808 : Int) ≤ 0; omega, by show (0 : Int) ≤ 9223372036854775807; omega⟩
        · exact e2 x hx
    · rw [chnR_last c n r (by omega)]
      refine ⟨by simp, fun x hx => ?_⟩
      simp at hx
      subst hx
      exact hc

set_option maxRecDepth 100000 in
set_option maxHeartbeats 3200000 in
theorem law_chains (c : Cm) (n : Int) (v : Value) (w : World) (h : SL w w.heap.size v c.data) (hle : -9223372036854775808 ≤ c.le ∧ c.le ≤ 9223372036854775807) :
    Calls Try.prog 8 #[c.val v, .int .i64 n] w fun e w' => e = .returned (.bool true) ∧ Below w.heap.size w w' := by
  have HM := Lib.hid h
  have HEX := Lib.hid (fun W : World => example_any W)
  obtain ⟨A, k, rfl, _, _, _⟩ := h
  by_cases hbig : 5000 < c.data.length
  · have hb' : (5000 : Int) < (c.data.length : Int) := by omega
    have hal := Lib.hid (alloc_below w (.cells #[.int .i64 c.cla, .int .i64 c.ins, .int .i64 c.p1, .int .i64 c.p2, .slice A c.data.length k, .int .i64 c.le, .bool c.long] 24))
    unfold Cm.val
    go_enter Try.func8, Try.ntmps8
    go_wp2_with fail
    refine (HEX.out _).mono ?_
    rintro e w1 ⟨rfl, hb1⟩
    go_wp2_with fail
    go_ret
    exact ⟨rfl, hal.out.trans (hb1.mono hal.out.size)⟩
  have hb' : ¬ (5000 : Int) < (c.data.length : Int) := by omega
  have HPC : Hid (∀ W, Below w.heap.size w W → Calls Try.prog 34 #[c.val (.slice A c.data.length k), .int .i64 n] W (ChnR c n W)) := fun W hW => pchn_any c n _ W (HM.out.on hW) hle (by omega)
  have HRC : Hid (∀ W, Below w.heap.size w W → Calls Try.prog 35 #[c.val (.slice A c.data.length k), .int .i64 n] W (ChnR c n W)) := fun W hW => rchn_any c n _ W (HM.out.on hW) hle (by omega)
  unfold ChnR at HPC HRC
  simp only [Cm.val] at HPC HRC ⊢
  have hal := alloc_below w (.cells #[.int .i64 c.cla, .int .i64 c.ins, .int .i64 c.p1, .int .i64 c.p2, .slice A c.data.length k, .int .i64 c.le, .bool c.long] 24)
  have HAL := Lib.hid hal
  have HROW := Lib.hid (heap_alloc_new w (.cells #[.int .i64 c.cla, .int .i64 c.ins, .int .i64 c.p1, .int .i64 c.p2, .slice A c.data.length k, .int .i64 c.le, .bool c.long] 24))
  have hlt0 : w.heap.size < (w.alloc (.cells #[.int .i64 c.cla, .int .i64 c.ins, .int .i64 c.p1, .int .i64 c.p2, .slice A c.data.length k, .int .i64 c.le, .bool c.long] 24)).heap.size := by rw [alloc_size]; omega
  have HLT := Lib.hid hlt0
  clear hal hlt0
  obtain ⟨L, hL⟩ : ∃ L, L = if chnE c n = 0 then chnL c n.toNat else [] := ⟨_, rfl⟩
  have HLL := Lib.hid hL
  have HLEN : Hid (L.length ≤ 5001 ∧ ∀ x ∈ L, -9223372036854775808 ≤ x.le ∧ x.le ≤ 9223372036854775807) := by
    show _ ∧ _
    by_cases h0 : chnE c n = 0
    · rw [hL, if_pos h0]
      obtain ⟨e1, e2⟩ := chnR_le c n.toNat (by have := (chn_chk h0).2.1; omega) hle c.data.length c.data (Nat.le_refl _)
      exact ⟨by show (chnR c n.toNat c.data).length ≤ _; omega, e2⟩
    · rw [hL, if_neg h0]
      exact ⟨by simp, fun x hx => by cases hx⟩
  have HJN : Hid (chnE c n = 0 → L = chnL c n.toNat) := fun h0 => by rw [hL, if_pos h0]
  rw [← hL] at HPC HRC
  have HLE := Lib.hid hle
  obtain ⟨E, hE⟩ : ∃ E, E = chnE c n := ⟨_, rfl⟩
  rw [← hE] at HPC HRC HJN
  have HEE := Lib.hid hE
  clear hL hle hbig hE
  go_enter Try.func8, Try.ntmps8
  go_wp2_with fail
  generalize w.alloc (.cells #[.int .i64 c.cla, .int .i64 c.ins, .int .i64 c.p1, .int .i64 c.p2, .slice A c.data.length k, .int .i64 c.le, .bool c.long] 24) = W0 at *
  have HBX : Hid (∀ W, Below W0.heap.size W0 W → W.cell? ⟨w.heap.size, 0, none⟩ = some (.int .i64 c.cla) ∧ W.cell? ⟨w.heap.size, 1, none⟩ = some (.int .i64 c.ins) ∧ W.cell? ⟨w.heap.size, 2, none⟩ = some (.int .i64 c.p1) ∧ W.cell? ⟨w.heap.size, 3, none⟩ = some (.int .i64 c.p2) ∧ W.cell? ⟨w.heap.size, 4, none⟩ = some (.slice A c.data.length k) ∧ W.cell? ⟨w.heap.size, 5, none⟩ = some (.int .i64 c.le) ∧ W.cell? ⟨w.heap.size, 6, none⟩ = some (.bool c.long)) := fun W hW => box7 (w' := W) ((hW.block _ (lt_row HROW.out)).trans HROW.out)
  have HUP : Hid (∀ W, Below W0.heap.size W0 W → Below w.heap.size w W) := fun W hW => HAL.out.trans (hW.mono HAL.out.size)
  refine (HPC.out _ HAL.out).mono ?_
  rintro e w1 ⟨v1, rfl, hv1, hb1⟩
  obtain ⟨A1, n1, rfl, q1, q2, _⟩ := id hv1
  unfold maxLen at q2
  have HB1 := Lib.hid hb1
  have HV1 := Lib.hid hv1
  clear hv1 hb1
  obtain ⟨r0, r1, r2, r3, r4, r5, r6⟩ := HBX.out _ HB1.out
  go_wp2_with fail
  refine (HRC.out _ (HUP.out _ HB1.out)).mono ?_
  rintro e w2 ⟨v2, rfl, hv2, hb2⟩
  obtain ⟨A2, n2, rfl, q3, q4, _⟩ := id hv2
  unfold maxLen at q4
  have HB2 := Lib.hid (HB1.out.trans (hb2.mono HB1.out.size))
  have HV12 := Lib.hid (HV1.out.on hb2)
  have HV2 := Lib.hid hv2
  clear hv2 hb2 r0 r1 r2 r3 r4 r5 r6
  have HSM := Lib.hid (lsame_yes L _ _ w2 HV12.out HV2.out (by have := HLEN.out.1; omega))
  obtain ⟨r0, r1, r2, r3, r4, r5, r6⟩ := HBX.out _ HB2.out
  have hne : (E != E) = false := by simp
  go_wp2_with fail
  refine HSM.out.mono ?_
  rintro e w3 ⟨rfl, hb3⟩
  have HB3 := Lib.hid (HB2.out.trans (hb3.mono HB2.out.size))
  have HV13 := Lib.hid (HV12.out.on hb3)
  clear hb3 r0 r1 r2 r3 r4 r5 r6
  by_cases hE0 : E = 0
  case neg =>
    have hE1 : (E != 0) = true := by rw [bne_iff_ne]; exact hE0
    go_wp2_with fail
    refine (HEX.out _).mono ?_
    rintro e w4 ⟨rfl, hb4⟩
    have HB4 := HUP.out _ (HB3.out.trans (hb4.mono HB3.out.size))
    go_wp2_with fail
    go_ret
    exact ⟨rfl, HB4⟩
  subst hE0
  have h0 : chnE c n = 0 := HEE.out.symm
  obtain ⟨j1, j2, j3⟩ := jn_chn h0
  have hLc := HJN.out rfl
  rw [← hLc] at j1 j2 j3
  have j4 : (datL L).length ≤ 65535 := by
    unfold jnE at j1
    by_cases x1 : L.length = 0
    · rw [if_pos x1] at j1; omega
    · rw [if_neg x1] at j1
      by_cases x2 : jnK L L.length = 0
      · rw [if_pos x2] at j1
        by_cases x3 : 65535 < (datL L).length
        · rw [if_pos x3] at j1; omega
        · omega
      · rw [if_neg x2] at j1; exact absurd j1 x2
  have HPJ : Hid (∀ W, Below w3.heap.size w3 W → Calls Try.prog 37 #[.slice A1 L.length n1] W (JnR L W)) := fun W hW => pjn_any L _ W (HV13.out.on hW) HLEN.out.2 (by have := HLEN.out.1; omega) (fun k _ _ => by have := datK_le L k; omega)
  unfold JnR at HPJ
  rw [j1] at HPJ
  have HSC := Lib.hid j2
  have HJ3 := Lib.hid j3
  obtain ⟨A', k', e', _, _, HVO⟩ := HV13.out.open
  simp only [Value.slice.injEq] at e'
  obtain ⟨rfl, -, rfl⟩ := e'
  have HVO := Lib.hid HVO
  have HPK : Hid (∀ (x : Cm) (A : Option Addr) (m k : Nat) (W : World), m = x.data.length → (-9223372036854775808 ≤ x.le ∧ x.le ≤ 9223372036854775807) → chkC x = 0 → Calls Try.prog 14 #[x.val (.slice A m k)] W fun e w' => e = .returned (.int .i64 0) ∧ Below W.heap.size W w') := fun x A m k W h1 h2 h3 => by
    have := pchk_any x A m k W h1 h2
    rw [h3] at this
    exact this
  have HLN2 : Hid (∀ j, j < L.length → -9223372036854775808 ≤ (L.getD j default).le ∧ (L.getD j default).le ≤ 9223372036854775807) := fun j hj => by
    have e : L.getD j default = L[j] := by simp [List.getD, hj]
    rw [e]; exact HLEN.out.2 _ (List.getElem_mem hj)
  clear h0 j1 j2 j3 j4 hLc hne
  go_wp2_with fail
  go_loopw [9] (fun i wr => ∃ j : Nat, j ≤ L.length ∧ i = .int .i64 j ∧ Hid (Below w3.heap.size w3 wr)) (fun i _ => L.length - (intOf i).toNat)
  case atStart => exact ⟨0, Nat.zero_le _, rfl, Below.refl _ _⟩
  case round =>
    obtain ⟨j, hk, rfl, HB⟩ := hrel
    by_cases hlt : j < L.length
    case neg =>
      obtain rfl : j = L.length := by omega
      have i8 : ¬ (L.length : Int) < (L.length : Int) := by omega
      generalize jnC L = C at *
      go_wp2_with fail
      refine (HPJ.out _ HB.out).mono ?_
      rintro e w4 ⟨v4, rfl, hs4, -, hb4⟩
      obtain ⟨A4, n4, rfl, _⟩ := id hs4
      have HB4 := Lib.hid (HB3.out.trans ((HB.out.trans (hb4.mono HB.out.size)).mono HB3.out.size))
      have hba := alloc_below w4 (.cells #[.int .i64 C.cla, .int .i64 C.ins, .int .i64 C.p1, .int .i64 C.p2, .slice A4 C.data.length n4, .int .i64 C.le, .bool C.long] 24)
      have HQ := Lib.hid (heap_alloc_new w4 (.cells #[.int .i64 C.cla, .int .i64 C.ins, .int .i64 C.p1, .int .i64 C.p2, .slice A4 C.data.length n4, .int .i64 C.le, .bool C.long] 24))
      have HB5 := Lib.hid (HB4.out.trans (hba.mono HB4.out.size))
      have HS5 := Lib.hid (hs4.on hba)
      clear hs4 hb4 hba
      obtain ⟨r0, r1, r2, r3, r4, r5, r6⟩ := HBX.out _ HB5.out
      obtain ⟨s0, s1, s2, s3, s4, s5, s6⟩ := box7 (w' := w4) HQ.out
      unfold Cm.val
      go_wp2_with fail
      generalize w4.alloc (.cells #[.int .i64 C.cla, .int .i64 C.ins, .int .i64 C.p1, .int .i64 C.p2, .slice A4 C.data.length n4, .int .i64 C.le, .bool C.long] 24) = W5 at *
      have HSM2 := rsamec_any c C _ _ W5 (HM.out.on (HUP.out _ HB5.out)) HS5.out
      rw [HSC.out] at HSM2
      refine HSM2.mono ?_
      rintro e w6 ⟨rfl, hb6⟩
      have HB6 := HB5.out.trans (hb6.mono HB5.out.size)
      go_wp2_with fail
      refine (HEX.out _).mono ?_
      rintro e w7 ⟨rfl, hb7⟩
      have HB7 := HUP.out _ (HB6.trans (hb7.mono HB6.size))
      go_wp2_with fail
      go_ret
      exact ⟨rfl, HB7⟩
    have hlt' : (j : Int) < (L.length : Int) := by omega
    obtain ⟨b, o, A4, n4, rfl, hb, c0, c1, c2, c3, c4, c5, c6, -⟩ := HVO.out _ HB.out j hlt
    obtain ⟨d1, d2⟩ := HJ3.out j hlt
    have HCK := Lib.hid (HPK.out (L.getD j default) A4 _ n4 wr rfl (HLN2.out j hlt) d2)
    unfold Cm.val at HCK
    clear d2
    generalize (L.getD j default).data.length = m at *
    generalize L.getD j default = C at *
    obtain ⟨cla, ins, p1, p2, d, le, lg⟩ := C
    simp only at c0 c1 c2 c3 c5 c6 HCK
    have d1' : ¬ n < (m : Int) := by omega
    go_wp2_with fail
    refine HCK.out.mono ?_
    rintro e w5 ⟨rfl, hb5⟩
    go_wp2_with fail
    exact ⟨⟨j + 1, by omega, by go_num, HB.out.trans (hb5.mono HB.out.size)⟩, by simp [intOf]; omega⟩
end Go.Proofs.Ytjoibonbmalbdaa
