
/-
  The program's Decode of rules.
-/
import Derived.Test.YtjkbfogjfgnhiaaDoorCih
import Derived.Test.YtjkbfogjfgnhiaaDoorVau
namespace Go.Proofs.YtjkbfogjfgnhiaaDoor
set_option linter.unusedVariables false
set_option linter.unusedSimpArgs false
open Go.RowKit

/-- What Decode gives. -/
def RaP (w : World) (r : Int × List Rl) (e : Ending) (w' : World) : Prop := ∃ A c, e = .returned (.tuple #[.slice A r.2.length c, .int .i64 r.1]) ∧ RC w' (From w' w.heap.size) (.slice A r.2.length c) r.2 ∧ Below w.heap.size w w'
theorem rulF_small {t : Int} {b : List UInt8} {p : Nat} {k : Cn} (h : rulF t b = some (p, k)) : k.cnt ≤ b.length ∧ 2 * k.dep ≤ b.length + 1 := by
  unfold rulF at h
  split at h
  · cases h
  cases e : rdF b.length (b.drop 1) with
  | none => rw [e] at h; cases h
  | some q =>
    obtain ⟨c, r⟩ := q
    rw [e] at h
    cases r with
    | cons x xs => cases h
    | nil =>
      simp only [Option.some.injEq, Prod.mk.injEq] at h
      have := rdF_cnt _ _ _ _ e
      rw [h.2, List.length_drop] at this
      simp only [List.length_nil] at this
      omega
theorem val_len : ∀ (ts : List T) (k : Nat) (h : k < ts.length), ts[k].val.length ≤ (encL ts).length
  | t :: ts, 0, _ => by rw [enc_tail]; simp only [List.getElem_cons_zero, List.length_append]; omega
  | t :: ts, k + 1, h => by
    have := val_len ts k (by simpa using h)
    rw [enc_tail]
    simp only [List.getElem_cons_succ, List.length_append]
    omega

set_option maxRecDepth 100000 in
set_option maxHeartbeats 6400000 in
theorem pdeca_any (b : List UInt8) (v : Value) (w : World) (hv : SL w w.heap.size v b) (hT : Tb w) (hl : b.length ≤ 1700) : Calls Tryd.prog 31 #[v] w (RaP w (decA b)) := by
  have HD := Lib.hid (pdecode_any b v w hv)
  obtain ⟨E, ts, hdr⟩ : ∃ E ts, decR b = (E, ts) := ⟨_, _, rfl⟩
  have hdec : decA b = if E ≠ 0 then (E, []) else match rulS ts [] with | none => (4, []) | some rs => if chkR rs = 0 then (0, rs) else (4, []) := by unfold decA; rw [hdr]; rfl
  have hsm : E = 0 → ∀ (k : Nat) (h : k < ts.length), ts[k].val.length ≤ 1700 := fun he k h => by
    have := decR_ok (b := b) (by rw [hdr]; exact he)
    rw [hdr] at this
    have h2 := val_len ts k h
    rw [this.2.2] at h2
    omega
  have htl : E = 0 → ts.length ≤ 1700 := fun he => by
    have := decR_ok (b := b) (by rw [hdr]; exact he)
    rw [hdr] at this
    have h2 := encL_count ts
    rw [this.2.2] at h2
    omega
  rw [hdr] at HD
  obtain ⟨R, hR⟩ : ∃ R, R = decA b := ⟨_, rfl⟩
  rw [← hR] at hdec ⊢
  have HR := Lib.hid hdec
  have HSM := Lib.hid hsm
  have HTL := Lib.hid htl
  have HT := Lib.hid hT
  obtain ⟨A, c, rfl, h1, h2, h3⟩ := hv
  clear hdr hdec hsm htl hT h3 hR hl
  by_cases hE : E = 0
  case neg =>
    have hE' : (E != 0) = true := by rw [bne_iff_ne]; exact hE
    have hRn : Hid (R = (E, [])) := by show _ = _; rw [HR.out, if_pos hE]
    clear hE HR
    go_enter Tryd.func31, Tryd.ntmps31
    go_wp2_with (go_at_call 57; refine HD.out.mono ?_; rintro e w2 ⟨A2, c2, rfl, hk2, hb2⟩)
    go_ret2
    rw [hRn.out]
    exact ⟨none, 0, rfl, RC.nil _ _ _ _ (Nat.zero_le _), hb2⟩
  subst hE
  have HS := Lib.hid (HSM.out rfl)
  have HL := Lib.hid (HTL.out rfl)
  have HR2 : Hid (R = match rulS ts [] with | none => (4, []) | some rs => if chkR rs = 0 then (0, rs) else (4, [])) := by show _ = _; rw [HR.out, if_neg (fun h => h rfl)]
  clear HR HSM HTL
  go_enter Tryd.func31, Tryd.ntmps31
  go_wp2_with (go_at_call 57; refine HD.out.mono ?_; rintro e w1 ⟨A1, c1, rfl, hk1, hb1⟩; have hk2 := hk1.tl (B := w1.heap.size) (fun _ h => h.2); clear hk1)
  obtain ⟨A1', c1', hva, g1, g2, g3⟩ := hk2
  injection hva with ea eb ec
  subst ea
  subst ec
  have HB1 := Lib.hid hb1
  clear hb1
  unfold maxLen at g2
  go_loopw [6, 21] (fun v6 i wr => ∃ (k : Nat) (rs : List Rl) (A6 : Option Addr) (c6 : Nat), k ≤ ts.length ∧ i = .int .i64 k ∧ v6 = .slice A6 rs.length c6 ∧ Hid (OR wr w1.heap.size v6 rs) ∧ Hid (rulS ts [] = rulS (ts.drop k) rs) ∧ Hid (Below w1.heap.size w1 wr) ∧ Hid (rs.length = k) ∧
      Hid (∀ (j : Nat) (h : j < rs.length), rs[j].cond.cnt ≤ 2900000 ∧ rs[j].cond.dep ≤ 900)) (fun _ i _ => ts.length - (intOf i).toNat)
  case atStart => exact ⟨0, [], none, 0, Nat.zero_le _, rfl, rfl, OR.nil _ _, rfl, Below.refl _ _, rfl, fun j h => absurd h (by simp)⟩
  case round =>
    obtain ⟨k, rs, A6, c6, hkl, rfl, rfl, hor, hrs, hbel, hlen, hsm⟩ := hrel
    by_cases hlt : k < ts.length
    · obtain ⟨b1, o1, rfl, hb1, hts⟩ := g3.out (by omega)
      have hta := TAt.keep hbel.out.size (fun p hp => hbel.out.cell hp) _ _ _ hb1 (TsAt.get hts hlt)
      have hdr := rulS_drop ts k hlt rs
      have hvl := HS.out k hlt
      obtain ⟨t, ht⟩ : ∃ t, t = ts[k] := ⟨_, rfl⟩
      rw [← ht] at hta hdr hvl
      clear hts ht
      obtain ⟨tag, val, kids⟩ := t
      obtain ⟨Av, cv, Ak0, ck0, q0, q1, q2, hsl, htk⟩ := hta.cells
      simp only [T.tag, T.val, T.kids] at q0 q1 q2 hsl hdr hvl
      have hba := alloc_below wr (Obj.cells #[.int .i64 tag, .slice Av val.length cv, .slice Ak0 kids.length ck0] 70)
      have HRU := Lib.hid (rrule_any tag val (.slice Av val.length cv) (.slice Ak0 kids.length ck0) _ wr.heap.size (by rw [alloc_size]; omega) ((HT.out.on (HB1.out.trans (hbel.out.mono HB1.out.size))).on hba) (hsl.below hba) ⟨_, _, _, rfl⟩)
      have HDR := Lib.hid hdr
      have HVL := Lib.hid hvl
      have HBA := Lib.hid hba
      have horl := Lib.hid hor.out.ltB
      have hsw := hbel.out.size
      clear hdr hvl hba htk hsl hta
      go_wp2_with (first
        | (go_at_call 58; refine HRU.out.mono ?_; rintro e w2 ⟨hb2, h⟩; rcases h with ⟨hno, rfl⟩ | ⟨p, kc, Ak, ck, hso, rfl, hkc⟩; rotate_left; have HSO := Lib.hid hso; have HKC := Lib.hid hkc; have HB2 := Lib.hid hb2; clear hso hkc hb2; rotate_left)
        | (at_builtin; refine wpList_appR rfl (.tmp 32) (.tmp 34) rfl w1.heap.size _ rs ⟨(p : Int), kc⟩ (.slice Ak kc.kids.length ck) (w2.heap.size + 1) (wr.heap.size + 1) rfl rfl ((hor.out.later (HBA.out.trans (HB2.out.mono HBA.out.size))).later (alloc2_below w2 _ _)) ((HKC.out.fromMore (by rw [alloc_size]; omega)).on (alloc2_below w2 _ _)) (fun b hb => Nat.lt_succ_of_lt (horl.out b hb).2) (Nat.le_succ_of_le hsw) (heap2_new w2 _ _) (by have := hlen.out; have := HL.out; omega) (by have := HBA.out.size; have := HB2.out.size; have := (alloc2_below w2 (Obj.cells #[.int .i64 (p : Int), .int .i64 kc.op, .int .i64 kc.n, .slice Ak kc.kids.length ck] 53) (Obj.cells #[.int .i64 (p : Int), .int .i64 kc.op, .int .i64 kc.n, .slice Ak kc.kids.length ck] 53)).size; omega) ?_; intro v5 w5 hor5 hb5; obtain ⟨A5, c5, rfl⟩ := hor5.value; have HOR5 := Lib.hid hor5; have HB5 := Lib.hid hb5; clear hor5 hb5))
      · have hRn : R = (4, []) := by rw [HR2.out, hrs.out, HDR.out, hno]
        rw [hRn]
        go_ret2
        have hb3 := HBA.out.trans (hb2.mono HBA.out.size)
        have hb4 := hbel.out.trans ((hb3.trans ((alloc_below w2 (Obj.cells #[.int .i64 0, .int .i64 0, .int .i64 0, .slice none 0 0] 53)).mono (Nat.le_trans (by rw [alloc_size]; omega) hb2.size))).mono hsw)
        exact ⟨none, 0, rfl, RC.nil _ _ _ _ (Nat.zero_le _), HB1.out.trans (hb4.mono HB1.out.size)⟩
      · have hb2 := HB2.out
        have hw2 : wr.heap.size ≤ w2.heap.size := Nat.le_trans (by rw [alloc_size]; omega) hb2.size
        have hbw : Below w1.heap.size w1 w5 := (hbel.out.trans ((HBA.out.trans (hb2.mono HBA.out.size)).mono hsw)).trans (((alloc2_below w2 _ _).mono (Nat.le_trans hsw hw2)).trans HB5.out)
        have hl2 : (rs ++ [(⟨(p : Int), kc⟩ : Rl)]).length = rs.length + 1 := by simp
        go_roundw
        case rel =>
          refine ⟨k + 1, rs ++ [(⟨(p : Int), kc⟩ : Rl)], A5, c5, by omega, by go_num, by rw [hl2], ?_, ?_, hbw, ?_, ?_⟩
          · show OR _ _ _ _
            have h7 := HOR5.out
            rw [hl2] at h7
            exact h7
          · show _ = _
            rw [hrs.out, HDR.out, HSO.out]
          · show _ = _
            rw [hl2, hlen.out]
          · intro j hj
            rw [hl2] at hj
            by_cases hjl : j < rs.length
            · rw [List.getElem_append_left hjl]; exact hsm.out j hjl
            · have hje : j = rs.length := by omega
              subst hje
              have h5 := rulF_small HSO.out
              have := HVL.out
              rw [List.getElem_append_right (Nat.le_refl _)]
              simp only [Nat.sub_self, List.getElem_cons_zero]
              omega
        case measure => simp [intOf]; omega
    · have hke : k = ts.length := by omega
      have hR3 : Hid (R = if chkR rs = 0 then (0, rs) else (4, [])) := by
        show _ = _
        rw [HR2.out, hrs.out, hke, List.drop_length]
        rfl
      have HRC := Lib.hid hor.out.rc
      have hb9 := HB1.out.trans (hbel.out.mono HB1.out.size)
      have HPC := Lib.hid (pchr_anyU rs (.slice A6 rs.length c6) wr HRC.out.rlF (HT.out.on hb9) hsm.out)
      have HB9 := Lib.hid hb9
      clear hb9 g3
      subst hke
      generalize hX : chkR rs = X at *
      clear hX
      by_cases hX0 : X = 0
      · subst hX0
        rw [if_pos rfl] at hR3
        go_wp2_with (go_at_call 22; refine HPC.out.mono ?_; rintro e w2 ⟨rfl, hb2⟩)
        go_ret2
        rw [hR3.out]
        exact ⟨A6, c6, rfl, (HRC.out.on hb2).fromMore HB1.out.size, HB9.out.trans (hb2.mono HB9.out.size)⟩
      · rw [if_neg hX0] at hR3
        have hX1 : (X != 0) = true := by rw [bne_iff_ne]; exact hX0
        clear hX0
        go_wp2_with (go_at_call 22; refine HPC.out.mono ?_; rintro e w2 ⟨rfl, hb2⟩)
        go_ret2
        rw [hR3.out]
        exact ⟨none, 0, rfl, RC.nil _ _ _ _ (Nat.zero_le _), HB9.out.trans (hb2.mono HB9.out.size)⟩
end Go.Proofs.YtjkbfogjfgnhiaaDoor
