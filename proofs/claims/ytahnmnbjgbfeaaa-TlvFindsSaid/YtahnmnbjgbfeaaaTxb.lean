/-
  The walk of writeLines.
-/
import Derived.Test.YtahnmnbjgbfeaaaTxa
namespace Go.Proofs.Ytahnmnbjgbfeaaa
set_option linter.unusedVariables false
set_option linter.unusedSimpArgs false
open Go.RowKit

mutual
/-- The lines of an object at depth c + 1. -/
def T.text (c : Nat) : T → List UInt8
  | .mk tag val kids => Lib.repeatL [32, 32] c ++ (hexL (tagF tag) ++ ((if 0 < val.length then 32 :: hexL val else []) ++ (10 :: textL (c + 1) kids)))
def textL (c : Nat) : List T → List UInt8
  | [] => []
  | t :: ts => t.text c ++ textL c ts
end
theorem text_parts (c : Nat) (t : T) : t.text c = Lib.repeatL [32, 32] c ++ (hexL (tagF t.tag) ++ ((if 0 < t.val.length then 32 :: hexL t.val else []) ++ (10 :: textL (c + 1) t.kids))) := by
  cases t; rw [T.text]; rfl
theorem textL_take (c : Nat) (ts : List T) (k : Nat) (h : k < ts.length) : textL c (ts.take (k + 1)) = textL c (ts.take k) ++ (ts[k]).text c := by
  induction ts generalizing k with
  | nil => simp at h
  | cons t ts ih =>
    cases k with
    | zero => simp [textL]
    | succ k =>
      have := ih k (by simpa using h)
      simp [textL] at this ⊢
      rw [this]
theorem textL_split (c : Nat) (ts : List T) (k : Nat) : textL c ts = textL c (ts.take k) ++ textL c (ts.drop k) := by
  induction ts generalizing k with
  | nil => simp [textL]
  | cons t ts ih =>
    cases k with
    | zero => simp [textL]
    | succ k => simp [textL]; exact ih k

theorem pws' (B b : Nat) (l x : List UInt8) (w : World) (h : TB w B b l) (hlen : (l ++ x).length ≤ 100000000000) :
    Calls Try.prog 95 #[.pointer (some ⟨b, 0, none⟩), .string ⟨x.toArray⟩] w fun e w' => e = .returned (.tuple #[.int .i64 (x.length : Int), .nilIface]) ∧ TB w' B b (l ++ x) ∧ Below B w w' ∧ WK w w' := by
  have := pws B b l ⟨x.toArray⟩ w h (by simpa [ByteArray.size] using hlen)
  simpa [ByteArray.size] using this

theorem space_app (P : List UInt8) : (⟨#[32]⟩ : ByteArray) ++ ⟨P.toArray⟩ = ⟨(32 :: P).toArray⟩ := by
  apply ByteArray.ext
  rw [ByteArray.data_append]
  simp

def LinC (c : Nat) (ts : List T) : Prop := ∀ (B b : Nat) (l : List UInt8) (v : Value) (w : World), TL w B v ts → TB w B b l → (l ++ textL c ts).length ≤ 300000 →
  Calls Try.prog 82 #[.pointer (some ⟨b, 0, none⟩), v, .int .i64 ((c : Int) + 1)] w fun e w' => e = .returned (.tuple #[]) ∧ TB w' B b (l ++ textL c ts) ∧ Below B w w'

set_option maxRecDepth 100000 in
set_option maxHeartbeats 3200000 in
theorem lin_step (ts : List T) (c : Nat) (ih : ∀ (ts' : List T), depL ts' < depL ts → c + 1 ≤ 9 → okL ((c : Int) + 1 + 1) ts' = true → LinC (c + 1) ts')
    (hc : c ≤ 9) (hok : okL ((c : Int) + 1) ts = true) : LinC c ts := by
  intro B b l v w hv htb hlen
  have IH := Lib.hid ih
  have HOK := Lib.hid hok
  have HLEN := Lib.hid hlen
  clear ih hok hlen
  obtain ⟨A, cp, rfl, h1, h2, h3⟩ := hv
  unfold maxLen at h2
  obtain ⟨hBb, hbw⟩ := htb.base
  have hBw : B ≤ w.heap.size := by omega
  go_enter Try.func82, Try.ntmps82
  go_wp2_with fail
  go_loopw [10] (fun i wr => ∃ k : Nat, k ≤ ts.length ∧ i = .int .i64 k ∧ TB wr B b (l ++ textL c (ts.take k)) ∧ Below B w wr) (fun i _ => ts.length - (intOf i).toNat)
  case atStart => exact ⟨0, Nat.zero_le _, rfl, by simpa [textL] using htb, Below.refl _ _⟩
  case round =>
    obtain ⟨k, hk, rfl, htr, hbel⟩ := hrel
    by_cases hkl : k < ts.length
    · obtain ⟨bt, o, rfl, hb, hts⟩ := h3.out (by omega)
      have hta := TsAt.get hts hkl
      have hdp := depL_get ts k hkl
      have hob := ok_obj (okL_get _ ts k hkl HOK.out)
      have hc8 : c + 1 ≤ 9 := by
        have := okL_get _ ts k hkl HOK.out
        rw [ok_parts] at this
        simp only [Bool.and_eq_true, decide_eq_true_eq] at this
        omega
      have htk := textL_take c ts k hkl
      have hsp := textL_split c ts (k + 1)
      obtain ⟨t, ht⟩ : ∃ t, t = ts[k] := ⟨_, rfl⟩
      rw [← ht] at hta hdp hob htk
      rw [← dep_kids] at hdp
      obtain ⟨t1, t2, hkok⟩ := hob
      have hih := IH.out t.kids (by omega) hc8 hkok
      clear hc8
      unfold LinC at hih
      have ec : ((c + 1 : Nat) : Int) + 1 = (c : Int) + 1 + 1 := by omega
      simp only [ec] at hih
      clear ec
      have hta' := TAt.keep (Nat.le_refl _) (fun p hp => hbel.cell hp) t bt _ hb hta
      obtain ⟨A1, c1, A2, c2, g1, g2, g3, hv1, hu1⟩ := hta'.cells
      have hsz := hbel.size
      have htp := text_parts c t
      obtain ⟨tag, htag⟩ : ∃ x, x = t.tag := ⟨_, rfl⟩
      rw [← htag] at t1 t2 g1 htp
      obtain ⟨V, hV⟩ : ∃ x, x = t.val.length := ⟨_, rfl⟩
      rw [← hV] at g2 hv1 htp
      obtain ⟨M, hM⟩ : ∃ x, x = t.kids.length := ⟨_, rfl⟩
      rw [← hM] at g3 hu1
      obtain ⟨L, hL⟩ : ∃ x, x = l ++ textL c (ts.take k) := ⟨_, rfl⟩
      rw [← hL] at htr
      have HT := Lib.hid htp
      have HTK := Lib.hid htk
      have HI := Lib.hid hih
      have HL := Lib.hid hL
      have HVl := Lib.hid hV
      have htot : Hid ((L ++ t.text c).length ≤ 300000) := by
        show _ ≤ _
        have := HLEN.out
        rw [hsp, htk] at this
        rw [hL]
        simp at this ⊢
        omega
      have hbw2 : B ≤ wr.heap.size := by omega
      have hrow := heap_alloc_new wr (Obj.cells #[Value.int IntKind.i64 tag, Value.slice A1 V c1, Value.slice A2 M c2] 58)
      have hba := alloc_below wr (Obj.cells #[Value.int IntKind.i64 tag, Value.slice A1 V c1, Value.slice A2 M c2] 58)
      have htra := htr.on hba
      clear hts hta hta' ht hdp hkok hih htag hV hM hsp htk hL htr htp
      have hlens : L.length + ((Lib.repeatL [32, 32] c).length + ((hexL (tagF tag)).length + ((if 0 < V then 32 :: hexL t.val else []).length + (1 + (textL (c + 1) t.kids).length)))) ≤ 300000 := by
        have := htot.out
        rw [HT.out] at this
        simp only [List.length_append, List.length_cons] at this ⊢
        omega
      obtain ⟨P1, hP1⟩ : ∃ P, P = Lib.repeatL [32, 32] c := ⟨_, rfl⟩
      obtain ⟨P2, hP2⟩ : ∃ P, P = hexL (tagF tag) := ⟨_, rfl⟩
      obtain ⟨Q, hQ⟩ : ∃ P, P = textL (c + 1) t.kids := ⟨_, rfl⟩
      rw [← hP1, ← hP2, ← hQ] at hlens
      have hphex := fun v W hv => phex_any (tagF tag) v W hv (by unfold tagF; split <;> simp [putL_length])
      rw [← hP2] at hphex
      have HHEX := Lib.hid hphex
      have HTF := Lib.hid (fun W => tagF_any tag W t1 t2)
      have HI2 := HI.out
      rw [← hQ] at HI2
      have HT2 : Hid (T.text c t = P1 ++ (P2 ++ ((if 0 < V then 32 :: hexL t.val else []) ++ 10 :: Q))) := by show _ = _; rw [HT.out, hP1, hP2, hQ]
      have HP1 := Lib.hid hP1
      have HI3 := Lib.hid HI2
      clear HI HI2 HT hphex hP1 hP2 hQ
      by_cases hV0 : 0 < V
      case neg =>
        have hz : Hid (T.text c t = P1 ++ (P2 ++ ([] ++ 10 :: Q))) := by show _ = _; rw [HT2.out, if_neg hV0]
        rw [if_neg hV0] at hlens
        clear HT2
        simp only [List.length_nil] at hlens
        go_wp2_with fail
        refine (Try.strings_Repeat ⟨#[32, 32]⟩ c _ (by omega) (by show 2 * c ≤ _; omega)).mono ?_
        rintro e w1 ⟨rfl, hb1⟩
        have k1 := hb1.size
        have es := alloc_size wr (Obj.cells #[Value.int IntKind.i64 tag, Value.slice A1 V c1, Value.slice A2 M c2] 58)
        have hr1 := Below.wk hb1 _ _ hrow
        have T1 := htra.on hb1
        have B1 : Below B wr w1 := (hba.mono hbw2).trans (hb1.mono (by omega))
        clear hb1 hrow hba htra
        go_wp2_with fail
        have ep : (Lib.repeatL [32, 32] c) = P1 := HP1.out.symm
        rw [ep]
        refine (pws' B b L P1 w1 T1 (by simp; omega)).mono ?_
        rintro e w2 ⟨rfl, T2, hb2, hk2⟩
        have k2 := hb2.size
        have hr2 := hk2 _ _ hr1
        have q0 : w2.cell? ⟨wr.heap.size, 0, none⟩ = some (.int .i64 tag) := cell_of_row _ _ 0 _ _ _ hr2
        have B2 := B1.trans hb2
        clear hb2 hk2
        go_wp2_with fail
        refine (HTF.out w2).mono ?_
        rintro e w3 ⟨v3, rfl, hv3, hb3⟩
        have k3 := hb3.size
        obtain ⟨A3, c3, rfl, _⟩ := id hv3
        go_wp2_with fail
        refine (HHEX.out _ w3 hv3).mono ?_
        rintro e w4 ⟨rfl, hb4⟩
        have k4 := hb4.size
        have hr4 := (Below.wk hb4) _ _ ((Below.wk hb3) _ _ hr2)
        have T4 := (T2.on hb3).on hb4
        have B4 := B2.trans ((hb3.trans (hb4.mono k3)).mono (by omega))
        clear hb3 hb4
        go_wp2_with fail
        refine (pws' B b (L ++ P1) P2 w4 T4 (by simp; omega)).mono ?_
        rintro e w5 ⟨rfl, T5, hb5, hk5⟩
        have k5 := hb5.size
        have hr5 := hk5 _ _ hr4
        have q1 : w5.cell? ⟨wr.heap.size, 1, none⟩ = some (.slice A1 V c1) := cell_of_row _ _ 1 _ _ _ hr5
        have B5 := B4.trans hb5
        clear hb5 hk5
        go_wp2_with fail
        refine (pws' B b (L ++ P1 ++ P2) [10] w5 T5 (by simp; omega)).mono ?_
        rintro e w8 ⟨rfl, T8, hb8, hk8⟩
        have k8 := hb8.size
        have hr8 := hk8 _ _ hr5
        have q2 : w8.cell? ⟨wr.heap.size, 2, none⟩ = some (.slice A2 M c2) := cell_of_row _ _ 2 _ _ _ hr8
        have B8 := B5.trans hb8
        clear hb8 hk8
        go_wp2_with fail
        refine (HI3.out B b (L ++ P1 ++ P2 ++ [10]) _ w8 (hu1.below B8) T8 (by simp; omega)).mono ?_
        rintro e w9 ⟨rfl, T9, hb9⟩
        have B9 := B8.trans hb9
        go_wp2_with fail
        go_roundw
        case rel =>
          refine ⟨k + 1, by omega, by go_num, ?_, hbel.trans B9⟩
          rw [HTK.out, hz.out, ← List.append_assoc, ← HL.out]
          simpa using T9
        case measure => simp [intOf]; omega
      rw [if_pos hV0] at hlens
      have hvl : t.val.length ≤ 200000 := by
        rw [List.length_cons, hexL_length] at hlens
        omega
      have HT3 : Hid (T.text c t = P1 ++ (P2 ++ ((32 :: hexL t.val) ++ 10 :: Q))) := by show _ = _; rw [HT2.out, if_pos hV0]
      clear HT2
      obtain ⟨P3, hP3⟩ : ∃ P, P = hexL t.val := ⟨_, rfl⟩
      rw [← hP3] at hlens HT3
      have hhv := fun v W hv => phex_any t.val v W hv hvl
      simp only [← hP3] at hhv
      have HHV := Lib.hid hhv
      clear hhv hvl
      simp only [List.length_cons] at hlens
      have HP3 := Lib.hid hP3
      clear hP3
      go_wp2_with fail
      refine (Try.strings_Repeat ⟨#[32, 32]⟩ c _ (by omega) (by show 2 * c ≤ _; omega)).mono ?_
      rintro e w1 ⟨rfl, hb1⟩
      have k1 := hb1.size
      have es := alloc_size wr (Obj.cells #[Value.int IntKind.i64 tag, Value.slice A1 V c1, Value.slice A2 M c2] 58)
      have hr1 := Below.wk hb1 _ _ hrow
      have T1 := htra.on hb1
      have B1 : Below B wr w1 := (hba.mono hbw2).trans (hb1.mono (by omega))
      clear hb1 hrow hba htra
      go_wp2_with fail
      have ep : (Lib.repeatL [32, 32] c) = P1 := HP1.out.symm
      rw [ep]
      refine (pws' B b L P1 w1 T1 (by simp; omega)).mono ?_
      rintro e w2 ⟨rfl, T2, hb2, hk2⟩
      have k2 := hb2.size
      have hr2 := hk2 _ _ hr1
      have q0 : w2.cell? ⟨wr.heap.size, 0, none⟩ = some (.int .i64 tag) := cell_of_row _ _ 0 _ _ _ hr2
      have B2 := B1.trans hb2
      clear hb2 hk2
      go_wp2_with fail
      refine (HTF.out w2).mono ?_
      rintro e w3 ⟨v3, rfl, hv3, hb3⟩
      have k3 := hb3.size
      obtain ⟨A3, c3, rfl, _⟩ := id hv3
      go_wp2_with fail
      refine (HHEX.out _ w3 hv3).mono ?_
      rintro e w4 ⟨rfl, hb4⟩
      have k4 := hb4.size
      have hr4 := (Below.wk hb4) _ _ ((Below.wk hb3) _ _ hr2)
      have T4 := (T2.on hb3).on hb4
      have B4 := B2.trans ((hb3.trans (hb4.mono k3)).mono (by omega))
      clear hb3 hb4
      go_wp2_with fail
      refine (pws' B b (L ++ P1) P2 w4 T4 (by simp; omega)).mono ?_
      rintro e w5 ⟨rfl, T5, hb5, hk5⟩
      have k5 := hb5.size
      have hr5 := hk5 _ _ hr4
      have q1 : w5.cell? ⟨wr.heap.size, 1, none⟩ = some (.slice A1 V c1) := cell_of_row _ _ 1 _ _ _ hr5
      have B5 := B4.trans hb5
      clear hb5 hk5
      go_wp2_with fail
      refine (HHV.out _ w5 ((hv1.below B5).more (by omega))).mono ?_
      rintro e w6 ⟨rfl, hb6⟩
      have k6 := hb6.size
      have hr6 := (Below.wk hb6) _ _ hr5
      have T6 := T5.on hb6
      have B6 := B5.trans (hb6.mono (by omega))
      clear hb6
      go_wp2_with fail
      rw [space_app]
      refine (pws' B b (L ++ P1 ++ P2) (32 :: P3) w6 T6 (by simp; omega)).mono ?_
      rintro e w7 ⟨rfl, T7, hb7, hk7⟩
      have k7 := hb7.size
      have hr7 := hk7 _ _ hr6
      have B7 := B6.trans hb7
      clear hb7 hk7
      go_wp2_with fail
      refine (pws' B b (L ++ P1 ++ P2 ++ (32 :: P3)) [10] w7 T7 (by simp; omega)).mono ?_
      rintro e w8 ⟨rfl, T8, hb8, hk8⟩
      have k8 := hb8.size
      have hr8 := hk8 _ _ hr7
      have q2 : w8.cell? ⟨wr.heap.size, 2, none⟩ = some (.slice A2 M c2) := cell_of_row _ _ 2 _ _ _ hr8
      have B8 := B7.trans hb8
      clear hb8 hk8
      go_wp2_with fail
      refine (HI3.out B b (L ++ P1 ++ P2 ++ (32 :: P3) ++ [10]) _ w8 (hu1.below B8) T8 (by simp; omega)).mono ?_
      rintro e w9 ⟨rfl, T9, hb9⟩
      have B9 := B8.trans hb9
      go_wp2_with fail
      go_roundw
      case rel =>
        refine ⟨k + 1, by omega, by go_num, ?_, hbel.trans B9⟩
        rw [HTK.out, HT3.out, ← List.append_assoc, ← HL.out]
        simpa using T9
      case measure => simp [intOf]; omega
    · have hke : k = ts.length := by omega
      rw [hke, List.take_length] at htr
      go_wp2_with fail
      go_end0
      exact ⟨rfl, htr, hbel⟩
theorem lin_any : ∀ (n : Nat) (ts : List T) (c : Nat), depL ts < n → c ≤ 9 → okL ((c : Int) + 1) ts = true → LinC c ts
  | 0, ts, c, h, _, _ => absurd h (by omega)
  | n + 1, ts, c, h, hc, hok => lin_step ts c (fun ts' h' hc' hk => lin_any n ts' (c + 1) (by omega) hc' (by rw [show ((c + 1 : Nat) : Int) + 1 = (c : Int) + 1 + 1 by omega]; exact hk)) hc hok

/-- What Text answers. -/
def txtM (ts : List T) : List UInt8 := if okL 1 ts = true then (if 4096 < (encL ts).length then [] else textL 0 ts) else []

theorem TB.fresh (w : World) : TB (w.alloc (.cells #[.pointer none, .slice none 0 0] 84)) w.heap.size w.heap.size [] :=
  .inl ⟨Nat.le_refl _, .slice none 0 0, heap_alloc_new w _, World.ownsRow_nil .., by simp [Value.ownBlock]⟩

set_option maxRecDepth 100000 in
set_option maxHeartbeats 1600000 in
theorem ptext_any (ts : List T) (v : Value) (w : World) (hv : TL w w.heap.size v ts) (hs : (encL ts).length ≤ 100000) (ht : (txtM ts).length ≤ 300000) :
    Calls Try.prog 60 #[v] w fun e w' => e = .returned (.string ⟨(txtM ts).toArray⟩) ∧ Below w.heap.size w w' := by
  have HE := Lib.hid (pencode_any ts v w hv hs)
  have HV := Lib.hid hv
  have HT := Lib.hid ht
  obtain ⟨A, c, rfl, h1, h2, h3⟩ := hv
  clear hs ht
  by_cases hok : okL 1 ts = true ∧ ¬ 4096 < (encL ts).length
  · have he : encE ts = 0 := by unfold encE; rw [if_pos hok.1, if_neg hok.2]
    have hm : txtM ts = textL 0 ts := by unfold txtM; rw [if_pos hok.1, if_neg hok.2]
    have HEE := HE.out
    rw [he] at HEE
    have hlc := lin_any (depL ts + 1) ts 0 (by omega) (by omega) hok.1
    unfold LinC at hlc
    have e0 : ((0 : Nat) : Int) + 1 = 1 := rfl
    simp only [e0, ← hm] at hlc
    have HL := Lib.hid hlc
    have HEE' := Lib.hid HEE
    obtain ⟨X, hX⟩ : ∃ X, X = txtM ts := ⟨_, rfl⟩
    rw [← hX] at HT
    simp only [← hX] at HL
    rw [← hX]
    clear HE HEE hlc he hm hok e0 hX
    go_enter Try.func60, Try.ntmps60
    go_wp2_with (go_at_call 50; refine HEE'.out.mono ?_; rintro e w2 ⟨v2, rfl, hv2, hb2⟩)
    refine (HL.out w2.heap.size w2.heap.size [] _ _ ((HV.out.on hb2).below (alloc_below _ _)) (TB.fresh w2) (by simpa using HT.out)).mono ?_
    rintro e w3 ⟨rfl, T3, hb3⟩
    go_wp2_with fail
    refine (Try.Builder_String_any w2.heap.size w2.heap.size X w3 T3 (by have := T3.base; omega)).mono ?_
    rintro e w4 ⟨rfl, hb4⟩
    go_wp2_with fail
    go_ret
    exact ⟨rfl, hb2.trans ((((alloc_below _ _).trans hb3).trans hb4).mono hb2.size)⟩
  · have he : (encE ts == 0) = false := by
      unfold encE
      by_cases h : okL 1 ts = true
      · rw [if_pos h, if_pos (by simpa [h] using hok)]; rfl
      · rw [if_neg h]; rfl
    have hm : txtM ts = [] := by
      unfold txtM
      by_cases h : okL 1 ts = true
      · rw [if_pos h, if_pos (by simpa [h] using hok)]
      · rw [if_neg h]
    rw [hm]
    clear hm hok HT
    go_enter Try.func60, Try.ntmps60
    go_wp2_with (go_at_call 50; refine HE.out.mono ?_; rintro e w2 ⟨v2, rfl, hv2, hb2⟩)
    go_ret
    exact ⟨rfl, hb2⟩
end Go.Proofs.Ytahnmnbjgbfeaaa
