/-
  The reference of layer 2: Hex.
  The reference: lines.
  The reference: the walk of lines.
-/
import Derived.Test.YtahnmnbjgbfeaaaOpt
namespace Go.Proofs.Ytahnmnbjgbfeaaa
set_option linter.unusedVariables false
set_option linter.unusedSimpArgs false
open Go.RowKit


set_option maxRecDepth 100000 in
set_option maxHeartbeats 800000 in
theorem rhex2_any (l : List UInt8) (v : Value) (w : World) (B : Nat) (hl : SL w B v l) (hs : l.length ≤ 200000) :
    Calls Try.prog 97 #[v] w fun e w' => e = .returned (.string ⟨(hexL l).toArray⟩) ∧ ∃ n, w' = w.drewN n := by
  obtain ⟨A1, c1, rfl, h11, h12, h13⟩ := hl
  unfold maxLen at h12
  go_enter Try.func97, Try.ntmps97
  go_wp2_with fail
  go_loopw [4, 5] (fun o i wr => ∃ k : Nat, k ≤ l.length ∧ i = .int .i64 k ∧ o = .string ⟨(hexL (l.take k)).toArray⟩ ∧ ∃ n, wr = w.drewN n) (fun _ i _ => l.length - (intOf i).toNat)
  case atStart => exact ⟨0, Nat.zero_le _, rfl, rfl, 0, rfl⟩
  case round =>
    obtain ⟨k, hk, rfl, rfl, n, rfl⟩ := hrel
    by_cases h1 : k < l.length
    · obtain ⟨b1, o1, rfl, hb1, hc1⟩ := h13 (by omega)
      obtain ⟨X, hX⟩ : ∃ X, X = (l.getD k 0).toNat := ⟨_, rfl⟩
      have g1 := hc1 k h1
      rw [← hX] at g1
      have hx : X < 256 := by rw [hX]; exact UInt8.toNat_lt _
      have i0' : (0 : Int) ≤ (k : Int) := by omega
      have i1' : (k : Int) < (l.length : Int) := by omega
      have hA := fun W => sub_any W (X / 16) (by omega) ((X : Int) / 16) ((X : Int) / 16 + 1) (by omega) (by omega)
      have hB := fun W => sub_any W (X % 16) (by omega) ((X : Int) % 16) ((X : Int) % 16 + 1) (by omega) (by omega)
      have hwA : IntKind.u8.wrap ((X : Int) / 16 + 1) = (X : Int) / 16 + 1 := by rw [IntKind.wrap_u8']; omega
      have hwB : IntKind.u8.wrap ((X : Int) % 16 + 1) = (X : Int) % 16 + 1 := by rw [IntKind.wrap_u8']; omega
      have HX := Lib.hid hX
      have hcon := hexL_take l k h1
      rw [← hX] at hcon
      obtain ⟨T, hT⟩ : ∃ T, T = hexL (l.take k) := ⟨_, rfl⟩
      have hTl : T.length ≤ 400000 := by rw [hT, hexL_length]; simp; omega
      rw [← hT] at hcon ⊢
      have HC := Lib.hid hcon
      have HT := Lib.hid hT
      clear hX hc1 hcon hT
      go_wp2_with fail
      go_quiet (fail)
      go_wp2_with fail
      go_roundw
      case rel => exact ⟨k + 1, by omega, by go_num, by rw [HC.out, ← str2], n + nq, rfl⟩
      case measure => simp [intOf]; omega
    · have hkl : k = l.length := by omega
      subst hkl
      go_wp2_with fail
      go_ret
      exact ⟨by simp, n, rfl⟩



theorem repeatL_succ (c : Nat) : Lib.repeatL [32, 32] (c + 1) = Lib.repeatL [32, 32] c ++ [32, 32] := by
  induction c with
  | zero => rfl
  | succ c ih =>
    show [32, 32] ++ Lib.repeatL [32, 32] (c + 1) = ([32, 32] ++ Lib.repeatL [32, 32] c) ++ [32, 32]
    rw [ih, List.append_assoc]
theorem app_mk (a b : List UInt8) : (⟨a.toArray⟩ : ByteArray) ++ ⟨b.toArray⟩ = ⟨(a ++ b).toArray⟩ := by
  apply ByteArray.ext
  rw [ByteArray.data_append]
  simp

def LineC (c : Nat) (ts : List T) : Prop := ∀ (v : Value) (w : World), TL w w.heap.size v ts → (Lib.repeatL [32, 32] c).length + (textL c ts).length ≤ 300000 →
  Calls Try.prog 84 #[v, .string ⟨(Lib.repeatL [32, 32] c).toArray⟩] w fun e w' => e = .returned (.string ⟨(textL c ts).toArray⟩) ∧ Below w.heap.size w w'

/-- Hex of one byte that has just been laid. -/
theorem hex_byte (w : World) (y : UInt8) (z : Int) (hz : z = (y.toNat : Int)) :
    Calls Try.prog 97 #[.slice (some ⟨w.heap.size, 0, none⟩) 1 1] (w.alloc (.cells #[.int .u8 z] 5)) fun e w' => e = .returned (.string ⟨(hexL [y]).toArray⟩) ∧ Below w.heap.size w w' := by
  refine (rhex2_any [y] _ _ _ (SL.new w _ [y] (by simp [bv]; exact hz) (by simp)) (by simp)).mono ?_
  rintro e w' ⟨rfl, n, rfl⟩
  exact ⟨rfl, (alloc_below w _).trans (drewN_below _ _ n)⟩
theorem hex_slice (l : List UInt8) (v : Value) (w : World) (hl : SL w w.heap.size v l) (hs : l.length ≤ 200000) :
    Calls Try.prog 97 #[v] w fun e w' => e = .returned (.string ⟨(hexL l).toArray⟩) ∧ Below w.heap.size w w' := by
  refine (rhex2_any l v w _ hl hs).mono ?_
  rintro e w' ⟨rfl, n, rfl⟩
  exact ⟨rfl, drewN_below _ _ n⟩



set_option maxRecDepth 100000 in
set_option maxHeartbeats 3200000 in
theorem line_step (ts : List T) (c : Nat) (ih : ∀ (ts' : List T), depL ts' < depL ts → c + 1 ≤ 9 → okL ((c : Int) + 1 + 1) ts' = true → LineC (c + 1) ts')
    (hc : c ≤ 9) (hok : okL ((c : Int) + 1) ts = true) : LineC c ts := by
  intro v w hv hlen
  have IH := Lib.hid ih
  have HOK := Lib.hid hok
  have HLEN := Lib.hid hlen
  clear ih hok hlen
  obtain ⟨A, cp, rfl, h1, h2, h3⟩ := hv
  unfold maxLen at h2
  obtain ⟨I, hI⟩ : ∃ I, I = Lib.repeatL [32, 32] c := ⟨_, rfl⟩
  rw [← hI]
  have HI0 := Lib.hid hI
  clear hI
  go_enter Try.func84, Try.ntmps84
  go_wp2_with fail
  go_loopw [5, 6] (fun sv i wr => ∃ k : Nat, k ≤ ts.length ∧ i = .int .i64 k ∧ sv = .string ⟨(textL c (ts.take k)).toArray⟩ ∧ Below w.heap.size w wr) (fun _ i _ => ts.length - (intOf i).toNat)
  case atStart => exact ⟨0, Nat.zero_le _, rfl, by simp [textL], Below.refl _ _⟩
  case round =>
    obtain ⟨k, hk, rfl, rfl, hbel⟩ := hrel
    by_cases hkl : k < ts.length
    · obtain ⟨bt, o, rfl, hb, hts⟩ := h3.out (by omega)
      have hta := TsAt.get hts hkl
      have hdp := depL_get ts k hkl
      have hok1 := okL_get _ ts k hkl HOK.out
      have hob := ok_obj hok1
      have hc8 : c + 1 ≤ 9 := by
        rw [ok_parts] at hok1
        simp only [Bool.and_eq_true, decide_eq_true_eq] at hok1
        omega
      have htk := textL_take c ts k hkl
      have hsp := textL_split c ts (k + 1)
      obtain ⟨t, ht⟩ : ∃ t, t = ts[k] := ⟨_, rfl⟩
      rw [← ht] at hta hdp hob htk
      rw [← dep_kids] at hdp
      obtain ⟨t1, t2, hkok⟩ := hob
      have hih := IH.out t.kids (by omega) hc8 hkok
      unfold LineC at hih
      have hta' := TAt.keep hbel.size (fun p hp => hbel.cell hp) t bt _ hb hta
      obtain ⟨A1, c1, A2, c2, g1, g2, g3, hv1, hu1⟩ := hta'.cells
      have hsz := hbel.size
      have htp := text_parts c t
      obtain ⟨tag, htag⟩ : ∃ x, x = t.tag := ⟨_, rfl⟩
      rw [← htag] at t1 t2 g1 htp
      obtain ⟨N, rfl⟩ := Int.eq_ofNat_of_zero_le (show 0 ≤ tag by omega)
      obtain ⟨V, hV⟩ : ∃ x, x = t.val.length := ⟨_, rfl⟩
      rw [← hV] at g2 htp hv1
      obtain ⟨M, hM⟩ : ∃ x, x = t.kids.length := ⟨_, rfl⟩
      rw [← hM] at g3 hu1
      obtain ⟨L, hL⟩ : ∃ x, x = textL c (ts.take k) := ⟨_, rfl⟩
      obtain ⟨Q, hQ⟩ : ∃ x, x = textL (c + 1) t.kids := ⟨_, rfl⟩
      rw [← hQ] at htp hih
      rw [← hL] at htk ⊢
      rw [repeatL_succ, ← HI0.out] at hih
      rw [← HI0.out] at htp
      have hlens : L.length + (I.length + ((hexL (tagF (N : Int))).length + ((if 0 < V then 32 :: hexL t.val else []).length + (1 + Q.length)))) ≤ 300000 := by
        have := HLEN.out
        rw [hsp, htk, htp] at this
        simp only [List.length_append, List.length_cons] at this ⊢
        omega
      have hil : I.length ≤ 18 := by rw [HI0.out, Lib.repeatL_length]; simp; omega
      have HTK := Lib.hid htk
      have HTP := Lib.hid htp
      have HIH := Lib.hid hih
      have HU := Lib.hid hu1
      have HV := Lib.hid hv1
      have HVl := Lib.hid hV
      clear hts hta hta' ht hdp hok1 hc8 hkok hih htk hsp htp hV hM hL hQ hu1 hv1 htag
      by_cases hN : 255 < N
      · by_cases hV0 : 0 < V
        · have hF : hexL (tagF (N : Int)) = hexL [UInt8.ofNat (N / 256)] ++ hexL [UInt8.ofNat N] := by rw [tagF_two N hN, ← hexL_append]; rfl
          rw [hF, List.length_append] at hlens
          have HF := Lib.hid hF
          clear hF
          have h8 := fun W z hz => hex_byte W (UInt8.ofNat (N / 256)) z hz
          obtain ⟨X1, hX1⟩ : ∃ x, x = hexL [UInt8.ofNat (N / 256)] := ⟨_, rfl⟩
          rw [← hX1] at hlens
          simp only [← hX1] at h8
          have H8 := Lib.hid h8
          have HX1 := Lib.hid hX1
          clear h8 hX1
          have h9 := fun W z hz => hex_byte W (UInt8.ofNat N) z hz
          obtain ⟨X2, hX2⟩ : ∃ x, x = hexL [UInt8.ofNat N] := ⟨_, rfl⟩
          rw [← hX2] at hlens
          simp only [← hX2] at h9
          have H9 := Lib.hid h9
          have HX2 := Lib.hid hX2
          have hx2 : 2 ≤ X2.length := by rw [hX2, hexL_length]; simp
          clear h9 hX2
          rw [if_pos hV0, List.length_cons] at hlens
          have hvl : t.val.length ≤ 200000 := by rw [hexL_length] at hlens; omega
          have h7 := fun v W hv => hex_slice t.val v W hv hvl
          obtain ⟨X3, hX3⟩ : ∃ x, x = hexL t.val := ⟨_, rfl⟩
          rw [← hX3] at hlens
          simp only [← hX3] at h7
          have H7 := Lib.hid h7
          have HX3 := Lib.hid hX3
          clear h7 hX3 hvl
          have HT2 : Hid (T.text c t = I ++ (hexL (tagF (N : Int)) ++ ((32 :: hexL t.val) ++ 10 :: Q))) := by show _ = _; rw [HTP.out, if_pos hV0]
          go_wp2_with fail
          refine (H8.out wr _ (by simp; try omega)).mono ?_
          rintro e w1 ⟨rfl, hb1⟩
          have B1 := hb1
          have qw10 := (B1.cell (p := ⟨bt, o + k * 3, none⟩) (show bt < wr.heap.size by omega)).trans g1
          have qw11 := (B1.cell (p := ⟨bt, o + k * 3 + 1, none⟩) (show bt < wr.heap.size by omega)).trans g2
          have qw12 := (B1.cell (p := ⟨bt, o + k * 3 + 2, none⟩) (show bt < wr.heap.size by omega)).trans g3
          go_wp2_with fail
          refine (H9.out w1 _ (by simp; try omega)).mono ?_
          rintro e w2 ⟨rfl, hb2⟩
          have B2 : Below wr.heap.size wr w2 := B1.trans (hb2.mono B1.size)
          have qw20 := (B2.cell (p := ⟨bt, o + k * 3, none⟩) (show bt < wr.heap.size by omega)).trans g1
          have qw21 := (B2.cell (p := ⟨bt, o + k * 3 + 1, none⟩) (show bt < wr.heap.size by omega)).trans g2
          have qw22 := (B2.cell (p := ⟨bt, o + k * 3 + 2, none⟩) (show bt < wr.heap.size by omega)).trans g3
          go_wp2_with fail
          refine (H7.out _ w2 (HV.out.on B2)).mono ?_
          rintro e w3 ⟨rfl, hb3⟩
          have B3 : Below wr.heap.size wr w3 := B2.trans (hb3.mono B2.size)
          have qw30 := (B3.cell (p := ⟨bt, o + k * 3, none⟩) (show bt < wr.heap.size by omega)).trans g1
          have qw31 := (B3.cell (p := ⟨bt, o + k * 3 + 1, none⟩) (show bt < wr.heap.size by omega)).trans g2
          have qw32 := (B3.cell (p := ⟨bt, o + k * 3 + 2, none⟩) (show bt < wr.heap.size by omega)).trans g3
          go_wp2_with fail
          have ei : (⟨I.toArray⟩ : ByteArray) ++ ⟨#[32, 32]⟩ = ⟨(I ++ [32, 32]).toArray⟩ := app_mk I [32, 32]
          rw [ei]
          refine (HIH.out _ w3 (HU.out.on B3) (by simp; omega)).mono ?_
          rintro e w4 ⟨rfl, hb4⟩
          have B4 : Below wr.heap.size wr w4 := B3.trans (hb4.mono B3.size)
          go_wp2_with fail
          go_roundw
          case rel =>
            refine ⟨k + 1, by omega, by go_num, ?_, hbel.trans (B4.mono hsz)⟩
            rw [HTK.out, HT2.out, HF.out, ← HX2.out, ← HX1.out, ← HX3.out]
            have e10 : (⟨#[10]⟩ : ByteArray) = ⟨[10].toArray⟩ := rfl
            have e32 : (⟨#[32]⟩ : ByteArray) = ⟨[32].toArray⟩ := rfl
            rw [e10, e32]
            simp only [app_mk]
            simp
          case measure => simp [intOf]; omega
        · have hF : hexL (tagF (N : Int)) = hexL [UInt8.ofNat (N / 256)] ++ hexL [UInt8.ofNat N] := by rw [tagF_two N hN, ← hexL_append]; rfl
          rw [hF, List.length_append] at hlens
          have HF := Lib.hid hF
          clear hF
          have h8 := fun W z hz => hex_byte W (UInt8.ofNat (N / 256)) z hz
          obtain ⟨X1, hX1⟩ : ∃ x, x = hexL [UInt8.ofNat (N / 256)] := ⟨_, rfl⟩
          rw [← hX1] at hlens
          simp only [← hX1] at h8
          have H8 := Lib.hid h8
          have HX1 := Lib.hid hX1
          clear h8 hX1
          have h9 := fun W z hz => hex_byte W (UInt8.ofNat N) z hz
          obtain ⟨X2, hX2⟩ : ∃ x, x = hexL [UInt8.ofNat N] := ⟨_, rfl⟩
          rw [← hX2] at hlens
          simp only [← hX2] at h9
          have H9 := Lib.hid h9
          have HX2 := Lib.hid hX2
          have hx2 : 2 ≤ X2.length := by rw [hX2, hexL_length]; simp
          clear h9 hX2
          rw [if_neg hV0] at hlens
          simp only [List.length_nil] at hlens
          have HT2 : Hid (T.text c t = I ++ (hexL (tagF (N : Int)) ++ ([] ++ 10 :: Q))) := by show _ = _; rw [HTP.out, if_neg hV0]
          go_wp2_with fail
          refine (H8.out wr _ (by simp; try omega)).mono ?_
          rintro e w1 ⟨rfl, hb1⟩
          have B1 := hb1
          have qw10 := (B1.cell (p := ⟨bt, o + k * 3, none⟩) (show bt < wr.heap.size by omega)).trans g1
          have qw11 := (B1.cell (p := ⟨bt, o + k * 3 + 1, none⟩) (show bt < wr.heap.size by omega)).trans g2
          have qw12 := (B1.cell (p := ⟨bt, o + k * 3 + 2, none⟩) (show bt < wr.heap.size by omega)).trans g3
          go_wp2_with fail
          refine (H9.out w1 _ (by simp; try omega)).mono ?_
          rintro e w2 ⟨rfl, hb2⟩
          have B2 : Below wr.heap.size wr w2 := B1.trans (hb2.mono B1.size)
          have qw20 := (B2.cell (p := ⟨bt, o + k * 3, none⟩) (show bt < wr.heap.size by omega)).trans g1
          have qw21 := (B2.cell (p := ⟨bt, o + k * 3 + 1, none⟩) (show bt < wr.heap.size by omega)).trans g2
          have qw22 := (B2.cell (p := ⟨bt, o + k * 3 + 2, none⟩) (show bt < wr.heap.size by omega)).trans g3
          go_wp2_with fail
          have ei : (⟨I.toArray⟩ : ByteArray) ++ ⟨#[32, 32]⟩ = ⟨(I ++ [32, 32]).toArray⟩ := app_mk I [32, 32]
          rw [ei]
          refine (HIH.out _ w2 (HU.out.on B2) (by simp; omega)).mono ?_
          rintro e w4 ⟨rfl, hb4⟩
          have B4 : Below wr.heap.size wr w4 := B2.trans (hb4.mono B2.size)
          go_wp2_with fail
          go_roundw
          case rel =>
            refine ⟨k + 1, by omega, by go_num, ?_, hbel.trans (B4.mono hsz)⟩
            rw [HTK.out, HT2.out, HF.out, ← HX2.out, ← HX1.out]
            have e10 : (⟨#[10]⟩ : ByteArray) = ⟨[10].toArray⟩ := rfl
            rw [e10]
            simp only [app_mk]
            simp
          case measure => simp [intOf]; omega
      · by_cases hV0 : 0 < V
        · have hF : hexL (tagF (N : Int)) = hexL [UInt8.ofNat N] := by rw [tagF_one N hN]
          rw [hF] at hlens
          have HF := Lib.hid hF
          clear hF
          have h9 := fun W z hz => hex_byte W (UInt8.ofNat N) z hz
          obtain ⟨X2, hX2⟩ : ∃ x, x = hexL [UInt8.ofNat N] := ⟨_, rfl⟩
          rw [← hX2] at hlens
          simp only [← hX2] at h9
          have H9 := Lib.hid h9
          have HX2 := Lib.hid hX2
          have hx2 : 2 ≤ X2.length := by rw [hX2, hexL_length]; simp
          clear h9 hX2
          rw [if_pos hV0, List.length_cons] at hlens
          have hvl : t.val.length ≤ 200000 := by rw [hexL_length] at hlens; omega
          have h7 := fun v W hv => hex_slice t.val v W hv hvl
          obtain ⟨X3, hX3⟩ : ∃ x, x = hexL t.val := ⟨_, rfl⟩
          rw [← hX3] at hlens
          simp only [← hX3] at h7
          have H7 := Lib.hid h7
          have HX3 := Lib.hid hX3
          clear h7 hX3 hvl
          have HT2 : Hid (T.text c t = I ++ (hexL (tagF (N : Int)) ++ ((32 :: hexL t.val) ++ 10 :: Q))) := by show _ = _; rw [HTP.out, if_pos hV0]
          go_wp2_with fail
          refine (H9.out wr _ (by simp; try omega)).mono ?_
          rintro e w2 ⟨rfl, hb2⟩
          have B2 : Below wr.heap.size wr w2 := hb2
          have qw20 := (B2.cell (p := ⟨bt, o + k * 3, none⟩) (show bt < wr.heap.size by omega)).trans g1
          have qw21 := (B2.cell (p := ⟨bt, o + k * 3 + 1, none⟩) (show bt < wr.heap.size by omega)).trans g2
          have qw22 := (B2.cell (p := ⟨bt, o + k * 3 + 2, none⟩) (show bt < wr.heap.size by omega)).trans g3
          go_wp2_with fail
          refine (H7.out _ w2 (HV.out.on B2)).mono ?_
          rintro e w3 ⟨rfl, hb3⟩
          have B3 : Below wr.heap.size wr w3 := B2.trans (hb3.mono B2.size)
          have qw30 := (B3.cell (p := ⟨bt, o + k * 3, none⟩) (show bt < wr.heap.size by omega)).trans g1
          have qw31 := (B3.cell (p := ⟨bt, o + k * 3 + 1, none⟩) (show bt < wr.heap.size by omega)).trans g2
          have qw32 := (B3.cell (p := ⟨bt, o + k * 3 + 2, none⟩) (show bt < wr.heap.size by omega)).trans g3
          go_wp2_with fail
          have ei : (⟨I.toArray⟩ : ByteArray) ++ ⟨#[32, 32]⟩ = ⟨(I ++ [32, 32]).toArray⟩ := app_mk I [32, 32]
          rw [ei]
          refine (HIH.out _ w3 (HU.out.on B3) (by simp; omega)).mono ?_
          rintro e w4 ⟨rfl, hb4⟩
          have B4 : Below wr.heap.size wr w4 := B3.trans (hb4.mono B3.size)
          go_wp2_with fail
          go_roundw
          case rel =>
            refine ⟨k + 1, by omega, by go_num, ?_, hbel.trans (B4.mono hsz)⟩
            rw [HTK.out, HT2.out, HF.out, ← HX2.out, ← HX3.out]
            have e10 : (⟨#[10]⟩ : ByteArray) = ⟨[10].toArray⟩ := rfl
            have e32 : (⟨#[32]⟩ : ByteArray) = ⟨[32].toArray⟩ := rfl
            rw [e10, e32]
            simp only [app_mk]
            simp
          case measure => simp [intOf]; omega
        · have hF : hexL (tagF (N : Int)) = hexL [UInt8.ofNat N] := by rw [tagF_one N hN]
          rw [hF] at hlens
          have HF := Lib.hid hF
          clear hF
          have h9 := fun W z hz => hex_byte W (UInt8.ofNat N) z hz
          obtain ⟨X2, hX2⟩ : ∃ x, x = hexL [UInt8.ofNat N] := ⟨_, rfl⟩
          rw [← hX2] at hlens
          simp only [← hX2] at h9
          have H9 := Lib.hid h9
          have HX2 := Lib.hid hX2
          have hx2 : 2 ≤ X2.length := by rw [hX2, hexL_length]; simp
          clear h9 hX2
          rw [if_neg hV0] at hlens
          simp only [List.length_nil] at hlens
          have HT2 : Hid (T.text c t = I ++ (hexL (tagF (N : Int)) ++ ([] ++ 10 :: Q))) := by show _ = _; rw [HTP.out, if_neg hV0]
          go_wp2_with fail
          refine (H9.out wr _ (by simp; try omega)).mono ?_
          rintro e w2 ⟨rfl, hb2⟩
          have B2 : Below wr.heap.size wr w2 := hb2
          have qw20 := (B2.cell (p := ⟨bt, o + k * 3, none⟩) (show bt < wr.heap.size by omega)).trans g1
          have qw21 := (B2.cell (p := ⟨bt, o + k * 3 + 1, none⟩) (show bt < wr.heap.size by omega)).trans g2
          have qw22 := (B2.cell (p := ⟨bt, o + k * 3 + 2, none⟩) (show bt < wr.heap.size by omega)).trans g3
          go_wp2_with fail
          have ei : (⟨I.toArray⟩ : ByteArray) ++ ⟨#[32, 32]⟩ = ⟨(I ++ [32, 32]).toArray⟩ := app_mk I [32, 32]
          rw [ei]
          refine (HIH.out _ w2 (HU.out.on B2) (by simp; omega)).mono ?_
          rintro e w4 ⟨rfl, hb4⟩
          have B4 : Below wr.heap.size wr w4 := B2.trans (hb4.mono B2.size)
          go_wp2_with fail
          go_roundw
          case rel =>
            refine ⟨k + 1, by omega, by go_num, ?_, hbel.trans (B4.mono hsz)⟩
            rw [HTK.out, HT2.out, HF.out, ← HX2.out]
            have e10 : (⟨#[10]⟩ : ByteArray) = ⟨[10].toArray⟩ := rfl
            rw [e10]
            simp only [app_mk]
            simp
          case measure => simp [intOf]; omega
    · have hke : k = ts.length := by omega
      have HE : Hid (textL c (ts.take k) = textL c ts) := by show _ = _; rw [hke, List.take_length]
      rw [HE.out]
      go_wp2_with fail
      go_ret
      exact ⟨rfl, hbel⟩

end Go.Proofs.Ytahnmnbjgbfeaaa
