/-
  The walks of start, commandStart, responseStart, encrypt, decrypt.
-/
import Derived.Test.YtdalcldilmmgmaaDoorCho
namespace Go.Proofs.YtdalcldilmmgmaaDoor
set_option linter.unusedVariables false
set_option linter.unusedSimpArgs false
open Go.RowKit

set_option maxRecDepth 100000 in
set_option maxHeartbeats 800000 in
theorem pput_own (N k : Nat) (w : World) (h : 1 ≤ k) (h' : k ≤ 8) (h63 : N ≤ 9223372036854775807) (hn : N < 256 ^ k) :
    Calls Tryd.prog 58 #[.int .i64 N, .int .i64 k] w fun e w' => e = .returned (.tuple #[.slice (some ⟨w.heap.size, 0, none⟩) k k, .int .i64 0]) ∧ OB w' w.heap.size (.slice (some ⟨w.heap.size, 0, none⟩) k k) (putL N k) ∧ Below w.heap.size w w' := by
  have hz := shr_zero N k
  rw [decide_eq_false (by omega)] at hz
  clear hn
  go_enter Tryd.func58, Tryd.ntmps58
  go_wp2_with (at_make; refine wpList_mk (by rfl) _ _ (by rfl) .i64 .i64 _ _ k (by rfl) (by rfl) (by rfl) (by rfl) (by omega) ?_; intro w1 hown1 hb1')
  go_loopw [28] (fun i wr => ∃ j : Nat, j ≤ k ∧ i = .int .i64 j ∧ OB wr w.heap.size (.slice (some ⟨w.heap.size, 0, none⟩) k k) (List.replicate (k - j) 0 ++ putL N j) ∧ Below w.heap.size w wr) (fun i _ => k - (intOf i).toNat)
  case atStart => exact ⟨0, Nat.zero_le _, rfl, by simpa [putL] using hown1, hb1'⟩
  case round =>
    obtain ⟨j, hj, rfl, hown, hbel⟩ := hrel
    by_cases h1 : j < k
    · have g3 := hown.cellAt (k - 1 - j) (by simp [putL_length]; omega)
      have g4 := hown.frozenAt (k - 1 - j)
      go_wp2
      go_roundw
      case rel => exact ⟨j + 1, by omega, by go_num, put_round N _ (shr_byte N j) hown h1, hbel.setCell (p := ⟨w.heap.size, k - 1 - j, none⟩) (Nat.le_refl _) _⟩
      case measure => simp [intOf]; omega
    · have hjk : j = k := by omega
      subst hjk
      go_wp2
      go_ret2
      exact ⟨rfl, by simpa using hown, hbel⟩

/-- The initial value. -/
def ivF (enc : List UInt8) (n : Nat) (first : UInt8) : List UInt8 := cbE enc (List.replicate 8 0) (first :: (putL n 8).drop 1)
theorem ivN_len (n : Nat) (first : UInt8) : (first :: (putL n 8).drop 1).length = 8 := by rw [List.length_cons, List.length_drop, putL_length]
theorem ivF_len (enc : List UInt8) (n : Nat) (first : UInt8) : (ivF enc n first).length = 8 := by
  rw [ivF, cbE_len _ _ _ (by rw [ivN_len]), ivN_len]
/-- A value of bytes that the call gives. -/
def GiV (w : World) (l : List UInt8) (e : Ending) (w' : World) : Prop := ∃ v', e = .returned v' ∧ SL w' w'.heap.size v' l ∧ Below w.heap.size w w'

set_option maxRecDepth 100000 in
set_option maxHeartbeats 3200000 in
theorem pstart_any (g : Nat) (s : Ch) (n : Nat) (first : UInt8) (w : World) (h : CH w g s) (he : s.enc.length = 16) (hn : n ≤ 100000) :
    Calls Tryd.prog 56 #[.pointer (some ⟨g, 0, none⟩), .int .i64 n, .int .u8 (first.toNat : Int)] w (GiV w (ivF s.enc n first)) := by
  have HP := Lib.hid (pput_own n 8 w (by omega) (by omega) (by omega) (by omega))
  have hlt := h.lt
  have HCH := Lib.hid h
  go_enter Tryd.func56, Tryd.ntmps56
  go_wp2_with fail
  refine HP.out.mono ?_
  rintro e w1 ⟨rfl, hob, hb1⟩
  have hz1 := hb1.size
  have hlen : (putL n 8).length = 8 := putL_length _ _
  have hst := hob.stored 0 first (first.toNat : Int) rfl
  have c0 := hob.cellAt 0 (by rw [hlen]; omega)
  have f0 := hob.frozenAt 0
  have hb2 : Below w.heap.size w (w1.setCell ⟨w.heap.size, 0, none⟩ (.int .u8 (first.toNat : Int))) := hb1.setCell (p := ⟨w.heap.size, 0, none⟩) (Nat.le_refl _) _
  have HST := Lib.hid hst
  have HB2 := Lib.hid hb2
  clear hst hb2 hob
  go_wp2_with fail
  generalize w1.setCell ⟨w.heap.size, 0, none⟩ (.int .u8 (first.toNat : Int)) = W2 at *
  have hnum : (putL n 8).set 0 first = first :: (putL n 8).drop 1 := by
    match hp : putL n 8, hlen with
    | x :: l, _ => rfl
  rw [hnum] at HST
  obtain ⟨A0, A1, A2, A3, A5, c0, c1, c2, c3, c5, hr, h0, _⟩ := HCH.out.below HB2.out
  have q0 : W2.cell? ⟨g, 0, none⟩ = some (.slice A0 s.enc.length c0) := cell_of_row _ _ 0 _ _ _ hr
  have hmk := fun W => mkz8 W
  have hob8 := fun W => ob_zeros 8 (by omega) W
  obtain ⟨Z, hZ⟩ : ∃ Z, Z = Obj.cells (List.replicate 8 (Value.int .u8 0)).toArray 5 := ⟨_, rfl⟩
  rw [← hZ] at hmk
  simp only [← hZ] at hob8
  have hiv : fitC s.enc (List.replicate 8 0) (first :: (putL n 8).drop 1) = 0 := by
    unfold fitC
    rw [if_neg]
    rw [ivN_len, List.length_replicate]
    omega
  have hbz := alloc_below W2 Z
  have hc : ∀ W, Below W2.heap.size W2 W → SL W W.heap.size (.slice (some ⟨W2.heap.size, 0, none⟩) 8 8) (List.replicate 8 0) → Calls Tryd.prog 55 #[.slice A0 s.enc.length c0, .slice (some ⟨W2.heap.size, 0, none⟩) 8 8, .slice (some ⟨w.heap.size, 0, none⟩) 8 8] W fun e w' => ∃ v', e = .returned (.tuple #[v', .int .i64 0]) ∧ SL w' w'.heap.size v' (ivF s.enc n first) ∧ Below W2.heap.size W2 w' := fun W hW hz => by
    refine (pcbe_any s.enc (List.replicate 8 0) (first :: (putL n 8).drop 1) _ _ _ W (h0.sl.on hW) hz (HST.out.sl.on hW) (by rw [ivN_len]; omega)).mono ?_
    rintro e w' ⟨v', e1, e2, e3⟩
    rw [hiv] at e1 e2
    rw [if_pos rfl] at e2
    exact ⟨v', e1, e2.sl, hW.trans (e3.mono hW.size)⟩
  have HC1 := Lib.hid (hc (W2.alloc Z) hbz (hob8 W2).sl)
  have HC2 := Lib.hid (hc (W2.alloc Z).drew hbz.drew ((hob8 W2).sl.on (Below.refl _ _).drew))
  have HMK := Lib.hid hmk
  have hgl : g < W2.heap.size := blk_lt hr
  clear hc hob8 hbz hr h0 hiv hnum hZ hmk f0 he hlen
  have hmk := HMK.out
  have hS3 : True := trivial
  go_region_held3 (fun w' => w'.cell? ⟨g, 0, none⟩ = some (.slice A0 s.enc.length c0)) (first | (go_keep; done) | exact hS3)
    (first
      | (go_at_call 55; (with_reducible refine HC1.out.mono ?_); rintro e w3 ⟨v3, rfl, hv3, hb3⟩; have hS3 := (hb3.cell (p := ⟨g, 0, none⟩) hgl).trans q0)
      | (go_at_call 55; (with_reducible refine HC2.out.mono ?_); rintro e w3 ⟨v3, rfl, hv3, hb3⟩; have hS3 := (hb3.cell (p := ⟨g, 0, none⟩) hgl).trans q0))
  go_wp2_with fail
  go_ret
  exact ⟨_, rfl, by first | exact hv3 | exact hv3.on (Below.refl _ _).drew, by first | exact HB2.out.trans (hb3.mono HB2.out.size) | exact (HB2.out.trans (hb3.mono HB2.out.size)).drew⟩
set_option maxRecDepth 100000 in
theorem pcst_any (g : Nat) (s : Ch) (n : Nat) (w : World) (h : CH w g s) (he : s.enc.length = 16) (hc : s.cnt = (n : Int)) (hn : n ≤ 10000) :
    Calls Tryd.prog 40 #[.pointer (some ⟨g, 0, none⟩)] w (GiV w (ivF s.enc (n + 1) 0)) := by
  have HS := Lib.hid (pstart_any g s (n + 1) 0 w h he (by omega))
  obtain ⟨A0, A1, A2, A3, A5, c0, c1, c2, c3, c5, hr, _⟩ := h
  have q6 : w.cell? ⟨g, 6, none⟩ = some (.int .i64 s.cnt) := cell_of_row _ _ 6 _ _ _ hr
  rw [hc] at q6
  rw [show (((n + 1 : Nat) : Int)) = (n : Int) + 1 by omega] at HS
  have hw : IntKind.wrap .i64 ((n : Int) + 1) = (n : Int) + 1 := IntWalk.i64_in _ (by omega)
  have e0 : ((0 : UInt8).toNat : Int) = 0 := rfl
  rw [e0] at HS
  clear hr he hc
  go_enter Tryd.func40, Tryd.ntmps40
  go_wp2_with (go_at_call 56; refine HS.out.mono ?_; rintro e w3 ⟨v3, rfl, hv3, hb3⟩)
  go_ret
  exact ⟨_, rfl, hv3, hb3⟩
set_option maxRecDepth 100000 in
theorem prst_any (g : Nat) (s : Ch) (n : Nat) (w : World) (h : CH w g s) (he : s.enc.length = 16) (hc : s.cnt = (n : Int)) (hn : n ≤ 10000) :
    Calls Tryd.prog 49 #[.pointer (some ⟨g, 0, none⟩)] w (GiV w (ivF s.enc n 128)) := by
  have HS := Lib.hid (pstart_any g s n 128 w h he (by omega))
  obtain ⟨A0, A1, A2, A3, A5, c0, c1, c2, c3, c5, hr, _⟩ := h
  have q6 : w.cell? ⟨g, 6, none⟩ = some (.int .i64 s.cnt) := cell_of_row _ _ 6 _ _ _ hr
  rw [hc] at q6
  have e0 : ((128 : UInt8).toNat : Int) = 128 := rfl
  rw [e0] at HS
  clear hr he hc
  go_enter Tryd.func49, Tryd.ntmps49
  go_wp2_with (go_at_call 56; refine HS.out.mono ?_; rintro e w3 ⟨v3, rfl, hv3, hb3⟩)
  go_ret
  exact ⟨_, rfl, hv3, hb3⟩

/-- Data as a side encrypts them for a bit of the level. -/
def encF (s : Ch) (bit : Int) (iv d : List UInt8) : List UInt8 := if hasB s.lvl bit = true ∧ d.length ≠ 0 then cbE s.enc iv (padL d 8) else d
set_option maxRecDepth 100000 in
set_option maxHeartbeats 1600000 in
theorem pencr_any (g : Nat) (s : Ch) (bit : Int) (iv d : List UInt8) (vi vd : Value) (w : World) (h : CH w g s) (he : s.enc.length = 16) (hiv : iv.length = 8) (hi : SL w w.heap.size vi iv) (hd : SL w w.heap.size vd d) (hl : d.length ≤ 2000) :
    Calls Tryd.prog 39 #[.pointer (some ⟨g, 0, none⟩), .int .i64 bit, vi, vd] w (GiV w (encF s bit iv d)) := by
  have HH := Lib.hid (phas_any g bit s w h)
  have HP := Lib.hid (ppad_ok d vd 8 w hd (by omega) (by omega) (by omega))
  have hpl := padL_len d
  obtain ⟨A0, A1, A2, A3, A5, c0, c1, c2, c3, c5, hr, h0, _⟩ := id h
  have hfit : fitC s.enc iv (padL d 8) = 0 := by
    unfold fitC
    rw [if_neg]
    rw [hpl]
    omega
  have HC := Lib.hid fun (W : World) (vp : Value) (hW : Below w.heap.size w W) (hp : SL W W.heap.size vp (padL d 8)) => by
    have := pcbe_any s.enc iv (padL d 8) (.slice A0 s.enc.length c0) vi vp W (h0.sl.on hW) (hi.on hW) hp (by rw [hpl]; omega)
    rw [hfit, if_pos rfl] at this
    exact this
  have HCH := Lib.hid h
  obtain ⟨Ad, cd, rfl, _, _, _⟩ := id hd
  obtain ⟨Ai, ci, rfl, _, _, _⟩ := id hi
  have HD := Lib.hid hd
  obtain ⟨R, hR⟩ : ∃ R, R = encF s bit iv d := ⟨_, rfl⟩
  have HR : Hid (R = if hasB s.lvl bit = true ∧ d.length ≠ 0 then cbE s.enc iv (padL d 8) else d) := hR
  rw [← hR]
  have HQ : Hid (∀ W, Below w.heap.size w W → W.cell? ⟨g, 0, none⟩ = some (.slice A0 s.enc.length c0)) := fun W hW => by
    exact (hW.cell (p := ⟨g, 0, none⟩) (blk_lt hr)).trans (cell_of_row _ _ 0 _ _ _ hr)
  clear h hd hi hr h0 hfit hpl hR he hiv
  cases hB : hasB s.lvl bit with
  | false =>
    rw [hB] at HH HR
    have hRd : R = d := by rw [HR.out, if_neg (by simp)]
    rw [hRd]
    clear hB HR hRd
    go_enter Tryd.func39, Tryd.ntmps39
    go_wp2_with (go_at_call 38; refine HH.out.mono ?_; rintro e w3 ⟨rfl, rfl⟩)
    go_ret
    exact ⟨_, rfl, HD.out, Below.refl _ _⟩
  | true =>
    rw [hB] at HH HR
    clear hB
    by_cases hd0 : d.length = 0
    · have hRd : R = d := by rw [HR.out, if_neg (by simp [hd0])]
      rw [hRd]
      have hz : ((d.length : Int) == 0) = true := by rw [beq_iff_eq]; omega
      clear HR hRd hd0
      go_enter Tryd.func39, Tryd.ntmps39
      go_wp2_with (go_at_call 38; refine HH.out.mono ?_; rintro e w3 ⟨rfl, rfl⟩)
      go_ret
      exact ⟨_, rfl, HD.out, Below.refl _ _⟩
    · have hRd : Hid (R = cbE s.enc iv (padL d 8)) := by show _ = _; rw [HR.out, if_pos ⟨rfl, hd0⟩]
      have hz : ((d.length : Int) == 0) = false := by rw [beq_eq_false_iff_ne]; omega
      rw [← hRd.out] at HC
      clear HR hd0
      go_enter Tryd.func39, Tryd.ntmps39
      go_wp2_with fail
      refine HH.out.mono ?_
      rintro e w3 ⟨rfl, rfl⟩
      go_wp2_with fail
      refine HP.out.mono ?_
      rintro e w4 ⟨v4, rfl, hv4, hb4⟩
      have q0 := HQ.out _ hb4
      go_wp2_with fail
      refine (HC.out _ _ hb4 hv4).mono ?_
      rintro e w5 ⟨v5, rfl, hv5, hb5⟩
      go_wp2_with fail
      go_ret
      exact ⟨_, rfl, hv5.sl, hb4.trans (hb5.mono hb4.size)⟩
end Go.Proofs.YtdalcldilmmgmaaDoor
