/-
  The law CellWears.
-/
import Derived.Test.YtcojoohbhkhlnaaCei
import Derived.Test.YtcojoohbhkhlnaaCin
namespace Go.Proofs.Ytcojoohbhkhlnaa
set_option linter.unusedVariables false
set_option linter.unusedSimpArgs false
open Go.RowKit

/-- A state behind k writes to the word a. -/
structure Wst (s : St) (a en k : Nat) : Prop where
  on : s.on = true
  cut : s.cut = none
  en : s.en = en
  len : s.ws.length = 256
  wlen : s.wear.length = 256
  we : s.wear.getD a 0 = k
theorem Wst.acc {s : St} {a en k : Nat} (h : Wst s a en k) (ha : a < 256) : accE s a = 0 := by
  unfold accE
  rw [if_neg (by rw [h.on]; simp), if_pos (by rw [h.len]; omega)]
theorem Wst.next {s : St} {a en k : Nat} (h : Wst s a en k) (ha : a < 256) (v : Nat) : wrE s a = 0 ∧ Wst (wrS s a v) a en (k + 1) ∧ (wrS s a v).ws.getD a 0 = if en < k + 1 then v ^^^ 2 ^ (a % 32) else v := by
  have e : wrS s a v = putS s a v := by unfold wrS; rw [if_pos (h.acc ha), h.cut, Int.toNat_natCast]
  refine ⟨?_, ?_, ?_⟩
  · unfold wrE; rw [if_pos (h.acc ha), h.cut]; rfl
  · rw [e]
    refine ⟨h.on, h.cut, h.en, by simp [putS, h.len], by simp [putS, h.wlen], ?_⟩
    have hw := h.wlen
    have := h.we
    simp only [putS]
    rw [this, List.getD_eq_getElem?_getD, List.getElem?_set_self (by omega)]
    rfl
  · rw [e]
    have hw := h.len
    simp only [putS, putV]
    rw [h.we, h.en, List.getD_eq_getElem?_getD, List.getElem?_set_self (by omega)]
    rfl
theorem Wst.read {s : St} {a en k : Nat} (h : Wst s a en k) (ha : a < 256) : rdV s a = (s.ws.getD a 0 : Int) := by
  unfold rdV
  rw [if_pos (h.acc ha), Int.toNat_natCast]
theorem Wst.wear {s : St} {a en k : Nat} (h : Wst s a en k) (ha : a < 256) : weV s a = (k : Int) := by
  unfold weV
  rw [if_pos (by rw [h.len]; omega), Int.toNat_natCast, h.we]
theorem Wst.new (a en : Nat) : Wst (st0 256 en) a en 0 := ⟨rfl, rfl, rfl, List.length_replicate, List.length_replicate, rep0 256 a⟩
theorem xor_back (v p : Nat) : (v ^^^ p) ^^^ v = p := by rw [Nat.xor_comm v p, Nat.xor_assoc, Nat.xor_self, Nat.xor_zero]
theorem pow_and (j : Nat) : 2 ^ j &&& (2 ^ j - 1) = 0 := by rw [Nat.and_two_pow_sub_one_eq_mod, Nat.mod_self]

set_option maxRecDepth 100000 in
set_option maxHeartbeats 1600000 in
theorem law_wears (e a : Nat) (l : List Nat) (v : Value) (w : World) (he : e < 256) (ha : a < 256) (h : SW w w.heap.size v l) (hx : ∀ n ∈ l, n < 4294967296) :
    Calls Try.prog 6 #[.int .u8 (e : Int), .int .u8 (a : Int), v] w fun e w' => e = .returned (.bool true) ∧ Below w.heap.size w w' := by
  obtain ⟨A1, c1, rfl, h11, h12, h13⟩ := h
  unfold maxLen at h12
  obtain ⟨q, hq⟩ : ∃ q : Nat, (e : Int) % 40 = (q : Int) := ⟨e % 40, by omega⟩
  have hq40 : q < 40 := by omega
  have HN : Calls Try.prog 12 #[.agg #[.int .i64 256, .int .i64 (1 + (q : Int))]] w (NewR 256 (1 + q) w) := by simpa using new_ok 256 (1 + q) w (by omega) (by omega) (by omega) (by omega)
  have HN := Lib.hid HN
  by_cases hl : 50 < l.length
  · go_enter Try.func6, Try.ntmps6
    go_wp2
    go_ret
    exact ⟨rfl, Below.refl ..⟩
  · go_enter Try.func6, Try.ntmps6
    go_wp2_with (go_at_call 12; refine HN.out.mono ?_; rintro e w1 ⟨b, g, rfl, hma, hb, hg, hbel⟩)
    have H13 := Lib.hid h13
    have HXX := Lib.hid hx
    clear h13 hx hq
    go_loopw [10] (fun i wr => ∃ (k : Nat) (s : St), k ≤ l.length ∧ i = .int .i64 k ∧ (∃ lf, MA wr b g s lf) ∧ Wst s a (1 + q) k ∧ Fine s k ∧ Below w.heap.size w wr) (fun i _ => l.length - (intOf i).toNat)
    case atStart => exact ⟨0, _, by omega, rfl, ⟨0, hma⟩, Wst.new .., Fine.new _ _ (by omega), hbel⟩
    case round =>
      obtain ⟨k, s, hk, rfl, ⟨lf, hma⟩, hst, hfi, hbel⟩ := hrel
      by_cases h3 : k < l.length
      · obtain ⟨bl, o, rfl, hbl, hc⟩ := H13.out (by omega)
        have g1 := (hbel.cell (p := ⟨bl, o + k, none⟩) hbl).trans (hc k h3)
        have hv : l.getD k 0 < 4294967296 := by
          rw [List.getD_eq_getElem?_getD, List.getElem?_eq_getElem h3]
          exact HXX.out _ (List.getElem_mem h3)
        have hblg : bl ≠ b := by omega
        have hblg2 : bl ≠ g := by omega
        have hsz : w.heap.size ≤ wr.heap.size := hbel.size
        obtain ⟨n1, n2, n3⟩ := hst.next ha (l.getD k 0)
        have HW := write_any hma hfi (by omega) a (l.getD k 0) (by omega) hv
        rw [n1] at HW
        have HFN := Lib.hid (hfi.write a (l.getD k 0) hv)
        have HT : Hid (∀ W, Kp b g wr W → W.cell? ⟨bl, o + k, none⟩ = some (.int .u32 ((l.getD k 0 : Nat) : Int))) := fun W hW => (hW.cell (p := ⟨bl, o + k, none⟩) (by show bl < _; omega) hblg hblg2).trans g1
        have HLN : Hid (wrS s a (l.getD k 0) = wrS s a (l.getD k 0)) := rfl
        generalize l.getD k 0 = x at *
        generalize wrS s a x = t at *
        have HR : ∀ W lf', MA W b g t lf' → Calls Try.prog 21 #[.pointer (some ⟨b, 0, none⟩), .int .i64 (a : Int)] W fun e w' => e = .returned (.tuple #[.int .u32 (t.ws.getD a 0 : Int), .int .i64 0]) ∧ w' = W := fun W lf' hW => by
          have := read_any hW a (by omega)
          rw [n2.read ha, n2.acc ha] at this
          exact this
        have HW := Lib.hid HW
        have HR := Lib.hid HR
        have HB := Lib.hid hbel
        have HN2 := Lib.hid n2
        have HHL := Lib.hid hc
        clear hma hst hfi hbel n1 n2 hc HLN
        by_cases h5 : 1 + q < k + 1
        · rw [if_pos h5] at n3
          have hy : t.ws.getD a 0 < 4294967296 := by rw [n3]; exact Nat.xor_lt_two_pow (n := 32) hv (u32_shl _ (by omega))
          have HX := u32_xor_nat (t.ws.getD a 0) x hy hv
          have e2 : t.ws.getD a 0 ^^^ x = 2 ^ (a % 32) := by rw [n3, xor_back]
          rw [e2] at HX
          have hp1 : 0 < 2 ^ (a % 32) := Nat.pow_pos (by omega)
          have hp2 := u32_shl (a % 32) (by omega)
          have HAN := u32_and_nat (2 ^ (a % 32)) (2 ^ (a % 32) - 1) hp2 (by omega)
          rw [pow_and] at HAN
          generalize t.ws.getD a 0 = y at *
          generalize 2 ^ (a % 32) = p at *
          have HAN : bits .and .u32 (p : Int) ((p : Int) - 1) = 0 := by rw [show ((p : Int) - 1) = ((p - 1 : Nat) : Int) by omega]; exact HAN
          clear n3 e2
          go_wp2_with (first
            | (go_at_call 15; refine HW.out.mono ?_; rintro e w2 ⟨rfl, ⟨lf', hm2⟩, hk2⟩; have g2 := HT.out w2 hk2; have HK2 := Lib.hid hk2; have HM2 := Lib.hid hm2; clear hm2 hk2)
            | (go_at_call 21; refine (HR.out _ _ HM2.out).mono ?_; rintro e w3 ⟨rfl, rfl⟩))
          go_roundw
          case rel => exact ⟨k + 1, t, by omega, by go_num, ⟨lf', HM2.out⟩, HN2.out, HFN.out, HB.out.trans (HK2.out.below hb hg hsz)⟩
          case measure => simp [intOf]; omega
        · rw [if_neg h5] at n3
          have HX := u32_xor_nat x x hv hv
          rw [Nat.xor_self] at HX
          have HX : bits .xor .u32 (x : Int) (x : Int) = 0 := HX
          rw [n3] at HR
          clear n3
          go_wp2_with (first
            | (go_at_call 15; refine HW.out.mono ?_; rintro e w2 ⟨rfl, ⟨lf', hm2⟩, hk2⟩; have g2 := HT.out w2 hk2; have HK2 := Lib.hid hk2; have HM2 := Lib.hid hm2; clear hm2 hk2)
            | (go_at_call 21; refine (HR.out _ _ HM2.out).mono ?_; rintro e w3 ⟨rfl, rfl⟩))
          go_roundw
          case rel => exact ⟨k + 1, t, by omega, by go_num, ⟨lf', HM2.out⟩, HN2.out, HFN.out, HB.out.trans (HK2.out.below hb hg hsz)⟩
          case measure => simp [intOf]; omega
      · obtain rfl : k = l.length := by omega
        have HE := wear_any hma a (by omega)
        rw [hst.wear ha] at HE
        have HE := Lib.hid HE
        have HA := Lib.hid (awake_any wr)
        clear hma hst hfi
        go_wp2_with (first
          | (go_at_call 22; refine HE.out.mono ?_; rintro e w2 ⟨rfl, rfl⟩)
          | (go_at_call 9; refine HA.out.mono ?_; rintro e w3 ⟨rfl, hb3⟩))
        go_ret
        exact ⟨rfl, hbel.trans (hb3.mono hbel.size)⟩
end Go.Proofs.Ytcojoohbhkhlnaa
