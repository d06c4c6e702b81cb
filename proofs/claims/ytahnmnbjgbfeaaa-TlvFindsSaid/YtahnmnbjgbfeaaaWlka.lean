/-
  The walks of the laws on Xor and on the order.
-/
import Derived.Test.YtahnmnbjgbfeaaaExa
import Derived.Test.YtahnmnbjgbfeaaaOcta
import Derived.ProofKit
namespace Go.Proofs.Ytahnmnbjgbfeaaa
set_option linter.unusedVariables false
set_option linter.unusedSimpArgs false
open Go.RowKit

/-- What a row's opening tells of a slice of bytes, as a list of bytes. -/
theorem row_sl (w : World) (a : Option Addr) (len cap : Nat) (zs : List Int)
    (h : (a = none ∧ len = 0 ∧ cap = 0 ∧ zs = []) ∨ ∃ x, a = some x ∧ len ≤ cap ∧ cap ≤ maxLen ∧ zs.length = cap ∧ (∀ i, i < zs.length → w.cell? (x.add i) = some (.int .u8 (zs.getD i 0))) ∧ ∀ n ∈ zs, (Lit.int .u8 n).wf = true) :
    ∃ l : List UInt8, l.length = len ∧ SL w w.heap.size (.slice a len cap) l := by
  rcases h with ⟨rfl, rfl, rfl, rfl⟩ | ⟨x, rfl, h1, h2, h3, h4, h5⟩
  · exact ⟨[], rfl, SL.nil _ _ _ _ (Nat.zero_le _)⟩
  · have hlen : ((zs.take len).map fun n => UInt8.ofNat n.toNat).length = len := by simp; omega
    refine ⟨(zs.take len).map fun n => UInt8.ofNat n.toNat, hlen, some x, cap, by rw [hlen], by omega, h2, fun hp => ?_⟩
    rw [hlen] at hp
    obtain ⟨b, o, sp⟩ := x
    have h0 := h4 0 (by omega)
    have hsp : sp = none := World.cell?_spot (by simpa [Addr.add] using h0)
    subst hsp
    have hblk := World.block_lt_of_cell? w _ h0
    refine ⟨b, o, rfl, by simpa [Addr.add] using hblk, fun k hk => ?_⟩
    rw [hlen] at hk
    have hc := h4 k (by omega)
    rw [addr_add] at hc
    rw [hc]
    have hkz : k < zs.length := by omega
    have hwf := h5 zs[k] (List.getElem_mem hkz)
    have hb : 0 ≤ zs[k] ∧ zs[k] < 256 := by
      simp [Lit.wf, IntKind.min, IntKind.max, IntKind.signed, IntKind.bits] at hwf
      omega
    have e1 : zs.getD k 0 = zs[k] := by simp [List.getD, List.getElem?_eq_getElem hkz]
    have e2 : ((zs.take len).map fun n => UInt8.ofNat n.toNat).getD k 0 = UInt8.ofNat zs[k].toNat := by
      simp [List.getD, hk, List.getElem?_eq_getElem hkz]
    rw [e1, e2]
    congr 2
    simp
    omega

set_option maxRecDepth 100000 in
set_option maxHeartbeats 3200000 in
theorem law_xor (a b : List UInt8) (v u : Value) (w : World) (ha : SL w w.heap.size v a) (hb : SL w w.heap.size u b) :
    Calls Try.prog 5 #[v, u] w fun e w' => e = .returned (.bool true) ∧ Below w.heap.size w w' := by
  have HA := ha
  have HB := hb
  obtain ⟨A1, c1, rfl, h11, h12, h13⟩ := ha
  obtain ⟨A2, c2, rfl, h21, h22, h23⟩ := hb
  by_cases h1 : 5000 < a.length
  · go_enter Try.func5, Try.ntmps5
    go_wp2_with fail
    refine (example_any _).mono ?_
    rintro e w' ⟨rfl, hb'⟩
    go_wp2_with fail
    go_ret
    exact ⟨rfl, hb'⟩
  · by_cases h2 : 5000 < b.length
    · go_enter Try.func5, Try.ntmps5
      go_wp2_with fail
      refine (example_any _).mono ?_
      rintro e w' ⟨rfl, hb'⟩
      go_wp2_with fail
      go_ret
      exact ⟨rfl, hb'⟩
    · by_cases hl : a.length = b.length
      · have HL := Lib.hid hl
        clear hl
        go_enter Try.func5, Try.ntmps5
        go_wp2_with fail
        refine (pxor_any a b _ _ w HA HB HL.out (by omega)).mono ?_
        rintro e w1 ⟨v1, rfl, hv1, hb1⟩
        go_wp2_with fail
        refine (rxor_any a b _ _ w1 (HA.on hb1) (HB.on hb1) HL.out (by omega)).mono ?_
        rintro e w2 ⟨v2, rfl, hv2, hb2⟩
        go_wp2_with fail
        refine (same_yes (xorL a b) _ _ w2 w2.heap.size (hv1.on hb2) hv2).mono ?_
        rintro e w3 ⟨rfl, n3, rfl⟩
        go_wp2_with fail
        have hb3 := drewN_below w2.heap.size w2 n3
        refine (pxor_any (xorL a b) b _ _ _ ((hv1.on hb2).on hb3) (((HB.on hb1).on hb2).on hb3) (by rw [xorL_length a b HL.out, HL.out]) (by rw [xorL_length a b HL.out]; omega)).mono ?_
        rintro e w4 ⟨v4, rfl, hv4, hb4⟩
        go_wp2_with fail
        rw [xorL_xorL a b HL.out] at hv4
        refine (same_yes a _ _ w4 w4.heap.size hv4 ((((HA.on hb1).on hb2).on hb3).on hb4)).mono ?_
        rintro e w5 ⟨rfl, n5, rfl⟩
        go_wp2_with fail
        refine (example_any _).mono ?_
        rintro e w6 ⟨rfl, hb6⟩
        go_wp2_with fail
        go_ret
        have m1 := hb1.size
        have m2 := hb2.size
        have m3 := hb3.size
        have m4 := hb4.size
        exact ⟨rfl, ((((hb1.trans (hb2.mono m1)).trans (hb3.mono (by omega))).trans (hb4.mono (by omega))).trans (drewN_below _ _ _)).trans (hb6.mono (by simp; simp at m3 m4; omega))⟩
      · have HL := Lib.hid hl
        clear hl
        go_enter Try.func5, Try.ntmps5
        go_wp2_with fail
        refine (xor_ne1 a b _ _ w w.heap.size HA HB HL.out).mono ?_
        rintro e w1 ⟨rfl, rfl⟩
        go_wp2_with fail
        refine (xor_ne2 a b _ _ w w.heap.size HA HB HL.out).mono ?_
        rintro e w2 ⟨rfl, rfl⟩
        go_wp2_with fail
        refine (same_yes [] _ _ w w.heap.size (SL.nil _ _ _ _ (Nat.zero_le _)) (SL.nil _ _ _ _ (Nat.zero_le _))).mono ?_
        rintro e w3 ⟨rfl, n3, rfl⟩
        go_wp2_with fail
        refine (example_any _).mono ?_
        rintro e w6 ⟨rfl, hb6⟩
        go_wp2_with fail
        go_ret
        exact ⟨rfl, (drewN_below _ w n3).trans hb6⟩

theorem cmpL_anti (a b : List UInt8) : cmpL a b = -cmpL b a := by
  induction a generalizing b with
  | nil => cases b <;> simp [cmpL]
  | cons x xs ih => cases b with
    | nil => simp [cmpL]
    | cons y ys =>
      simp only [cmpL]
      by_cases h1 : x.toNat < y.toNat
      · rw [if_pos h1, if_neg (by omega), if_pos h1]
      · by_cases h2 : y.toNat < x.toNat
        · rw [if_neg h1, if_pos h2, if_pos h2]; rfl
        · rw [if_neg h1, if_neg h2, if_neg h2, if_neg h1]; exact ih ys
theorem cmpL_range (a b : List UInt8) : -1 ≤ cmpL a b ∧ cmpL a b ≤ 1 := by
  induction a generalizing b with
  | nil => cases b <;> simp [cmpL]
  | cons x xs ih => cases b with
    | nil => simp [cmpL]
    | cons y ys =>
      simp only [cmpL]
      split
      · omega
      · split
        · omega
        · exact ih ys
theorem cmpL_cons_le (x y : UInt8) (xs ys : List UInt8) : cmpL (x :: xs) (y :: ys) ≤ 0 ↔ x.toNat < y.toNat ∨ (x.toNat = y.toNat ∧ cmpL xs ys ≤ 0) := by
  simp only [cmpL]
  by_cases h1 : x.toNat < y.toNat
  · simp [h1]
  · by_cases h2 : y.toNat < x.toNat
    · rw [if_neg h1, if_pos h2]
      constructor
      · intro h; omega
      · intro h; omega
    · rw [if_neg h1, if_neg h2]
      constructor
      · intro h; exact .inr ⟨by omega, h⟩
      · intro h
        rcases h with h | h
        · omega
        · exact h.2
theorem cmpL_trans (a b c : List UInt8) (h1 : cmpL a b ≤ 0) (h2 : cmpL b c ≤ 0) : cmpL a c ≤ 0 := by
  induction a generalizing b c with
  | nil => cases c <;> simp [cmpL]
  | cons x xs ih =>
    cases b with
    | nil => simp [cmpL] at h1
    | cons y ys =>
      cases c with
      | nil => simp [cmpL] at h2
      | cons z zs =>
        rw [cmpL_cons_le] at h1 h2 ⊢
        rcases h1 with h1 | ⟨h1, h3⟩ <;> rcases h2 with h2 | ⟨h2, h4⟩
        · exact .inl (by omega)
        · exact .inl (by omega)
        · exact .inl (by omega)
        · exact .inr ⟨by omega, ih ys zs h3 h4⟩

set_option maxRecDepth 100000 in
set_option maxHeartbeats 3200000 in
theorem law_orders (a b c : List UInt8) (v u t : Value) (w : World) (ha : SL w w.heap.size v a) (hb : SL w w.heap.size u b) (hc : SL w w.heap.size t c) :
    Calls Try.prog 4 #[v, u, t] w fun e w' => e = .returned (.bool true) ∧ Below w.heap.size w w' := by
  have HA := ha
  have HB := hb
  have HC := hc
  obtain ⟨A1, c1, rfl, h11, h12, h13⟩ := ha
  obtain ⟨A2, c2, rfl, h21, h22, h23⟩ := hb
  obtain ⟨A3, c3, rfl, h31, h32, h33⟩ := hc
  by_cases hbig : 5000 < a.length ∨ 5000 < b.length ∨ 5000 < c.length
  · have hcase : 5000 < a.length ∨ (a.length ≤ 5000 ∧ 5000 < b.length) ∨ (a.length ≤ 5000 ∧ b.length ≤ 5000 ∧ 5000 < c.length) := by omega
    clear hbig
    rcases hcase with h1 | ⟨h1, h2⟩ | ⟨h1, h2, h3⟩
    all_goals
      go_enter Try.func4, Try.ntmps4
      go_wp2_with fail
      refine (example_any _).mono ?_
      rintro e w' ⟨rfl, hb'⟩
      go_wp2_with fail
      go_ret
      exact ⟨rfl, hb'⟩
  · have l1 : a.length ≤ 5000 := by omega
    have l2 : b.length ≤ 5000 := by omega
    have l3 : c.length ≤ 5000 := by omega
    clear hbig
    have p1 := pcmp_any a b _ _ w w.heap.size HA HB
    have p2 := pcmp_any b c _ _ w w.heap.size HB HC
    have p3 := pcmp_any a c _ _ w w.heap.size HA HC
    have p4 := rcmp_any a b _ _ w w.heap.size HA HB
    have p5 := fun n => pcmp_any b a _ _ (w.drewN n) w.heap.size (HB.below (drewN_below _ w n)) (HA.below (drewN_below _ w n))
    have p6 := fun n => pbeg_any a b _ _ (w.drewN n) w.heap.size (HA.below (drewN_below _ w n)) (HB.below (drewN_below _ w n))
    have p7 := fun n => rbeg_any a b _ _ (w.drewN n) w.heap.size (HA.below (drewN_below _ w n)) (HB.below (drewN_below _ w n))
    have q1 := cmpL_anti a b
    have q2 := cmpL_range b a
    have q3 := cmpL_trans a b c
    obtain ⟨X, hX⟩ : ∃ X, X = cmpL a b := ⟨_, rfl⟩
    obtain ⟨Y, hY⟩ : ∃ X, X = cmpL b c := ⟨_, rfl⟩
    obtain ⟨Z, hZ⟩ : ∃ X, X = cmpL a c := ⟨_, rfl⟩
    obtain ⟨R, hR⟩ : ∃ X, X = cmpL b a := ⟨_, rfl⟩
    obtain ⟨K, hK⟩ : ∃ X, X = b.isPrefixOf a := ⟨_, rfl⟩
    rw [← hX] at p1 p4 q1 q3
    rw [← hY] at p2 q3
    rw [← hZ] at p3 q3
    simp only [← hR] at p5 q1 q2
    simp only [← hK] at p6 p7
    have P1 := Lib.hid p1
    have P2 := Lib.hid p2
    have P3 := Lib.hid p3
    have P4 := Lib.hid p4
    have P5 := Lib.hid p5
    have P6 := Lib.hid p6
    have P7 := Lib.hid p7
    have hne : (X != -R) = false := by rw [q1]; simp
    obtain ⟨r1, r2⟩ := q2
    have hcs : ¬ X ≤ 0 ∨ (X ≤ 0 ∧ ¬ Y ≤ 0) ∨ (X ≤ 0 ∧ Y ≤ 0 ∧ Z ≤ 0) := by omega
    clear p1 p2 p3 p4 p5 p6 p7 q1 q3 hX hY hZ hR hK
    rcases hcs with h1 | ⟨h1, h2⟩ | ⟨h1, h2, h3⟩
    all_goals
      go_enter Try.func4, Try.ntmps4
      go_wp2_with fail
      refine P1.out.mono ?_
      rintro e w1 ⟨rfl, rfl⟩
      go_wp2_with fail
      refine P2.out.mono ?_
      rintro e w1 ⟨rfl, rfl⟩
      go_wp2_with fail
      refine P3.out.mono ?_
      rintro e w1 ⟨rfl, rfl⟩
      go_wp2_with fail
      refine P4.out.mono ?_
      rintro e w1 ⟨rfl, n1, rfl⟩
      go_wp2_with fail
      refine (P5.out n1).mono ?_
      rintro e w1 ⟨rfl, rfl⟩
      go_wp2_with fail
      refine (P6.out n1).mono ?_
      rintro e w1 ⟨rfl, rfl⟩
      go_wp2_with fail
      refine (P7.out n1).mono ?_
      rintro e w1 ⟨rfl, n2, rfl⟩
      go_wp2_with fail
      refine (example_any _).mono ?_
      rintro e w6 ⟨rfl, hb6⟩
      go_wp2_with fail
      go_ret
      exact ⟨rfl, (drewN_below _ w (n1 + n2)).trans hb6⟩
end Go.Proofs.Ytahnmnbjgbfeaaa
