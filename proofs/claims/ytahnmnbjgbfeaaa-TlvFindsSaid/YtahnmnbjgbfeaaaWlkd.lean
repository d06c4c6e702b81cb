/-
  The walk of the law on round trips.
-/
import Derived.Test.YtahnmnbjgbfeaaaWlkc
import Derived.Test.YtahnmnbjgbfeaaaJoi
namespace Go.Proofs.Ytahnmnbjgbfeaaa
set_option linter.unusedVariables false
set_option linter.unusedSimpArgs false
open Go.RowKit

theorem lens_flatten (ls : List (List UInt8)) : Lib.lens ls = ls.flatten.length := by
  induction ls with
  | nil => rfl
  | cons x r ih =>
    have : Lib.lens (x :: r) = x.length + Lib.lens r := by simp [Lib.lens]
    rw [this, ih, List.flatten_cons, List.length_append]
theorem splitL_length (n : Nat) (hn : 1 ≤ n) : ∀ (f : Nat) (l : List UInt8), l.length ≤ f → (splitL l n).length ≤ l.length
  | 0, l, h => by
    have : l = [] := List.eq_nil_of_length_eq_zero (by omega)
    subst this; exact Nat.le_refl _
  | f + 1, l, h => by
    rcases Nat.eq_zero_or_pos l.length with h0 | h0
    · have : l = [] := List.eq_nil_of_length_eq_zero h0
      subst this; exact Nat.le_refl _
    · rw [splitL_step l n hn h0, List.length_cons]
      have := splitL_length n hn f (l.drop n) (by simp; omega)
      simp at this
      omega
theorem padL_mod (l : List UInt8) (n : Nat) (h : 0 < n) : (padL l n).length % n = 0 ∧ (padL l n).length ≤ l.length + n := by
  obtain ⟨h1, h2⟩ := pad_room l.length n h
  have e : (padL l n).length = (l.length / n + 1) * n := by simp [padL]; omega
  rw [e]
  exact ⟨Nat.mul_mod_left _ _, h2⟩
theorem put_back (n k : Int) (h63 : n ≤ 9223372036854775807) (h : putC n k = 0) : getN (putM n k) = n ∧ getE (putM n k) = 0 ∧ ((putM n k).length : Int) = k := by
  unfold putC at h
  unfold putM
  split at h
  · omega
  · rename_i hk
    split at h
    · omega
    · rename_i hn
      rw [if_neg hk, if_neg hn]
      obtain ⟨N, rfl⟩ := Int.eq_ofNat_of_zero_le (show 0 ≤ n by omega)
      obtain ⟨K, rfl⟩ := Int.eq_ofNat_of_zero_le (show 0 ≤ k by omega)
      rw [Int.toNat_natCast, Int.toNat_natCast] at *
      have hlt : N < 256 ^ K := by
        rcases Nat.lt_or_ge N (256 ^ K) with h | h
        · exact h
        · exact absurd (.inr (by rw [pow_cast]; exact Int.ofNat_le.2 h)) hn
      have hv : numL (putL N K) = N := by rw [numL_putL, Nat.mod_eq_of_lt hlt]
      have hl : (putL N K).length = K := putL_length N K
      have h8 : ¬ 8 < (putL N K).length := by omega
      have hbig : ¬ bigN < numL (putL N K) := by rw [hv]; unfold bigN; omega
      exact ⟨by rw [getN, if_neg h8, if_neg hbig, hv], by rw [getE, if_neg h8, if_neg hbig], by rw [hl]⟩

set_option maxRecDepth 100000 in
set_option maxHeartbeats 6400000 in
theorem law_round_big (l : List UInt8) (v : Value) (n k : Int) (w : World) (hl : SL w w.heap.size v l) (h1 : 2000 < l.length) :
    Calls Try.prog 9 #[v, .int .i64 n, .int .i64 k] w fun e w' => e = .returned (.bool true) ∧ Below w.heap.size w w' := by
  obtain ⟨A1, c1, rfl, h11, h12, h13⟩ := hl
  go_enter Try.func9, Try.ntmps9
  go_wp2_with fail
  refine (example_any _).mono ?_
  rintro e w' ⟨rfl, hb'⟩
  go_wp2_with fail
  go_ret
  exact ⟨rfl, hb'⟩

set_option maxRecDepth 100000 in
set_option maxHeartbeats 6400000 in
theorem law_round_in_ok (l : List UInt8) (v : Value) (m : Nat) (k : Int) (w : World) (hl : SL w w.heap.size v l) (h1 : l.length ≤ 2000) (hm1 : 1 ≤ m) (hm2 : m ≤ 2000) (hn : (m : Int) ≤ 9223372036854775807) (hc : putC (m : Int) k = 0) :
    Calls Try.prog 9 #[v, .int .i64 (m : Int), .int .i64 k] w fun e w' => e = .returned (.bool true) ∧ Below w.heap.size w w' := by
    have HL := hl
    obtain ⟨A1, c1, rfl, h11, h12, h13⟩ := hl
    have hsz : (ByteArray.mk (hexL l).toArray).size ≤ 400000 := by show (hexL l).toArray.size ≤ _; rw [List.size_toArray, hexL_length]; omega
    have HSZ := Lib.hid hsz
    have HN := Lib.hid hn
    obtain ⟨q, hq⟩ : ∃ q, q = padL l m := ⟨_, rfl⟩
    have hpm := padL_mod l m (by omega)
    rw [← hq] at hpm
    obtain ⟨hp1, hp2⟩ := hpm
    have ht : ((q.length : Int) % (m : Int) != 0) = false := by
      rw [bne_eq_false_iff_eq, ← Int.natCast_emod]
      omega
    have HU : Hid (unpadL q = some l) := by show _ = _; rw [hq]; exact unpadL_padL l m
    have HQ := Lib.hid hq
    have HSL : Hid ((splitL l m).length ≤ 1000000) := by
      have := splitL_length m hm1 l.length l (Nat.le_refl _)
      exact Nat.le_trans this (by omega)
    have HJ : Hid ((splitL l m).flatten = l) := splitL_join m hm1 l.length l (Nat.le_refl _)
    have HLE : Hid (Lib.lens (splitL l m) ≤ 10000000) := by
      show _ ≤ _
      rw [lens_flatten, HJ.out]
      omega
    clear hq hp1
    obtain ⟨g1, g2, g3⟩ := put_back (m : Int) k hn hc
    obtain ⟨M, hM⟩ : ∃ M, M = putM (m : Int) k := ⟨_, rfl⟩
    rw [← hM] at g1 g2 g3
    have HG := Lib.hid g1
    have HE := Lib.hid g2
    have HM := Lib.hid hM
    have HC := Lib.hid hc
    have hlk : ((M.length : Int) == k) = true := by rw [g3]; simp
    clear hsz hn hc g1 g2 g3 hM
    go_enter Try.func9, Try.ntmps9
    go_wp2_with fail
    refine (phex_any l _ w HL (by omega)).mono ?_
    rintro e w1 ⟨rfl, hb1⟩
    go_wp2_with fail
    refine (pparse_some ⟨(hexL l).toArray⟩ l w1 HSZ.out (parseL_hexL l)).mono ?_
    rintro e w2 ⟨v2, rfl, hv2, hb2⟩
    go_wp2_with fail
    refine (same_yes l _ _ w2 w2.heap.size hv2 ((HL.on hb1).on hb2)).mono ?_
    rintro e w3 ⟨rfl, n3, rfl⟩
    have hb3 := drewN_below w2.heap.size w2 n3
    have s1 := hb1.size
    have s2 := hb2.size
    have hw2 : Below w.heap.size w w2 := hb1.trans (hb2.mono s1)
    have hw3 : Below w.heap.size w (w2.drewN n3) := hw2.trans (hb3.mono (by omega))
    have hl3 := HL.on hw3
    have s3 := hw3.size
    go_wp2_with fail
    refine (ppad_ok l _ m _ hl3 hm1 (by omega) (by omega)).mono ?_
    rintro e w4 ⟨v4, rfl, hv4, hb4⟩
    rw [← HQ.out] at hv4
    have hv4' := hv4
    obtain ⟨A4, c4, rfl, _, _, _⟩ := hv4'
    go_wp2_with fail
    refine (punpad_some q l _ w4 hv4 (by omega) HU.out).mono ?_
    rintro e w5 ⟨v5, rfl, hv5, hb5⟩
    have s4 := hb4.size
    have s5 := hb5.size
    have hw4 : Below w.heap.size w w4 := hw3.trans (hb4.mono s3)
    have hw5 : Below w.heap.size w w5 := hw4.trans (hb5.mono (by omega))
    go_wp2_with fail
    refine (psplit_ok l _ m w5 (HL.on hw5) hm1 (by omega) (by omega)).mono ?_
    rintro e w6 ⟨v6, rfl, hv6, hb6⟩
    have s6 := hb6.size
    have hw6 : Below w.heap.size w w6 := hw5.trans (hb6.mono (by omega))
    go_wp2_with fail
    refine (same_yes l _ _ w6 w6.heap.size (hv5.on hb6) (HL.on hw6)).mono ?_
    rintro e w7 ⟨rfl, n7, rfl⟩
    have hb7 := drewN_below w6.heap.size w6 n7
    go_wp2_with fail
    refine (pjoin_any (splitL l m) _ (w6.drewN n7) (hv6.on hb7) HSL.out HLE.out).mono ?_
    rintro e w8 ⟨v8, rfl, hv8, hb8⟩
    have s8 := hb8.size
    have hw7 : Below w.heap.size w (w6.drewN n7) := hw6.trans (hb7.mono (by omega))
    have hw8 : Below w.heap.size w w8 := hw7.trans (hb8.mono hw7.size)
    go_wp2_with fail
    rw [HJ.out] at hv8
    refine (same_yes l _ _ w8 w8.heap.size hv8 (HL.on hw8)).mono ?_
    rintro e w9 ⟨rfl, n9, rfl⟩
    have hwz : Below w.heap.size w (w8.drewN n9) := hw8.trans (drewN_below _ w8 n9)
    have sz := hwz.size
    go_wp2_with fail
    refine (pput_all (m : Int) k _ HN.out).mono ?_
    rintro e wa ⟨va, rfl, hva, hba⟩
    have sa := hba.size
    have hwa : Below w.heap.size w wa := hwz.trans (hba.mono sz)
    rw [HC.out]
    have hva' := hva
    obtain ⟨Aa, ca, rfl, _, _, _⟩ := hva'
    rw [← HM.out] at hva ⊢
    go_wp2_with fail
    refine (pget_any M _ wa wa.heap.size hva).mono ?_
    rintro e wb ⟨rfl, rfl⟩
    rw [HG.out, HE.out]
    go_wp2_with fail
    refine (example_any _).mono ?_
    rintro e wc ⟨rfl, hbc⟩
    go_wp2_with fail
    go_ret
    exact ⟨rfl, hwa.trans (hbc.mono hwa.size)⟩

set_option maxRecDepth 100000 in
set_option maxHeartbeats 6400000 in
theorem law_round_in_no (l : List UInt8) (v : Value) (m : Nat) (k : Int) (w : World) (hl : SL w w.heap.size v l) (h1 : l.length ≤ 2000) (hm1 : 1 ≤ m) (hm2 : m ≤ 2000) (hn : (m : Int) ≤ 9223372036854775807) (hc : putC (m : Int) k ≠ 0) :
    Calls Try.prog 9 #[v, .int .i64 (m : Int), .int .i64 k] w fun e w' => e = .returned (.bool true) ∧ Below w.heap.size w w' := by
    have HL := hl
    obtain ⟨A1, c1, rfl, h11, h12, h13⟩ := hl
    have hsz : (ByteArray.mk (hexL l).toArray).size ≤ 400000 := by show (hexL l).toArray.size ≤ _; rw [List.size_toArray, hexL_length]; omega
    have HSZ := Lib.hid hsz
    have HN := Lib.hid hn
    obtain ⟨q, hq⟩ : ∃ q, q = padL l m := ⟨_, rfl⟩
    have hpm := padL_mod l m (by omega)
    rw [← hq] at hpm
    obtain ⟨hp1, hp2⟩ := hpm
    have ht : ((q.length : Int) % (m : Int) != 0) = false := by
      rw [bne_eq_false_iff_eq, ← Int.natCast_emod]
      omega
    have HU : Hid (unpadL q = some l) := by show _ = _; rw [hq]; exact unpadL_padL l m
    have HQ := Lib.hid hq
    have HSL : Hid ((splitL l m).length ≤ 1000000) := by
      have := splitL_length m hm1 l.length l (Nat.le_refl _)
      exact Nat.le_trans this (by omega)
    have HJ : Hid ((splitL l m).flatten = l) := splitL_join m hm1 l.length l (Nat.le_refl _)
    have HLE : Hid (Lib.lens (splitL l m) ≤ 10000000) := by
      show _ ≤ _
      rw [lens_flatten, HJ.out]
      omega
    clear hq hp1
    obtain ⟨C, hC⟩ : ∃ C, C = putC (m : Int) k := ⟨_, rfl⟩
    have HC := Lib.hid hC
    have hcb : (C != 0) = true := by rw [hC, bne_iff_ne]; exact hc
    clear hsz hn hc hC
    go_enter Try.func9, Try.ntmps9
    go_wp2_with fail
    refine (phex_any l _ w HL (by omega)).mono ?_
    rintro e w1 ⟨rfl, hb1⟩
    go_wp2_with fail
    refine (pparse_some ⟨(hexL l).toArray⟩ l w1 HSZ.out (parseL_hexL l)).mono ?_
    rintro e w2 ⟨v2, rfl, hv2, hb2⟩
    go_wp2_with fail
    refine (same_yes l _ _ w2 w2.heap.size hv2 ((HL.on hb1).on hb2)).mono ?_
    rintro e w3 ⟨rfl, n3, rfl⟩
    have hb3 := drewN_below w2.heap.size w2 n3
    have s1 := hb1.size
    have s2 := hb2.size
    have hw2 : Below w.heap.size w w2 := hb1.trans (hb2.mono s1)
    have hw3 : Below w.heap.size w (w2.drewN n3) := hw2.trans (hb3.mono (by omega))
    have hl3 := HL.on hw3
    have s3 := hw3.size
    go_wp2_with fail
    refine (ppad_ok l _ m _ hl3 hm1 (by omega) (by omega)).mono ?_
    rintro e w4 ⟨v4, rfl, hv4, hb4⟩
    rw [← HQ.out] at hv4
    have hv4' := hv4
    obtain ⟨A4, c4, rfl, _, _, _⟩ := hv4'
    go_wp2_with fail
    refine (punpad_some q l _ w4 hv4 (by omega) HU.out).mono ?_
    rintro e w5 ⟨v5, rfl, hv5, hb5⟩
    have s4 := hb4.size
    have s5 := hb5.size
    have hw4 : Below w.heap.size w w4 := hw3.trans (hb4.mono s3)
    have hw5 : Below w.heap.size w w5 := hw4.trans (hb5.mono (by omega))
    go_wp2_with fail
    refine (psplit_ok l _ m w5 (HL.on hw5) hm1 (by omega) (by omega)).mono ?_
    rintro e w6 ⟨v6, rfl, hv6, hb6⟩
    have s6 := hb6.size
    have hw6 : Below w.heap.size w w6 := hw5.trans (hb6.mono (by omega))
    go_wp2_with fail
    refine (same_yes l _ _ w6 w6.heap.size (hv5.on hb6) (HL.on hw6)).mono ?_
    rintro e w7 ⟨rfl, n7, rfl⟩
    have hb7 := drewN_below w6.heap.size w6 n7
    go_wp2_with fail
    refine (pjoin_any (splitL l m) _ (w6.drewN n7) (hv6.on hb7) HSL.out HLE.out).mono ?_
    rintro e w8 ⟨v8, rfl, hv8, hb8⟩
    have s8 := hb8.size
    have hw7 : Below w.heap.size w (w6.drewN n7) := hw6.trans (hb7.mono (by omega))
    have hw8 : Below w.heap.size w w8 := hw7.trans (hb8.mono hw7.size)
    go_wp2_with fail
    rw [HJ.out] at hv8
    refine (same_yes l _ _ w8 w8.heap.size hv8 (HL.on hw8)).mono ?_
    rintro e w9 ⟨rfl, n9, rfl⟩
    have hwz : Below w.heap.size w (w8.drewN n9) := hw8.trans (drewN_below _ w8 n9)
    have sz := hwz.size
    go_wp2_with fail
    refine (pput_all (m : Int) k _ HN.out).mono ?_
    rintro e wa ⟨va, rfl, hva, hba⟩
    have sa := hba.size
    have hwa : Below w.heap.size w wa := hwz.trans (hba.mono sz)
    rw [← HC.out]
    go_wp2_with fail
    refine (example_any _).mono ?_
    rintro e wb ⟨rfl, hbb⟩
    go_wp2_with fail
    go_ret
    exact ⟨rfl, hwa.trans (hbb.mono (by have := hwa.size; omega))⟩

set_option maxRecDepth 100000 in
set_option maxHeartbeats 6400000 in
theorem law_round_lo_ok (l : List UInt8) (v : Value) (n k : Int) (w : World) (hl : SL w w.heap.size v l) (h1 : l.length ≤ 2000) (hlo : n < 1) (hn : n ≤ 9223372036854775807) (hc : putC n k = 0) :
    Calls Try.prog 9 #[v, .int .i64 n, .int .i64 k] w fun e w' => e = .returned (.bool true) ∧ Below w.heap.size w w' := by
    have HL := hl
    obtain ⟨A1, c1, rfl, h11, h12, h13⟩ := hl
    have hsz : (ByteArray.mk (hexL l).toArray).size ≤ 400000 := by show (hexL l).toArray.size ≤ _; rw [List.size_toArray, hexL_length]; omega
    have HSZ := Lib.hid hsz
    have HN := Lib.hid hn
    obtain ⟨g1, g2, g3⟩ := put_back n k hn hc
    obtain ⟨M, hM⟩ : ∃ M, M = putM n k := ⟨_, rfl⟩
    rw [← hM] at g1 g2 g3
    have HG := Lib.hid g1
    have HE := Lib.hid g2
    have HM := Lib.hid hM
    have HC := Lib.hid hc
    have hlk : ((M.length : Int) == k) = true := by rw [g3]; simp
    clear hsz hn hc g1 g2 g3 hM
    go_enter Try.func9, Try.ntmps9
    go_wp2_with fail
    refine (phex_any l _ w HL (by omega)).mono ?_
    rintro e w1 ⟨rfl, hb1⟩
    go_wp2_with fail
    refine (pparse_some ⟨(hexL l).toArray⟩ l w1 HSZ.out (parseL_hexL l)).mono ?_
    rintro e w2 ⟨v2, rfl, hv2, hb2⟩
    go_wp2_with fail
    refine (same_yes l _ _ w2 w2.heap.size hv2 ((HL.on hb1).on hb2)).mono ?_
    rintro e w3 ⟨rfl, n3, rfl⟩
    have hb3 := drewN_below w2.heap.size w2 n3
    have s1 := hb1.size
    have s2 := hb2.size
    have hw2 : Below w.heap.size w w2 := hb1.trans (hb2.mono s1)
    have hw3 : Below w.heap.size w (w2.drewN n3) := hw2.trans (hb3.mono (by omega))
    have hl3 := HL.on hw3
    have s3 := hw3.size
    go_wp2_with fail
    have hwz := hw3
    have sz := hwz.size
    refine (pput_all n k _ HN.out).mono ?_
    rintro e wa ⟨va, rfl, hva, hba⟩
    have sa := hba.size
    have hwa : Below w.heap.size w wa := hwz.trans (hba.mono sz)
    rw [HC.out]
    have hva' := hva
    obtain ⟨Aa, ca, rfl, _, _, _⟩ := hva'
    rw [← HM.out] at hva ⊢
    go_wp2_with fail
    refine (pget_any M _ wa wa.heap.size hva).mono ?_
    rintro e wb ⟨rfl, rfl⟩
    rw [HG.out, HE.out]
    go_wp2_with fail
    refine (example_any _).mono ?_
    rintro e wc ⟨rfl, hbc⟩
    go_wp2_with fail
    go_ret
    exact ⟨rfl, hwa.trans (hbc.mono hwa.size)⟩

set_option maxRecDepth 100000 in
set_option maxHeartbeats 6400000 in
theorem law_round_lo_no (l : List UInt8) (v : Value) (n k : Int) (w : World) (hl : SL w w.heap.size v l) (h1 : l.length ≤ 2000) (hlo : n < 1) (hn : n ≤ 9223372036854775807) (hc : putC n k ≠ 0) :
    Calls Try.prog 9 #[v, .int .i64 n, .int .i64 k] w fun e w' => e = .returned (.bool true) ∧ Below w.heap.size w w' := by
    have HL := hl
    obtain ⟨A1, c1, rfl, h11, h12, h13⟩ := hl
    have hsz : (ByteArray.mk (hexL l).toArray).size ≤ 400000 := by show (hexL l).toArray.size ≤ _; rw [List.size_toArray, hexL_length]; omega
    have HSZ := Lib.hid hsz
    have HN := Lib.hid hn
    obtain ⟨C, hC⟩ : ∃ C, C = putC n k := ⟨_, rfl⟩
    have HC := Lib.hid hC
    have hcb : (C != 0) = true := by rw [hC, bne_iff_ne]; exact hc
    clear hsz hn hc hC
    go_enter Try.func9, Try.ntmps9
    go_wp2_with fail
    refine (phex_any l _ w HL (by omega)).mono ?_
    rintro e w1 ⟨rfl, hb1⟩
    go_wp2_with fail
    refine (pparse_some ⟨(hexL l).toArray⟩ l w1 HSZ.out (parseL_hexL l)).mono ?_
    rintro e w2 ⟨v2, rfl, hv2, hb2⟩
    go_wp2_with fail
    refine (same_yes l _ _ w2 w2.heap.size hv2 ((HL.on hb1).on hb2)).mono ?_
    rintro e w3 ⟨rfl, n3, rfl⟩
    have hb3 := drewN_below w2.heap.size w2 n3
    have s1 := hb1.size
    have s2 := hb2.size
    have hw2 : Below w.heap.size w w2 := hb1.trans (hb2.mono s1)
    have hw3 : Below w.heap.size w (w2.drewN n3) := hw2.trans (hb3.mono (by omega))
    have hl3 := HL.on hw3
    have s3 := hw3.size
    go_wp2_with fail
    have hwz := hw3
    have sz := hwz.size
    refine (pput_all n k _ HN.out).mono ?_
    rintro e wa ⟨va, rfl, hva, hba⟩
    have sa := hba.size
    have hwa : Below w.heap.size w wa := hwz.trans (hba.mono sz)
    rw [← HC.out]
    go_wp2_with fail
    refine (example_any _).mono ?_
    rintro e wb ⟨rfl, hbb⟩
    go_wp2_with fail
    go_ret
    exact ⟨rfl, hwa.trans (hbb.mono (by have := hwa.size; omega))⟩

set_option maxRecDepth 100000 in
set_option maxHeartbeats 6400000 in
theorem law_round_hi_ok (l : List UInt8) (v : Value) (n k : Int) (w : World) (hl : SL w w.heap.size v l) (h1 : l.length ≤ 2000) (hhi : 2000 < n) (hn : n ≤ 9223372036854775807) (hc : putC n k = 0) :
    Calls Try.prog 9 #[v, .int .i64 n, .int .i64 k] w fun e w' => e = .returned (.bool true) ∧ Below w.heap.size w w' := by
    have HL := hl
    obtain ⟨A1, c1, rfl, h11, h12, h13⟩ := hl
    have hsz : (ByteArray.mk (hexL l).toArray).size ≤ 400000 := by show (hexL l).toArray.size ≤ _; rw [List.size_toArray, hexL_length]; omega
    have HSZ := Lib.hid hsz
    have HN := Lib.hid hn
    obtain ⟨g1, g2, g3⟩ := put_back n k hn hc
    obtain ⟨M, hM⟩ : ∃ M, M = putM n k := ⟨_, rfl⟩
    rw [← hM] at g1 g2 g3
    have HG := Lib.hid g1
    have HE := Lib.hid g2
    have HM := Lib.hid hM
    have HC := Lib.hid hc
    have hlk : ((M.length : Int) == k) = true := by rw [g3]; simp
    clear hsz hn hc g1 g2 g3 hM
    go_enter Try.func9, Try.ntmps9
    go_wp2_with fail
    refine (phex_any l _ w HL (by omega)).mono ?_
    rintro e w1 ⟨rfl, hb1⟩
    go_wp2_with fail
    refine (pparse_some ⟨(hexL l).toArray⟩ l w1 HSZ.out (parseL_hexL l)).mono ?_
    rintro e w2 ⟨v2, rfl, hv2, hb2⟩
    go_wp2_with fail
    refine (same_yes l _ _ w2 w2.heap.size hv2 ((HL.on hb1).on hb2)).mono ?_
    rintro e w3 ⟨rfl, n3, rfl⟩
    have hb3 := drewN_below w2.heap.size w2 n3
    have s1 := hb1.size
    have s2 := hb2.size
    have hw2 : Below w.heap.size w w2 := hb1.trans (hb2.mono s1)
    have hw3 : Below w.heap.size w (w2.drewN n3) := hw2.trans (hb3.mono (by omega))
    have hl3 := HL.on hw3
    have s3 := hw3.size
    go_wp2_with fail
    have hwz := hw3
    have sz := hwz.size
    refine (pput_all n k _ HN.out).mono ?_
    rintro e wa ⟨va, rfl, hva, hba⟩
    have sa := hba.size
    have hwa : Below w.heap.size w wa := hwz.trans (hba.mono sz)
    rw [HC.out]
    have hva' := hva
    obtain ⟨Aa, ca, rfl, _, _, _⟩ := hva'
    rw [← HM.out] at hva ⊢
    go_wp2_with fail
    refine (pget_any M _ wa wa.heap.size hva).mono ?_
    rintro e wb ⟨rfl, rfl⟩
    rw [HG.out, HE.out]
    go_wp2_with fail
    refine (example_any _).mono ?_
    rintro e wc ⟨rfl, hbc⟩
    go_wp2_with fail
    go_ret
    exact ⟨rfl, hwa.trans (hbc.mono hwa.size)⟩

set_option maxRecDepth 100000 in
set_option maxHeartbeats 6400000 in
theorem law_round_hi_no (l : List UInt8) (v : Value) (n k : Int) (w : World) (hl : SL w w.heap.size v l) (h1 : l.length ≤ 2000) (hhi : 2000 < n) (hn : n ≤ 9223372036854775807) (hc : putC n k ≠ 0) :
    Calls Try.prog 9 #[v, .int .i64 n, .int .i64 k] w fun e w' => e = .returned (.bool true) ∧ Below w.heap.size w w' := by
    have HL := hl
    obtain ⟨A1, c1, rfl, h11, h12, h13⟩ := hl
    have hsz : (ByteArray.mk (hexL l).toArray).size ≤ 400000 := by show (hexL l).toArray.size ≤ _; rw [List.size_toArray, hexL_length]; omega
    have HSZ := Lib.hid hsz
    have HN := Lib.hid hn
    obtain ⟨C, hC⟩ : ∃ C, C = putC n k := ⟨_, rfl⟩
    have HC := Lib.hid hC
    have hcb : (C != 0) = true := by rw [hC, bne_iff_ne]; exact hc
    clear hsz hn hc hC
    go_enter Try.func9, Try.ntmps9
    go_wp2_with fail
    refine (phex_any l _ w HL (by omega)).mono ?_
    rintro e w1 ⟨rfl, hb1⟩
    go_wp2_with fail
    refine (pparse_some ⟨(hexL l).toArray⟩ l w1 HSZ.out (parseL_hexL l)).mono ?_
    rintro e w2 ⟨v2, rfl, hv2, hb2⟩
    go_wp2_with fail
    refine (same_yes l _ _ w2 w2.heap.size hv2 ((HL.on hb1).on hb2)).mono ?_
    rintro e w3 ⟨rfl, n3, rfl⟩
    have hb3 := drewN_below w2.heap.size w2 n3
    have s1 := hb1.size
    have s2 := hb2.size
    have hw2 : Below w.heap.size w w2 := hb1.trans (hb2.mono s1)
    have hw3 : Below w.heap.size w (w2.drewN n3) := hw2.trans (hb3.mono (by omega))
    have hl3 := HL.on hw3
    have s3 := hw3.size
    go_wp2_with fail
    have hwz := hw3
    have sz := hwz.size
    refine (pput_all n k _ HN.out).mono ?_
    rintro e wa ⟨va, rfl, hva, hba⟩
    have sa := hba.size
    have hwa : Below w.heap.size w wa := hwz.trans (hba.mono sz)
    rw [← HC.out]
    go_wp2_with fail
    refine (example_any _).mono ?_
    rintro e wb ⟨rfl, hbb⟩
    go_wp2_with fail
    go_ret
    exact ⟨rfl, hwa.trans (hbb.mono (by have := hwa.size; omega))⟩

theorem law_round (l : List UInt8) (v : Value) (n k : Int) (w : World) (hl : SL w w.heap.size v l) (hn : n ≤ 9223372036854775807) :
    Calls Try.prog 9 #[v, .int .i64 n, .int .i64 k] w fun e w' => e = .returned (.bool true) ∧ Below w.heap.size w w' := by
  by_cases h1 : 2000 < l.length
  · exact law_round_big l v n k w hl h1
  · by_cases hc : putC n k = 0
    · by_cases h2 : n < 1
      · exact law_round_lo_ok l v n k w hl (by omega) h2 hn hc
      · by_cases h3 : 2000 < n
        · exact law_round_hi_ok l v n k w hl (by omega) h3 hn hc
        · obtain ⟨m, rfl⟩ := Int.eq_ofNat_of_zero_le (show 0 ≤ n by omega)
          exact law_round_in_ok l v m k w hl (by omega) (by omega) (by omega) hn hc
    · by_cases h2 : n < 1
      · exact law_round_lo_no l v n k w hl (by omega) h2 hn hc
      · by_cases h3 : 2000 < n
        · exact law_round_hi_no l v n k w hl (by omega) h3 hn hc
        · obtain ⟨m, rfl⟩ := Int.eq_ofNat_of_zero_le (show 0 ≤ n by omega)
          exact law_round_in_no l v m k w hl (by omega) (by omega) (by omega) hn hc
end Go.Proofs.Ytahnmnbjgbfeaaa
