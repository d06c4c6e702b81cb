/-
  The walk of the law on pieces.
-/
import Derived.Test.YtahnmnbjgbfeaaaPieb
namespace Go.Proofs.Ytahnmnbjgbfeaaa
set_option linter.unusedVariables false
set_option linter.unusedSimpArgs false
open Go.RowKit

def splM (l : List UInt8) (n : Int) : List (List UInt8) := if n < 1 then [] else splitL l n.toNat
def splC (n : Int) : Int := if n < 1 then 1 else 0
theorem nilLL (w : World) : LL w w.heap.size (.slice none 0 0) [] := (OL.nil w 0).ll
theorem psplit_all (l : List UInt8) (v : Value) (n : Int) (w : World) (hl : SL w w.heap.size v l) (hn : n ≤ 9223372036854775807) (hs : l.length ≤ 100000) :
    Calls Try.prog 41 #[v, .int .i64 n] w fun e w' => ∃ v', e = .returned (.tuple #[v', .int .i64 (splC n)]) ∧ LL w' w'.heap.size v' (splM l n) ∧ Below w.heap.size w w' := by
  by_cases h : n < 1
  · refine (psplit_arg v n w h).mono fun e w' ⟨he, hw⟩ => ⟨_, by rw [splC, if_pos h]; exact he, ?_, by rw [← hw]; exact Below.refl _ _⟩
    rw [splM, if_pos h]; exact nilLL _
  · obtain ⟨m, rfl⟩ := Int.eq_ofNat_of_zero_le (show 0 ≤ n by omega)
    refine (psplit_ok l v m w hl (by omega) (by omega) hs).mono fun e w' ⟨v', he, h1, h2⟩ => ⟨v', by rw [splC, if_neg h]; exact he, ?_, h2⟩
    rw [splM, if_neg h]; exact h1
theorem rsplit_all (l : List UInt8) (v : Value) (n : Int) (w : World) (hl : SL w w.heap.size v l) (hn : n ≤ 9223372036854775807) (hs : l.length ≤ 100000) :
    Calls Try.prog 42 #[v, .int .i64 n] w fun e w' => ∃ v', e = .returned (.tuple #[v', .int .i64 (splC n)]) ∧ LL w' w'.heap.size v' (splM l n) ∧ Below w.heap.size w w' := by
  by_cases h : n < 1
  · refine (rsplit_arg v n w h).mono fun e w' ⟨he, hw⟩ => ⟨_, by rw [splC, if_pos h]; exact he, ?_, by rw [← hw]; exact Below.refl _ _⟩
    rw [splM, if_pos h]; exact nilLL _
  · obtain ⟨m, rfl⟩ := Int.eq_ofNat_of_zero_le (show 0 ≤ n by omega)
    refine (rsplit_ok l v m w hl (by omega) (by omega) hs).mono fun e w' ⟨v', he, h1, h2⟩ => ⟨v', by rw [splC, if_neg h]; exact he, ?_, h2⟩
    rw [splM, if_neg h]; exact h1

set_option maxRecDepth 100000 in
set_option maxHeartbeats 3200000 in
theorem law_pieces (ls : List (List UInt8)) (v : Value) (n : Int) (w : World) (hl : LL w w.heap.size v ls) (hr : ∀ k, k < ls.length → (ls.getD k []).length ≤ 140737488351232) (hn : n ≤ 9223372036854775807) :
    Calls Try.prog 8 #[v, .int .i64 n] w fun e w' => e = .returned (.bool true) ∧ Below w.heap.size w w' := by
  have HL := hl
  obtain ⟨A, c, vs, rfl, h1, h2, h3, h4, h5⟩ := hl
  unfold maxLen at h2
  have HR := Lib.hid hr
  have HN := Lib.hid hn
  clear hr hn
  go_enter Try.func8, Try.ntmps8
  go_wp2_with fail
  go_loop [5, 6] (fun a i => ∃ k : Nat, k ≤ ls.length ∧ k ≤ 41 ∧ i = .int .i64 k ∧ a = .int .i64 (((ls.take k).flatten).length : Int) ∧ ((ls.take k).flatten).length ≤ 5000) (fun _ i => ls.length - (intOf i).toNat)
  case atStart => exact ⟨0, Nat.zero_le _, by omega, rfl, rfl, by simp⟩
  case round =>
    obtain ⟨k, hk, hk41, rfl, rfl, hsum⟩ := hrel
    obtain ⟨S, hS⟩ : ∃ S, S = ((ls.take k).flatten).length := ⟨_, rfl⟩
    rw [← hS] at hsum ⊢
    have HS := Lib.hid hS
    clear hS
    by_cases hkl : k < ls.length
    · by_cases hk4 : k < 41
      · obtain ⟨b, o, rfl, hb, hc⟩ := h4.out (by omega)
        have hck := hc k hkl
        obtain ⟨Ak, ck, ek, _, _, hrk⟩ := h5.out k hkl
        rw [ek] at hck
        have hfl := flatten_take_succ ls k hkl
        have hrr := HR.out k hkl
        obtain ⟨q, hq⟩ : ∃ q, q = ls.getD k [] := ⟨_, rfl⟩
        rw [← hq] at hck hrk hfl hrr
        have HF := Lib.hid hfl
        clear hc ek hfl hq
        by_cases hbig : 5000 < S + q.length
        · go_wp2_with fail
          refine (example_any _).mono ?_
          rintro e w' ⟨rfl, hb'⟩
          go_wp2_with fail
          go_ret
          exact ⟨rfl, hb'⟩
        · go_wp2_with fail
          go_round
          case rel =>
            have hlen : ((ls.take (k + 1)).flatten).length = S + q.length := by rw [HF.out, List.length_append, HS.out]
            exact ⟨k + 1, by omega, by omega, by go_num, by rw [hlen]; go_num, by rw [hlen]; omega⟩
          case measure => simp [intOf]; omega
      · have hlong : 40 < ls.length := by omega
        go_wp2_with fail
        refine (example_any _).mono ?_
        rintro e w' ⟨rfl, hb'⟩
        go_wp2_with fail
        go_ret
        exact ⟨rfl, hb'⟩
    · have hke : k = ls.length := by omega
      by_cases hlong : 40 < ls.length
      · go_wp2_with fail
        refine (example_any _).mono ?_
        rintro e w' ⟨rfl, hb'⟩
        go_wp2_with fail
        go_ret
        exact ⟨rfl, hb'⟩
      · have hft : ls.flatten.length ≤ 5000 := by
          have := HS.out
          rw [hke, List.take_length] at this
          omega
        have hle : Lib.lens ls ≤ 10000000 := by rw [lens_flatten]; omega
        have HFT := Lib.hid hft
        have HLE := Lib.hid hle
        have hkge : ls.length ≤ k := by omega
        clear hft hle hke
        go_wp2_with fail
        refine (pjoin_any ls _ w HL (by omega) HLE.out).mono ?_
        rintro e w1 ⟨v1, rfl, hv1, hb1⟩
        go_wp2_with fail
        refine (rjoin_any ls _ w1 (HL.on hb1) (by omega) (Nat.le_trans HFT.out (by omega))).mono ?_
        rintro e w2 ⟨v2, rfl, hv2, hb2⟩
        have s1 := hb1.size
        have s2 := hb2.size
        have hw2 : Below w.heap.size w w2 := hb1.trans (hb2.mono s1)
        go_wp2_with fail
        refine (same_yes ls.flatten _ _ w2 w2.heap.size (hv1.on hb2) hv2).mono ?_
        rintro e w3 ⟨rfl, n3, rfl⟩
        have hb3 := drewN_below w2.heap.size w2 n3
        have hw3 : Below w.heap.size w (w2.drewN n3) := hw2.trans (drewN_below _ w2 n3)
        have s3 := hw3.size
        go_wp2_with fail
        refine (psplit_all ls.flatten _ n (w2.drewN n3) ((hv1.on hb2).on hb3) HN.out (Nat.le_trans HFT.out (by omega))).mono ?_
        rintro e w4 ⟨v4, rfl, hv4, hb4⟩
        have hw4 : Below w.heap.size w w4 := hw3.trans (hb4.mono s3)
        have s4 := hw4.size
        go_wp2_with fail
        refine (rjoin_any ls _ w4 (HL.on hw4) (by omega) (Nat.le_trans HFT.out (by omega))).mono ?_
        rintro e w5 ⟨v5, rfl, hv5, hb5⟩
        have hw5 : Below w.heap.size w w5 := hw4.trans (hb5.mono s4)
        have s5 := hw5.size
        go_wp2_with fail
        refine (rsplit_all ls.flatten _ n w5 hv5 HN.out (Nat.le_trans HFT.out (by omega))).mono ?_
        rintro e w6 ⟨v6, rfl, hv6, hb6⟩
        have hw6 : Below w.heap.size w w6 := hw5.trans (hb6.mono s5)
        go_wp2_with fail
        refine (sames_yes (splM ls.flatten n) _ _ w6 w6.heap.size ((hv4.on hb5).on hb6) hv6).mono ?_
        rintro e w7 ⟨rfl, n7, rfl⟩
        have hw7 : Below w.heap.size w (w6.drewN n7) := hw6.trans (drewN_below _ w6 n7)
        go_wp2_with fail
        refine (example_any _).mono ?_
        rintro e w8 ⟨rfl, hb8⟩
        go_wp2_with fail
        go_ret
        exact ⟨rfl, hw7.trans (hb8.mono hw7.size)⟩
end Go.Proofs.Ytahnmnbjgbfeaaa
