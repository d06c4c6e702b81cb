/-
  The walks of the laws on padding and on numbers.
-/
import Derived.Test.YtahnmnbjgbfeaaaWlka
import Derived.Test.YtahnmnbjgbfeaaaNum
namespace Go.Proofs.Ytahnmnbjgbfeaaa
set_option linter.unusedVariables false
set_option linter.unusedSimpArgs false
open Go.RowKit

def padM (l : List UInt8) (n : Int) : List UInt8 := if n < 1 ∨ 65536 < n then [] else padL l n.toNat
def padC (n : Int) : Int := if n < 1 ∨ 65536 < n then 1 else 0
def unpM (l : List UInt8) : List UInt8 := (unpadL l).getD []
def unpC (l : List UInt8) : Int := if (unpadL l).isSome then 0 else 4
def putM (n k : Int) : List UInt8 := if k < 1 ∨ 8 < k then [] else if n < 0 ∨ (256 : Int) ^ k.toNat ≤ n then [] else putL n.toNat k.toNat
def putC (n k : Int) : Int := if k < 1 ∨ 8 < k then 1 else if n < 0 ∨ (256 : Int) ^ k.toNat ≤ n then 2 else 0

theorem nilSL (w : World) : SL w w.heap.size (.slice none 0 0) [] := SL.nil _ _ _ _ (Nat.zero_le _)

theorem ppad_all (l : List UInt8) (v : Value) (n : Int) (w : World) (hl : SL w w.heap.size v l) (hs : l.length ≤ 60000) :
    Calls Try.prog 31 #[v, .int .i64 n] w fun e w' => ∃ v', e = .returned (.tuple #[v', .int .i64 (padC n)]) ∧ SL w' w'.heap.size v' (padM l n) ∧ Below w.heap.size w w' := by
  by_cases h : n < 1 ∨ 65536 < n
  · refine (ppad_arg l v n w h).mono fun e w' ⟨he, hw⟩ => ⟨_, by rw [padC, if_pos h]; exact he, ?_, by rw [← hw]; exact Below.refl _ _⟩
    rw [padM, if_pos h]; exact nilSL _
  · obtain ⟨m, rfl⟩ := Int.eq_ofNat_of_zero_le (show 0 ≤ n by omega)
    refine (ppad_ok l v m w hl (by omega) (by omega) hs).mono fun e w' ⟨v', he, h1, h2⟩ => ⟨v', by rw [padC, if_neg h]; exact he, ?_, h2⟩
    rw [padM, if_neg h]; exact h1
theorem rpad_all (l : List UInt8) (v : Value) (n : Int) (w : World) (hl : SL w w.heap.size v l) (hs : l.length ≤ 60000) :
    Calls Try.prog 32 #[v, .int .i64 n] w fun e w' => ∃ v', e = .returned (.tuple #[v', .int .i64 (padC n)]) ∧ SL w' w'.heap.size v' (padM l n) ∧ Below w.heap.size w w' := by
  by_cases h : n < 1 ∨ 65536 < n
  · refine (rpad_arg v n w h).mono fun e w' ⟨he, hw⟩ => ⟨_, by rw [padC, if_pos h]; exact he, ?_, by rw [← hw]; exact Below.refl _ _⟩
    rw [padM, if_pos h]; exact nilSL _
  · obtain ⟨m, rfl⟩ := Int.eq_ofNat_of_zero_le (show 0 ≤ n by omega)
    refine (rpad_ok l v m w hl (by omega) (by omega) hs).mono fun e w' ⟨v', he, h1, h2⟩ => ⟨v', by rw [padC, if_neg h]; exact he, ?_, h2⟩
    rw [padM, if_neg h]; exact h1
theorem unpC_some {l m : List UInt8} (h : unpadL l = some m) : unpC l = 0 ∧ unpM l = m := by simp [unpC, unpM, h]
theorem unpC_none {l : List UInt8} (h : unpadL l = none) : unpC l = 4 ∧ unpM l = [] := by simp [unpC, unpM, h]
theorem punpad_all (l : List UInt8) (v : Value) (w : World) (hl : SL w w.heap.size v l) (hs : l.length ≤ 200000) :
    Calls Try.prog 33 #[v] w fun e w' => ∃ v', e = .returned (.tuple #[v', .int .i64 (unpC l)]) ∧ SL w' w'.heap.size v' (unpM l) ∧ Below w.heap.size w w' :=
  punpad_any l v w hl hs _ (fun m hm v' w' h1 h2 => ⟨v', by rw [(unpC_some hm).1], by rw [(unpC_some hm).2]; exact h1, h2⟩)
    (fun hm => ⟨_, by rw [(unpC_none hm).1], by rw [(unpC_none hm).2]; exact nilSL _, Below.refl _ _⟩)
theorem runpad_all (l : List UInt8) (v : Value) (w : World) (hl : SL w w.heap.size v l) (hs : l.length ≤ 200000) :
    Calls Try.prog 34 #[v] w fun e w' => ∃ v', e = .returned (.tuple #[v', .int .i64 (unpC l)]) ∧ SL w' w'.heap.size v' (unpM l) ∧ Below w.heap.size w w' :=
  runpad_any l v w hl hs _ (fun m hm v' w' h1 h2 => ⟨v', by rw [(unpC_some hm).1], by rw [(unpC_some hm).2]; exact h1, h2⟩)
    (fun hm => ⟨_, by rw [(unpC_none hm).1], by rw [(unpC_none hm).2]; exact nilSL _, Below.refl _ _⟩)

theorem pow_cast (k : Nat) : (256 : Int) ^ k = ((256 ^ k : Nat) : Int) := by simp
theorem pput_all (n k : Int) (w : World) (h63 : n ≤ 9223372036854775807) :
    Calls Try.prog 35 #[.int .i64 n, .int .i64 k] w fun e w' => ∃ v', e = .returned (.tuple #[v', .int .i64 (putC n k)]) ∧ SL w' w'.heap.size v' (putM n k) ∧ Below w.heap.size w w' := by
  by_cases h : k < 1 ∨ 8 < k
  · refine (pput_arg n k w h).mono fun e w' ⟨he, hw⟩ => ⟨_, by rw [putC, if_pos h]; exact he, ?_, by rw [← hw]; exact Below.refl _ _⟩
    rw [putM, if_pos h]; exact nilSL _
  · by_cases hn : n < 0
    · have h2 : n < 0 ∨ (256 : Int) ^ k.toNat ≤ n := .inl hn
      refine (pput_neg n k w (by omega) (by omega) hn).mono fun e w' ⟨he, hw⟩ => ⟨_, by rw [putC, if_neg h, if_pos h2]; exact he, ?_, by rw [← hw]; exact Below.refl _ _⟩
      rw [putM, if_neg h, if_pos h2]; exact nilSL _
    · obtain ⟨N, rfl⟩ := Int.eq_ofNat_of_zero_le (show 0 ≤ n by omega)
      obtain ⟨K, rfl⟩ := Int.eq_ofNat_of_zero_le (show 0 ≤ k by omega)
      by_cases hb : 256 ^ K ≤ N
      · have h2 : (N : Int) < 0 ∨ (256 : Int) ^ (K : Int).toNat ≤ N := .inr (by rw [Int.toNat_natCast, pow_cast]; exact Int.ofNat_le.2 hb)
        refine (pput_range N K w (by omega) (by omega) (by omega) hb).mono fun e w' ⟨he, hw⟩ => ⟨_, by rw [putC, if_neg h, if_pos h2]; exact he, ?_, by rw [← hw]; exact Below.refl _ _⟩
        rw [putM, if_neg h, if_pos h2]; exact nilSL _
      · have h2 : ¬ ((N : Int) < 0 ∨ (256 : Int) ^ (K : Int).toNat ≤ N) := by
          rw [Int.toNat_natCast, pow_cast]
          intro hh
          rcases hh with hh | hh
          · omega
          · exact hb (Int.ofNat_le.1 hh)
        refine (pput_ok N K w (by omega) (by omega) (by omega) (by omega)).mono fun e w' ⟨v', he, h3, h4⟩ => ⟨v', by rw [putC, if_neg h, if_neg h2]; exact he, ?_, h4⟩
        rw [putM, if_neg h, if_neg h2]; exact h3
theorem rput_all (n k : Int) (w : World) (h63 : n ≤ 9223372036854775807) :
    Calls Try.prog 36 #[.int .i64 n, .int .i64 k] w fun e w' => ∃ v', e = .returned (.tuple #[v', .int .i64 (putC n k)]) ∧ SL w' w'.heap.size v' (putM n k) ∧ Below w.heap.size w w' := by
  by_cases h : k < 1 ∨ 8 < k
  · refine (rput_arg n k w h).mono fun e w' ⟨he, hw⟩ => ⟨_, by rw [putC, if_pos h]; exact he, ?_, by rw [← hw]; exact Below.refl _ _⟩
    rw [putM, if_pos h]; exact nilSL _
  · by_cases hn : n < 0
    · have h2 : n < 0 ∨ (256 : Int) ^ k.toNat ≤ n := .inl hn
      refine (rput_neg n k w (by omega) (by omega) hn).mono fun e w' ⟨he, hw⟩ => ⟨_, by rw [putC, if_neg h, if_pos h2]; exact he, ?_, by rw [← hw]; exact Below.refl _ _⟩
      rw [putM, if_neg h, if_pos h2]; exact nilSL _
    · obtain ⟨N, rfl⟩ := Int.eq_ofNat_of_zero_le (show 0 ≤ n by omega)
      obtain ⟨K, rfl⟩ := Int.eq_ofNat_of_zero_le (show 0 ≤ k by omega)
      refine rput_any N K w (by omega) (by omega) (by omega) _ (fun hb v' w' h3 h4 => ?_) (fun hb w' h4 => ?_)
      · have h2 : ¬ ((N : Int) < 0 ∨ (256 : Int) ^ (K : Int).toNat ≤ N) := by
          rw [Int.toNat_natCast, pow_cast]
          intro hh
          rcases hh with hh | hh
          · omega
          · exact absurd (Int.ofNat_le.1 hh) (by omega)
        exact ⟨v', by rw [putC, if_neg h, if_neg h2], by rw [putM, if_neg h, if_neg h2]; exact h3, h4⟩
      · have h2 : (N : Int) < 0 ∨ (256 : Int) ^ (K : Int).toNat ≤ N := .inr (by rw [Int.toNat_natCast, pow_cast]; exact Int.ofNat_le.2 hb)
        exact ⟨_, by rw [putC, if_neg h, if_pos h2], by rw [putM, if_neg h, if_pos h2]; exact nilSL _, h4⟩

set_option maxRecDepth 100000 in
set_option maxHeartbeats 3200000 in
theorem law_pads (l : List UInt8) (v : Value) (n : Int) (w : World) (hl : SL w w.heap.size v l) :
    Calls Try.prog 6 #[v, .int .i64 n] w fun e w' => e = .returned (.bool true) ∧ Below w.heap.size w w' := by
  have HL := hl
  obtain ⟨A1, c1, rfl, h11, h12, h13⟩ := hl
  have hcs : 2000 < l.length ∨ (l.length ≤ 2000 ∧ 2000 < n ∧ n ≤ 65536) ∨ (l.length ≤ 2000 ∧ 2000 < n ∧ 65536 < n) ∨ (l.length ≤ 2000 ∧ n ≤ 2000) := by omega
  rcases hcs with h1 | ⟨h1, h2, h3⟩ | hcs
  · go_enter Try.func6, Try.ntmps6
    go_wp2_with fail
    refine (example_any _).mono ?_
    rintro e w' ⟨rfl, hb'⟩
    go_wp2_with fail
    go_ret
    exact ⟨rfl, hb'⟩
  · go_enter Try.func6, Try.ntmps6
    go_wp2_with fail
    refine (example_any _).mono ?_
    rintro e w' ⟨rfl, hb'⟩
    go_wp2_with fail
    go_ret
    exact ⟨rfl, hb'⟩
  · rcases hcs with ⟨h1, h2, h3⟩ | ⟨h1, h2⟩
    all_goals
      go_enter Try.func6, Try.ntmps6
      go_wp2_with fail
      refine (ppad_all l _ n w HL (by omega)).mono ?_
      rintro e w1 ⟨v1, rfl, hv1, hb1⟩
      go_wp2_with fail
      refine (rpad_all l _ n w1 (HL.on hb1) (by omega)).mono ?_
      rintro e w2 ⟨v2, rfl, hv2, hb2⟩
      go_wp2_with fail
      refine (punpad_all l _ w2 ((HL.on hb1).on hb2) (by omega)).mono ?_
      rintro e w3 ⟨v3, rfl, hv3, hb3⟩
      go_wp2_with fail
      refine (runpad_all l _ w3 (((HL.on hb1).on hb2).on hb3) (by omega)).mono ?_
      rintro e w4 ⟨v4, rfl, hv4, hb4⟩
      go_wp2_with fail
      refine (same_yes (padM l n) _ _ w4 w4.heap.size (((hv1.on hb2).on hb3).on hb4) ((hv2.on hb3).on hb4)).mono ?_
      rintro e w5 ⟨rfl, n5, rfl⟩
      have hb5 := drewN_below w4.heap.size w4 n5
      go_wp2_with fail
      refine (same_yes (unpM l) _ _ (w4.drewN n5) (w4.drewN n5).heap.size ((hv3.on hb4).on hb5) (hv4.on hb5)).mono ?_
      rintro e w6 ⟨rfl, n6, rfl⟩
      go_wp2_with fail
      refine (example_any _).mono ?_
      rintro e w7 ⟨rfl, hb7⟩
      go_wp2_with fail
      go_ret
      have m1 := hb1.size
      have m2 := hb2.size
      have m3 := hb3.size
      have m4 := hb4.size
      exact ⟨rfl, ((((hb1.trans (hb2.mono m1)).trans (hb3.mono (by omega))).trans (hb4.mono (by omega))).trans (drewN_below _ w4 (n5 + n6))).trans (hb7.mono (show w.heap.size ≤ w4.heap.size by omega))⟩

set_option maxRecDepth 100000 in
set_option maxHeartbeats 3200000 in
theorem law_numbers (n k : Int) (l : List UInt8) (v : Value) (w : World) (hl : SL w w.heap.size v l) (hn : n ≤ 9223372036854775807) :
    Calls Try.prog 7 #[.int .i64 n, .int .i64 k, v] w fun e w' => e = .returned (.bool true) ∧ Below w.heap.size w w' := by
  have HL := hl
  obtain ⟨A1, c1, rfl, h11, h12, h13⟩ := hl
  have HN := Lib.hid hn
  clear hn
  by_cases h1 : 5000 < l.length
  · go_enter Try.func7, Try.ntmps7
    go_wp2_with fail
    refine (example_any _).mono ?_
    rintro e w' ⟨rfl, hb'⟩
    go_wp2_with fail
    go_ret
    exact ⟨rfl, hb'⟩
  · go_enter Try.func7, Try.ntmps7
    go_wp2_with fail
    refine (pput_all n k w HN.out).mono ?_
    rintro e w1 ⟨v1, rfl, hv1, hb1⟩
    go_wp2_with fail
    refine (rput_all n k w1 HN.out).mono ?_
    rintro e w2 ⟨v2, rfl, hv2, hb2⟩
    go_wp2_with fail
    refine (pget_any l _ w2 w2.heap.size ((HL.on hb1).on hb2)).mono ?_
    rintro e w3 ⟨rfl, rfl⟩
    go_wp2_with fail
    refine (rget_any l _ w2 w2.heap.size ((HL.on hb1).on hb2)).mono ?_
    rintro e w4 ⟨rfl, n4, rfl⟩
    have hb4 := drewN_below w2.heap.size w2 n4
    go_wp2_with fail
    refine (same_yes (putM n k) _ _ (w2.drewN n4) (w2.drewN n4).heap.size ((hv1.on hb2).on hb4) (hv2.on hb4)).mono ?_
    rintro e w5 ⟨rfl, n5, rfl⟩
    go_wp2_with fail
    refine (example_any _).mono ?_
    rintro e w7 ⟨rfl, hb7⟩
    go_wp2_with fail
    go_ret
    have m1 := hb1.size
    have m2 := hb2.size
    exact ⟨rfl, ((hb1.trans (hb2.mono m1)).trans (drewN_below _ w2 (n4 + n5))).trans (hb7.mono (show w.heap.size ≤ w2.heap.size by omega))⟩
end Go.Proofs.Ytahnmnbjgbfeaaa
