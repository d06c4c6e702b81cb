/-
  The reference's Text, and the walk of the law on texts.
-/
import Derived.Test.YtahnmnbjgbfeaaaRfz
namespace Go.Proofs.Ytahnmnbjgbfeaaa
set_option linter.unusedVariables false
set_option linter.unusedSimpArgs false
open Go.RowKit

theorem line_any : ∀ (n : Nat) (ts : List T) (c : Nat), depL ts < n → c ≤ 9 → okL ((c : Int) + 1) ts = true → LineC c ts
  | 0, ts, c, h, _, _ => absurd h (by omega)
  | n + 1, ts, c, h, hc, hok => line_step ts c (fun ts' h' hc' hk => line_any n ts' (c + 1) (by omega) hc' (by rw [show ((c + 1 : Nat) : Int) + 1 = (c : Int) + 1 + 1 by omega]; exact hk)) hc hok

set_option maxRecDepth 100000 in
set_option maxHeartbeats 1600000 in
theorem rtext_any (ts : List T) (v : Value) (w : World) (hv : TL w w.heap.size v ts) (ht : (txtM ts).length ≤ 300000) :
    Calls Try.prog 61 #[v] w fun e w' => e = .returned (.string ⟨(txtM ts).toArray⟩) ∧ Below w.heap.size w w' := by
  have HE := Lib.hid (rencode_any ts v w hv)
  have HV := Lib.hid hv
  have HT := Lib.hid ht
  clear hv ht
  by_cases hok : okL 1 ts = true ∧ ¬ 4096 < (encL ts).length
  · have he : encE ts = 0 := by unfold encE; rw [if_pos hok.1, if_neg hok.2]
    have hm : txtM ts = textL 0 ts := by unfold txtM; rw [if_pos hok.1, if_neg hok.2]
    have HEE := HE.out
    rw [he] at HEE
    have hlc := line_any (depL ts + 1) ts 0 (by omega) (by omega) hok.1
    unfold LineC at hlc
    rw [← hm] at hlc
    have HL := Lib.hid hlc
    have HEE' := Lib.hid HEE
    obtain ⟨X, hX⟩ : ∃ X, X = txtM ts := ⟨_, rfl⟩
    rw [← hX] at HT
    simp only [← hX] at HL
    rw [← hX]
    clear HE HEE hlc he hm hok hX
    go_enter Try.func61, Try.ntmps61
    go_wp2_with (go_at_call 51; refine HEE'.out.mono ?_; rintro e w2 ⟨v2, rfl, hv2, hb2⟩)
    refine (HL.out _ w2 (HV.out.on hb2) (by show 0 + _ ≤ _; rw [Nat.zero_add]; exact HT.out)).mono ?_
    rintro e w3 ⟨rfl, hb3⟩
    go_wp2_with fail
    go_ret
    exact ⟨rfl, hb2.trans (hb3.mono hb2.size)⟩
  · have he : (encE ts == 0) = false := by
      unfold encE
      by_cases h : okL 1 ts = true
      · rw [if_pos h, if_pos (by simpa [h] using hok)]; rfl
      · rw [if_neg h]; rfl
    have hm : txtM ts = [] := by
      unfold txtM
      by_cases h : okL 1 ts = true
      · rw [if_pos h, if_pos (by simpa [h] using hok)]
      · rw [if_neg h]
    rw [hm]
    clear hm hok HT
    go_enter Try.func61, Try.ntmps61
    go_wp2_with (go_at_call 51; refine HE.out.mono ?_; rintro e w2 ⟨v2, rfl, hv2, hb2⟩)
    go_ret
    exact ⟨rfl, hb2⟩
end Go.Proofs.Ytahnmnbjgbfeaaa
