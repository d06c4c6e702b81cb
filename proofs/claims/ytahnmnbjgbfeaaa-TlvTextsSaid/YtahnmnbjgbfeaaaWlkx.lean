/-
  The walk of the law on texts.
-/
import Derived.Test.YtahnmnbjgbfeaaaWlks
namespace Go.Proofs.Ytahnmnbjgbfeaaa
set_option linter.unusedVariables false
set_option linter.unusedSimpArgs false
open Go.RowKit

mutual
theorem T.text_wt : ∀ (t : T) (c : Nat), t.ok ((c : Int) + 1) = true → (t.text c).length ≤ 21 * t.wt
  | .mk tag val kids, c, h => by
    rw [ok_parts] at h
    simp only [Bool.and_eq_true, decide_eq_true_eq] at h
    obtain ⟨⟨h1, _⟩, h3⟩ := h
    have hk := textL_wt kids (c + 1) (by rw [show ((c + 1 : Nat) : Int) + 1 = (c : Int) + 1 + 1 by omega]; exact h3)
    have ht := tagF_length tag
    rw [T.text, T.wt]
    simp only [List.length_append, List.length_cons, Lib.repeatL_length, hexL_length, List.length_nil]
    split <;> simp only [List.length_cons, hexL_length, List.length_nil] <;> omega
theorem textL_wt : ∀ (ts : List T) (c : Nat), okL ((c : Int) + 1) ts = true → (textL c ts).length ≤ 21 * wtL ts
  | [], _, _ => by simp [textL]
  | t :: ts, c, h => by
    rw [okL, Bool.and_eq_true] at h
    have h1 := T.text_wt t c h.1
    have h2 := textL_wt ts c h.2
    rw [textL, wtL, List.length_append]
    omega
end
theorem few_txt (ts : List T) (h : 0 ≤ leftL ts 1500) : (encL ts).length ≤ 100000 ∧ (txtM ts).length ≤ 300000 := by
  have h1 := leftL_range ts 1500 (by omega) (by omega)
  have h2 := encL_wt ts
  have h3 := h1.2.2 h
  refine ⟨by omega, ?_⟩
  unfold txtM
  split
  · rename_i hok
    have := textL_wt ts 0 hok
    split <;> simp <;> omega
  · simp

set_option maxRecDepth 100000 in
set_option maxHeartbeats 3200000 in
theorem law_shows (ts : List T) (v : Value) (w : World) (hv : TL w w.heap.size v ts) :
    Calls Try.prog 15 #[v] w fun e w' => e = .returned (.bool true) ∧ Below w.heap.size w w' := by
  have hl := left_any (depL ts + 1) ts (by omega) v 1500 w (by omega) (by omega) hv
  have HV := Lib.hid hv
  obtain ⟨A, c, rfl, h1, h2, h3⟩ := hv
  obtain ⟨Z, hZ⟩ : ∃ Z, Z = leftL ts 1500 := ⟨_, rfl⟩
  rw [← hZ] at hl
  have HL := Lib.hid hl
  clear hl
  by_cases hfew : 0 ≤ Z
  · obtain ⟨b1, b2⟩ := few_txt ts (by rw [← hZ]; exact hfew)
    obtain ⟨M, hM⟩ : ∃ M, M = txtM ts := ⟨_, rfl⟩
    have k1 := fun V W h => ptext_any ts V W h b1 b2
    have k2 := fun V W h => rtext_any ts V W h b2
    simp only [← hM] at k1 k2
    have K1 := Lib.hid k1
    have K2 := Lib.hid k2
    clear b1 b2 k1 k2 hM hZ
    go_enter Try.func15, Try.ntmps15
    go_wp2_with (first
      | (go_at_call 59; refine HL.out.mono ?_; rintro e w1 ⟨rfl, hb1⟩)
      | (go_at_call 60; refine (K1.out _ w1 (HV.out.on hb1)).mono ?_; rintro e w2 ⟨rfl, hb2⟩)
      | (go_at_call 61; refine (K2.out _ w2 ((HV.out.on hb1).on hb2)).mono ?_; rintro e w3 ⟨rfl, hb3⟩)
      | (go_at_call 48; refine (works_any _).mono ?_; rintro e w5 ⟨rfl, hb5⟩))
    go_ret
    have b3 := hb1.trans ((hb2.trans (hb3.mono hb2.size)).mono hb1.size)
    exact ⟨rfl, b3.trans (hb5.mono b3.size)⟩
  · have hneg : Z < 0 := by omega
    clear hZ hfew
    go_enter Try.func15, Try.ntmps15
    go_wp2_with (first
      | (go_at_call 59; refine HL.out.mono ?_; rintro e w1 ⟨rfl, hb1⟩)
      | (go_at_call 48; refine (works_any _).mono ?_; rintro e w2 ⟨rfl, hb2⟩))
    go_ret
    exact ⟨rfl, hb1.trans (hb2.mono hb1.size)⟩
end Go.Proofs.Ytahnmnbjgbfeaaa
