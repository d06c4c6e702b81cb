/-
  The walk of the law TlvJoins.
-/
import Derived.Test.YtahnmnbjgbfeaaaTjn
namespace Go.Proofs.Ytahnmnbjgbfeaaa
set_option linter.unusedVariables false
set_option linter.unusedSimpArgs false
open Go.RowKit

theorem encL_two : ∀ (a b : List T), encL (a ++ b) = encL a ++ encL b
  | [], b => by simp [encL]
  | t :: a, b => by rw [List.cons_append, encL, encL_two a b, encL, List.append_assoc]
theorem okL_two (d : Int) : ∀ (a b : List T), okL d (a ++ b) = (okL d a && okL d b)
  | [], b => by simp [okL]
  | t :: a, b => by rw [List.cons_append, okL, okL_two d a b, okL, Bool.and_assoc]
theorem enc_good {a : List T} (h : encE a = 0) : okL 1 a = true ∧ (encL a).length ≤ 4096 ∧ encM a = encL a := by
  unfold encE at h
  unfold encM
  by_cases h1 : okL 1 a = true
  · rw [if_pos h1] at h ⊢
    by_cases h2 : 4096 < (encL a).length
    · rw [if_pos h2] at h; omega
    · rw [if_neg h2]; exact ⟨h1, by omega, rfl⟩
  · rw [if_neg h1] at h; omega
theorem enc_joined {a b : List T} (h1 : encE a = 0) (h2 : encE b = 0) :
    encE (a ++ b) = (if 4096 < (encL a).length + (encL b).length then 3 else 0) ∧ encM (a ++ b) = (if 4096 < (encL a).length + (encL b).length then [] else encL a ++ encL b) := by
  obtain ⟨a1, a2, a3⟩ := enc_good h1
  obtain ⟨b1, b2, b3⟩ := enc_good h2
  unfold encE encM
  rw [encL_two, okL_two, a1, b1, Bool.and_true, if_pos rfl, if_pos rfl, List.length_append]
  exact ⟨rfl, rfl⟩
theorem enc_valsz (a : List T) : encE a = 0 ∨ encE a = 1 ∨ encE a = 3 := by unfold encE; (repeat' split) <;> simp
theorem ba_app (l m : List UInt8) : (⟨l.toArray⟩ : ByteArray) ++ ⟨m.toArray⟩ = ⟨(l ++ m).toArray⟩ := by
  apply ByteArray.ext
  simp
theorem TL_cap {w : World} {B n c : Nat} {A : Option Addr} {ts : List T} (h : TL w B (.slice A n c) ts) : n = ts.length ∧ ts.length ≤ c ∧ c ≤ maxLen := by
  obtain ⟨A', c', hv, h1, h2, _⟩ := h
  obtain ⟨_, rfl, rfl⟩ := Value.slice.inj hv
  exact ⟨rfl, h1, h2⟩

set_option maxRecDepth 100000 in
set_option maxHeartbeats 6400000 in
theorem law_joins (ts us : List T) (v u : Value) (w : World) (hv : TL w w.heap.size v ts) (hu : TL w w.heap.size u us) :
    Calls Try.prog 17 #[v, u] w fun e w' => e = .returned (.bool true) ∧ Below w.heap.size w w' := by
  obtain ⟨A1, c1, rfl, _⟩ := id hv
  obtain ⟨A2, c2, rfl, _⟩ := id hu
  have HF1 := Lib.hid (few_any ts _ w hv)
  have HF2 := Lib.hid fun (W : World) (hW : Below w.heap.size w W) => few_any us _ W (hu.on hW)
  have HA := Lib.hid fun (W : World) => works_any W
  have HE1 := Lib.hid fun (W : World) (hW : Below w.heap.size w W) (hs : (encL ts).length ≤ 100000) => pencode_any ts _ W (hv.on hW) hs
  have HE2 := Lib.hid fun (W : World) (hW : Below w.heap.size w W) (hs : (encL us).length ≤ 100000) => pencode_any us _ W (hu.on hW) hs
  have HFE1 := Lib.hid fun h => few_enc ts (of_decide_eq_true h)
  have HFE2 := Lib.hid fun h => few_enc us (of_decide_eq_true h)
  have HT := Lib.hid hv
  have HU := Lib.hid hu
  clear hv hu
  generalize decide (0 ≤ leftL ts 6000) = F1 at *
  generalize decide (0 ≤ leftL us 6000) = F2 at *
  go_enter Try.func17, Try.ntmps17
  go_wp2_with fail
  refine HF1.out.mono ?_
  rintro e w1 ⟨rfl, hb1⟩
  have HB1 := Lib.hid hb1
  clear hb1
  cases F1 with
  | false =>
    go_wp2_with fail
    refine (HA.out _).mono ?_
    rintro e w2 ⟨rfl, hb2⟩
    go_wp2_with fail
    go_ret
    exact ⟨rfl, HB1.out.trans (hb2.mono HB1.out.size)⟩
  | true =>
    go_wp2_with fail
    refine (HF2.out _ HB1.out).mono ?_
    rintro e w2 ⟨rfl, hb2⟩
    have HB2 := Lib.hid (HB1.out.trans (hb2.mono HB1.out.size))
    clear hb2
    cases F2 with
    | false =>
      go_wp2_with fail
      refine (HA.out _).mono ?_
      rintro e w3 ⟨rfl, hb3⟩
      go_wp2_with fail
      go_ret
      exact ⟨rfl, HB2.out.trans (hb3.mono HB2.out.size)⟩
    | true =>
      have hl1 := HFE1.out (by first | exact trivial | rfl)
      have hl2 := HFE2.out (by first | exact trivial | rfl)
      have HL1 := Lib.hid hl1
      have HL2 := Lib.hid hl2
      clear hl1 hl2
      go_wp2_with fail
      refine (HE1.out _ HB2.out HL1.out).mono ?_
      rintro e w3 ⟨v3, rfl, hs3, hb3⟩
      obtain ⟨A3, c3, rfl, _⟩ := id hs3
      have HB3 := Lib.hid (HB2.out.trans (hb3.mono HB2.out.size))
      have HS3 := Lib.hid hs3
      clear hb3 hs3
      go_wp2_with fail
      refine (HE2.out _ HB3.out HL2.out).mono ?_
      rintro e w4 ⟨v4, rfl, hs4, hb4⟩
      obtain ⟨A4, c4, rfl, _⟩ := id hs4
      have HB4 := Lib.hid (HB3.out.trans (hb4.mono HB3.out.size))
      have HS34 := Lib.hid (HS3.out.on hb4)
      have HS4 := Lib.hid hs4
      clear hb4 hs4
      by_cases he1 : encE ts = 0
      · by_cases he2 : encE us = 0
        · obtain ⟨a1, a2, a3⟩ := enc_good he1
          obtain ⟨b1, b2, b3⟩ := enc_good he2
          obtain ⟨j1, j2⟩ := enc_joined he1 he2
          have HJL : Hid ((encL (ts ++ us)).length ≤ 100000) := by show _ ≤ _; rw [encL_two, List.length_append]; omega
          have hcn1 := encL_count ts
          have hcn2 := encL_count us
          have HLEN : Hid (ts.length ≤ 4096 ∧ us.length ≤ 4096) := ⟨by omega, by omega⟩
          rw [a3] at HS34
          rw [b3] at HS4
          rw [he1, he2, a3, b3]
          have hLa : (encL ts).length ≤ 4096 := a2
          have hLb : (encL us).length ≤ 4096 := b2
          have HTB := Lib.hid (HT.out.on HB4.out)
          have HUB := Lib.hid (HU.out.on HB4.out)
          have HJ1 := Lib.hid j1
          have HJ2 := Lib.hid j2
          clear a1 a2 a3 b1 b2 b3 j1 j2 he1 he2 hcn1 hcn2 HE1 HE2 HF1 HF2 HFE1 HFE2
          generalize encL ts = X at *
          generalize encL us = Y at *
          go_wp2_with (first
            | (at_builtin; refine wpList_appZ rfl _ _ rfl w4.heap.size _ [] ts A1 c1 rfl rfl (OZ.nil _ _) HTB.out (by have := HLEN.out; simp; omega) (Nat.le_refl _) ?_; intro v5 w5 ho5 hb5; rw [List.nil_append] at ho5; obtain ⟨A5, c5, rfl⟩ := ho5.value; have HO5 := Lib.hid ho5; have HB5 := Lib.hid hb5; clear ho5 hb5)
            | (at_builtin; refine wpList_appZ rfl _ _ rfl w4.heap.size _ ts us A2 c2 rfl rfl HO5.out (HUB.out.below HB5.out) (by have := HLEN.out; omega) HB5.out.size ?_; intro v6 w6 ho6 hb6; obtain ⟨A6, c6, rfl⟩ := ho6.value; have HO6 := Lib.hid ho6; have HB6 := Lib.hid (HB5.out.trans hb6); clear ho6 hb6))
          have htl := HO6.out.tl HB6.out.size
          rw [List.length_append] at htl
          have HEN := Lib.hid (pencode_any (ts ++ us) _ w6 htl HJL.out)
          have hb46 := HB6.out
          have HX6 := Lib.hid (HS34.out.on hb46)
          have HY6 := Lib.hid (HS4.out.on hb46)
          have HB46 := Lib.hid (HB4.out.trans (hb46.mono HB4.out.size))
          clear htl hb46
          have hj1 := HJ1.out
          have hj2 := HJ2.out
          generalize encE (ts ++ us) = E at *
          generalize encM (ts ++ us) = M at *
          refine HEN.out.mono ?_
          rintro e w7 ⟨v7, rfl, hs7, hb7⟩
          obtain ⟨A7, c7, rfl, _⟩ := id hs7
          have HB7 := Lib.hid (HB46.out.trans (hb7.mono HB46.out.size))
          have hwr : IntKind.i64.wrap ((X.length : Int) + (Y.length : Int)) = (X.length : Int) + (Y.length : Int) := IntWalk.i64_in _ (by omega)
          by_cases hc : 4096 < X.length + Y.length
          · rw [if_pos hc] at hj1 hj2
            subst hj1 hj2
            have hc2 : (4096 : Int) < (X.length : Int) + (Y.length : Int) := by omega
            clear hs7 hb7 HJ1 HJ2 HEN
            go_wp2_with fail
            refine (HA.out _).mono ?_
            rintro e w8 ⟨rfl, hb8⟩
            go_wp2_with fail
            go_ret
            exact ⟨rfl, HB7.out.trans (hb8.mono HB7.out.size)⟩
          · rw [if_neg hc] at hj1 hj2
            subst hj1 hj2
            have hc2 : ¬ (4096 : Int) < (X.length : Int) + (Y.length : Int) := by omega
            have hc3 : decide ((4096 : Int) < (X.length : Int) + (Y.length : Int)) = false := decide_eq_false hc2
            have cz := hs7.convert
            rw [List.length_append] at cz
            have cx := (HX6.out.on hb7).convert
            have cy := (HY6.out.on hb7).convert
            have hadd : ∀ W : World, Sem.run Try.prog (Op.stringOp .add ⟨X.toArray⟩ ⟨Y.toArray⟩) W = .ok (.string ⟨(X ++ Y).toArray⟩) W := fun W => by
              rw [← ba_app]
              exact run_string_add_sum W _ _ (by simp [ByteArray.size]; omega)
            clear hs7 hb7 HJ1 HJ2 HEN
            go_wp2_with fail
            refine (HA.out _).mono ?_
            rintro e w8 ⟨rfl, hb8⟩
            go_wp2_with fail
            go_ret
            exact ⟨rfl, HB7.out.trans (hb8.mono HB7.out.size)⟩
        · have hv2 := enc_valsz us
          rw [he1]
          clear HE1 HE2 HF1 HF2 HFE1 HFE2
          generalize encE us = E2 at *
          rcases hv2 with rfl | rfl | rfl
          · exact absurd rfl he2
          all_goals
            go_wp2_with fail
            refine (HA.out _).mono ?_
            rintro e w8 ⟨rfl, hb8⟩
            go_wp2_with fail
            go_ret
            exact ⟨rfl, HB4.out.trans (hb8.mono HB4.out.size)⟩
      · have hv1 := enc_valsz ts
        clear HE1 HE2 HF1 HF2 HFE1 HFE2
        generalize encE ts = E1 at *
        rcases hv1 with rfl | rfl | rfl
        · exact absurd rfl he1
        all_goals
          go_wp2_with fail
          refine (HA.out _).mono ?_
          rintro e w8 ⟨rfl, hb8⟩
          go_wp2_with fail
          go_ret
          exact ⟨rfl, HB4.out.trans (hb8.mono HB4.out.size)⟩
end Go.Proofs.Ytahnmnbjgbfeaaa
