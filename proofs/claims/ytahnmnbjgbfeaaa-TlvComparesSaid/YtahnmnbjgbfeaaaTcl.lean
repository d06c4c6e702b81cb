/-
  The walk of the law TlvCompares.
-/
import Derived.Test.YtahnmnbjgbfeaaaTcr
namespace Go.Proofs.Ytahnmnbjgbfeaaa
set_option linter.unusedVariables false
set_option linter.unusedSimpArgs false
open Go.RowKit

mutual
theorem dep_wt : ∀ t : T, t.dep ≤ t.wt
  | .mk tag val ks => by
    have h := depL_wt ks
    rw [T.dep, T.wt]
    omega
theorem depL_wt : ∀ ts : List T, depL ts ≤ wtL ts
  | [] => by rw [depL, wtL]; omega
  | t :: ts => by
    have h1 := dep_wt t
    have h2 := depL_wt ts
    rw [depL, wtL]
    omega
end
theorem few_dep (ts : List T) (h : 0 ≤ leftL ts 6000) : depL ts ≤ 50000 := by
  have h1 := leftL_range ts 6000 (by omega) (by omega)
  have h2 := depL_wt ts
  have h3 := h1.2.2 h
  omega

set_option maxRecDepth 100000 in
set_option maxHeartbeats 6400000 in
theorem law_compares (ts us : List T) (v u : Value) (w : World) (hv : TL w w.heap.size v ts) (hu : TL w w.heap.size u us) :
    Calls Try.prog 14 #[v, u] w fun e w' => e = .returned (.bool true) ∧ Below w.heap.size w w' := by
  obtain ⟨A1, c1, rfl, _⟩ := id hv
  obtain ⟨A2, c2, rfl, _⟩ := id hu
  have HF1 := Lib.hid (few_any ts _ w hv)
  have HF2 := Lib.hid fun (W : World) (hW : Below w.heap.size w W) => few_any us _ W (hu.on hW)
  have HA := Lib.hid fun (W : World) => works_any W
  have HP1 := Lib.hid fun (h : 0 ≤ leftL ts 6000) (W : World) (hW : Below w.heap.size w W) => psame_any ts us _ _ W (hv.on hW) (hu.on hW) (few_dep ts h)
  have HP2 := Lib.hid fun (h : 0 ≤ leftL us 6000) (W : World) (hW : Below w.heap.size w W) => psame_any us ts _ _ W (hu.on hW) (hv.on hW) (few_dep us h)
  have HP3 := Lib.hid fun (h : 0 ≤ leftL ts 6000) (W : World) (hW : Below w.heap.size w W) => psame_any ts ts _ _ W (hv.on hW) (hv.on hW) (few_dep ts h)
  have HR := Lib.hid fun (W : World) (hW : Below w.heap.size w W) => rsa_any _ ts (Nat.lt_succ_self _) us _ _ W (hv.on hW) (hu.on hW)
  rw [samT_comm us ts] at HP2
  rw [samT_refl ts] at HP3
  clear hv hu
  generalize samT ts us = X at *
  by_cases hf1 : 0 ≤ leftL ts 6000
  · rw [decide_eq_true hf1] at HF1
    by_cases hf2 : 0 ≤ leftL us 6000
    · rw [decide_eq_true hf2] at HF2
      replace HP1 := Lib.hid (HP1.out hf1)
      replace HP2 := Lib.hid (HP2.out hf2)
      replace HP3 := Lib.hid (HP3.out hf1)
      clear hf1 hf2
      go_enter Try.func14, Try.ntmps14
      go_wp2_with fail
      refine HF1.out.mono ?_
      rintro e w1 ⟨rfl, hb1⟩
      have HB1 := Lib.hid hb1
      clear hb1
      go_wp2_with fail
      refine (HF2.out _ HB1.out).mono ?_
      rintro e w2 ⟨rfl, hb2⟩
      have HB2 := Lib.hid (HB1.out.trans (hb2.mono HB1.out.size))
      clear hb2
      cases X
      all_goals
        go_wp2_with fail
        refine (HP1.out _ HB2.out).mono ?_
        rintro e w3 ⟨rfl, hb3⟩
        have HB3 := Lib.hid (HB2.out.trans (hb3.mono HB2.out.size))
        clear hb3
        go_wp2_with fail
        refine (HR.out _ HB3.out).mono ?_
        rintro e w4 ⟨rfl, hb4⟩
        have HB4 := Lib.hid (HB3.out.trans (hb4.mono HB3.out.size))
        clear hb4
        go_wp2_with fail
        refine (HP2.out _ HB4.out).mono ?_
        rintro e w5 ⟨rfl, hb5⟩
        have HB5 := Lib.hid (HB4.out.trans (hb5.mono HB4.out.size))
        clear hb5
        go_wp2_with fail
        refine (HR.out _ HB5.out).mono ?_
        rintro e w6 ⟨rfl, hb6⟩
        have HB6 := Lib.hid (HB5.out.trans (hb6.mono HB5.out.size))
        clear hb6
        go_wp2_with fail
        refine (HP3.out _ HB6.out).mono ?_
        rintro e w7 ⟨rfl, hb7⟩
        have HB7 := Lib.hid (HB6.out.trans (hb7.mono HB6.out.size))
        clear hb7
        go_wp2_with fail
        refine (HA.out _).mono ?_
        rintro e w9 ⟨rfl, hb9⟩
        go_wp2_with fail
        go_ret
        exact ⟨rfl, HB7.out.trans (hb9.mono HB7.out.size)⟩
    · rw [decide_eq_false hf2] at HF2
      clear hf1 hf2 HP1 HP2 HP3 HR
      go_enter Try.func14, Try.ntmps14
      go_wp2_with fail
      refine HF1.out.mono ?_
      rintro e w1 ⟨rfl, hb1⟩
      have HB1 := Lib.hid hb1
      clear hb1
      go_wp2_with fail
      refine (HF2.out _ HB1.out).mono ?_
      rintro e w2 ⟨rfl, hb2⟩
      have HB2 := Lib.hid (HB1.out.trans (hb2.mono HB1.out.size))
      clear hb2
      go_wp2_with fail
      refine (HA.out _).mono ?_
      rintro e w3 ⟨rfl, hb3⟩
      go_wp2_with fail
      go_ret
      exact ⟨rfl, HB2.out.trans (hb3.mono HB2.out.size)⟩
  · rw [decide_eq_false hf1] at HF1
    clear hf1 HP1 HP2 HP3 HR HF2
    go_enter Try.func14, Try.ntmps14
    go_wp2_with fail
    refine HF1.out.mono ?_
    rintro e w1 ⟨rfl, hb1⟩
    have HB1 := Lib.hid hb1
    clear hb1
    go_wp2_with fail
    refine (HA.out _).mono ?_
    rintro e w3 ⟨rfl, hb3⟩
    go_wp2_with fail
    go_ret
    exact ⟨rfl, HB1.out.trans (hb3.mono HB1.out.size)⟩
end Go.Proofs.Ytahnmnbjgbfeaaa
