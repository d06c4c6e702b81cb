/-
  The law AtrAgrees: the walk.
-/
import Derived.Test.YtnbggokmiokhlaaDoorAxd
namespace Go.Proofs.YtnbggokmiokhlaaDoor
set_option linter.unusedVariables false
set_option linter.unusedSimpArgs false
open Go.RowKit

theorem req_len {p : Int} (h : p = 0 ∨ p = 1) : (reqV p).length = 3 := by rcases h with rfl | rfl <;> rfl
theorem ans_data {a : At} {r : List UInt8} (h : ansE a r = 0) : (ansP a r = ppsP r ∧ ansV a r = reqV (ppsP r)) ∧ ppsE r = 0 ∧ hasN a.prs (ppsP r) = true ∧ (ppsP r = 0 ∨ ppsP r = 1) := by
  have h1 : ansP a r = ppsP r := by unfold ansP; rw [if_pos h]
  have h2 : ansV a r = reqV (ppsP r) := by unfold ansV; rw [if_pos h]
  unfold ansE at h
  by_cases c1 : chkE a = 0
  · rw [if_pos c1] at h
    by_cases c2 : ppsE r = 0
    · rw [if_pos c2] at h
      by_cases c3 : hasN a.prs (ppsP r) = true
      · exact ⟨⟨h1, h2⟩, c2, c3, off_has (valid_of (chkE_valid c1)).off c3⟩
      · rw [if_neg c3] at h; omega
    · rw [if_neg c2] at h; exact absurd h c2
  · rw [if_neg c1] at h; omega
theorem own_zero : ppsE [255, 0, 255] = 0 ∧ ppsP [255, 0, 255] = 0 ∧ ppsF [255, 0, 255] 0 = [] ∧ ppsF [255, 0, 255] 1 = [] ∧ ppsF [255, 0, 255] 2 = [] := by decide +kernel
theorem own_one : ppsE [255, 1, 254] = 0 ∧ ppsP [255, 1, 254] = 1 ∧ ppsF [255, 1, 254] 0 = [] ∧ ppsF [255, 1, 254] 1 = [] ∧ ppsF [255, 1, 254] 2 = [] := by decide +kernel
theorem fur_nil {r s : List UInt8} {i : Nat} (h : ppsF s i = []) : furB r s i = false := by unfold furB; rw [h]; rfl
theorem acc_own {r : List UInt8} (hE : ppsE r = 0) (hp : ppsP r = 0 ∨ ppsP r = 1) : accE r (reqV (ppsP r)) = 0 ∧ accP r (reqV (ppsP r)) = ppsP r := by
  have key : ∀ s, ppsE s = 0 → ppsP s = ppsP r → ppsF s 0 = [] → ppsF s 1 = [] → ppsF s 2 = [] → accE r s = 0 ∧ accP r s = ppsP r := by
    intro s h1 h2 h3 h4 h5
    have e : accE r s = 0 := by
      unfold accE
      rw [if_pos hE, if_pos h1, if_pos h2, fur_nil h3, fur_nil h4, fur_nil h5]; rfl
    exact ⟨e, by unfold accP; rw [if_pos e, h2]⟩
  rcases hp with h | h
  · have e : reqV (ppsP r) = [255, 0, 255] := by rw [h]; rfl
    rw [e]
    exact key _ own_zero.1 (by rw [h]; exact own_zero.2.1) own_zero.2.2.1 own_zero.2.2.2.1 own_zero.2.2.2.2
  · have e : reqV (ppsP r) = [255, 1, 254] := by rw [h]; rfl
    rw [e]
    exact key _ own_one.1 (by rw [h]; exact own_one.2.1) own_one.2.2.1 own_one.2.2.2.1 own_one.2.2.2.2
/-- Whether one of the first k numbers is p. -/
def fndN (l : List Int) (p : Int) : Nat → Bool
  | 0 => false
  | k + 1 => fndN l p k || (l.getD k 0 == p)
theorem fnd_at (l : List Int) (p : Int) : ∀ k j, j < k → l.getD j 0 = p → fndN l p k = true
  | 0, j, h, _ => absurd h (by omega)
  | k + 1, j, h, e => by
    rcases Nat.lt_or_ge j k with h' | h'
    · simp [fndN, fnd_at l p k j h' e]
    · obtain rfl : j = k := by omega
      simp only [fndN]
      rw [e]; simp
theorem fnd_has {l : List Int} {p : Int} (h : hasN l p = true) : fndN l p l.length = true := by
  unfold hasN at h
  obtain ⟨j, hj, e⟩ := List.getElem_of_mem (of_decide_eq_true h)
  exact fnd_at l p _ j hj (by simp [List.getD, hj, e])

set_option maxRecDepth 100000 in
set_option maxHeartbeats 3200000 in
theorem law_agrs (a : At) (v : Value) (w : World) (h : AT w v a) (hg : ∀ x ∈ a.ibs, x.g ≤ 9223372036854775807) (r : List UInt8) (u : Value) (hu : SL w w.heap.size u r) (hT : Tb w) :
    Calls Tryd.prog 11 #[v, u] w fun e w' => e = .returned (.bool true) ∧ Below w.heap.size w w' := by
  have HF := Lib.hid (fun (W : World) (hW : Below w.heap.size w W) => fewa_any a v W (h.on hW))
  have HA := Lib.hid (fun (W : World) (hW : Below w.heap.size w W) => works_any W (hT.on hW))
  have HP := fun (hf : fewB a = true) (hr : r.length ≤ 100) (W : World) (hW : Below w.heap.size w W) => pans_any a r v u W (h.on hW) (hu.on hW) hg (few_len hf) (by omega) (hT.on hW)
  have HC := fun (s : List UInt8) (z : Value) (hr : r.length ≤ 100) (hs : s.length ≤ 1000) (W : World) (hW : Below w.heap.size w W) (hz : SL W W.heap.size z s) => pacc_any r s u z W (hu.on hW) hz (by omega) hs (hT.on hW)
  have HD : Hid (ansE a r = 0 → (ansP a r = ppsP r ∧ ansV a r = reqV (ppsP r)) ∧ ppsE r = 0 ∧ hasN a.prs (ppsP r) = true ∧ (ppsP r = 0 ∨ ppsP r = 1)) := ans_data
  have HB1 : Hid (ansE a r ≠ 0 → ansP a r = 0 ∧ ansV a r = []) := fun hne => ⟨by unfold ansP; rw [if_neg hne], by unfold ansV; rw [if_neg hne]⟩
  have HO := Lib.hid (fun (hE : ppsE r = 0) (hp : ppsP r = 0 ∨ ppsP r = 1) => acc_own hE hp)
  unfold AnsR at HP
  unfold AccR at HC
  generalize ansE a r = E at *
  generalize ansP a r = Q at *
  generalize ansV a r = V at *
  generalize ppsP r = p at *
  generalize ppsE r = PE at *
  generalize fewB a = FA at *
  have HP := Lib.hid HP
  have HC := Lib.hid HC
  obtain ⟨v1, v2, v3, rfl, h1, h2, h3⟩ := h
  obtain ⟨A1, c1, rfl, _, _, _⟩ := h1
  obtain ⟨A2, c2, rfl, i1, i2, i3⟩ := h2
  obtain ⟨A3, c3, rfl, _, _, _⟩ := h3
  obtain ⟨Au, cu, rfl, _, _, _⟩ := hu
  unfold maxLen at i2
  have I3 := Lib.hid i3
  clear hg hT i3
  have hal := Lib.hid (alloc_below w (.cells #[.bool a.inv, .slice A1 a.ibs.length c1, .slice A2 a.prs.length c2, .slice A3 a.his.length c3] 26))
  have hrow := Lib.hid (heap_alloc_new w (.cells #[.bool a.inv, .slice A1 a.ibs.length c1, .slice A2 a.prs.length c2, .slice A3 a.his.length c3] 26))
  go_enter Tryd.func11, Tryd.ntmps11
  go_wp2_with fail
  generalize w.alloc (.cells #[.bool a.inv, .slice A1 a.ibs.length c1, .slice A2 a.prs.length c2, .slice A3 a.his.length c3] 26) = W0 at *
  have HUP : Hid (∀ W, Below W0.heap.size W0 W → Below w.heap.size w W) := fun W hW => hal.out.trans (hW.mono hal.out.size)
  have HS : Hid (∀ W, Below W0.heap.size W0 W → (W.cell? ⟨w.heap.size, 0, none⟩ = some (.bool a.inv) ∧ W.cell? ⟨w.heap.size, 1, none⟩ = some (.slice A1 a.ibs.length c1) ∧ W.cell? ⟨w.heap.size, 2, none⟩ = some (.slice A2 a.prs.length c2) ∧ W.cell? ⟨w.heap.size, 3, none⟩ = some (.slice A3 a.his.length c3))) := fun W hW =>
    cellsA ((hW.block _ (row_lt hrow.out)).trans hrow.out)
  have HK : Hid (∀ W w', Below W0.heap.size W0 W → Below W.heap.size W w' → Below W0.heap.size W0 w') := fun W w' h h' => h.trans (h'.mono h.size)
  refine (HF.out _ hal.out).mono ?_
  rintro e w1 ⟨rfl, hb1⟩
  cases FA with
  | false =>
    go_wp2_with fail
    refine (HA.out _ (HUP.out _ hb1)).mono ?_
    rintro e w2 ⟨rfl, hb2⟩
    go_wp2_with fail
    go_ret
    exact ⟨rfl, HUP.out _ (HK.out _ _ hb1 hb2)⟩
  | true =>
    by_cases hr : r.length ≤ 100
    case neg =>
      have hr' : (100 : Int) < (r.length : Int) := by omega
      go_wp2_with fail
      refine (HA.out _ (HUP.out _ hb1)).mono ?_
      rintro e w2 ⟨rfl, hb2⟩
      go_wp2_with fail
      go_ret
      exact ⟨rfl, HUP.out _ (HK.out _ _ hb1 hb2)⟩
    have hr' : ¬ (100 : Int) < (r.length : Int) := by omega
    have HP2 := Lib.hid (HP.out (by first | exact trivial | rfl) hr)
    have HC2 := Lib.hid (fun (s : List UInt8) (z : Value) => HC.out s z hr)
    clear HP HC
    have HB1' := Lib.hid hb1
    obtain ⟨s0, s1, s2, s3⟩ := HS.out _ hb1
    clear hb1
    go_wp2_with fail
    refine (HP2.out _ (HUP.out _ HB1'.out)).mono ?_
    rintro e w2 ⟨u2, rfl, hu2, hb2⟩
    have HB2 := Lib.hid (HK.out _ _ HB1'.out hb2)
    have HU2 := Lib.hid hu2
    obtain ⟨B2, d2, e2, _⟩ := id hu2
    subst e2
    clear hb2 hu2 s0 s1 s2 s3
    by_cases hE : E = 0
    case neg =>
      obtain ⟨e1, e2⟩ := HB1.out hE
      subst e1 e2
      have hn : (E != 0) = true := by rw [bne_iff_ne]; exact hE
      simp only [List.length_nil]
      go_wp2_with fail
      refine (HA.out _ (HUP.out _ HB2.out)).mono ?_
      rintro e w3 ⟨rfl, hb3⟩
      go_wp2_with fail
      go_ret
      exact ⟨rfl, HUP.out _ (HK.out _ _ HB2.out hb3)⟩
    subst hE
    obtain ⟨⟨e1, e2⟩, e3, HH, e5⟩ := HD.out rfl
    obtain ⟨o1, o2⟩ := HO.out e3 e5
    subst e1
    have hlen := req_len e5
    rw [← e2] at o1 o2 hlen
    have HO1 := Lib.hid o1
    have HO2 := Lib.hid o2
    have HL := Lib.hid hlen
    have HH := Lib.hid HH
    clear e2 e3 e5 o1 o2 hlen HO HD HB1
    go_wp2_with fail
    refine (HC2.out V _ (by have := HL.out; omega) _ (HUP.out _ HB2.out) HU2.out).mono ?_
    rintro e w3 ⟨rfl, hb3⟩
    rw [HO1.out, HO2.out]
    have HB3 := Lib.hid (HK.out _ _ HB2.out hb3)
    clear hb3
    have hqq : (Q == Q) = true := by simp
    go_wp2_with fail
    go_loopw [10, 11] (fun f i wr => ∃ k : Nat, k ≤ a.prs.length ∧ i = .int .i64 k ∧ f = .bool (fndN a.prs Q k) ∧ Hid (Below W0.heap.size W0 wr)) (fun _ i _ => a.prs.length - (intOf i).toNat)
    case atStart => exact ⟨0, Nat.zero_le _, rfl, rfl, HB3⟩
    case round =>
      obtain ⟨k, hk, rfl, rfl, HB⟩ := hrel
      obtain ⟨s0, s1, s2, s3⟩ := HS.out _ HB.out
      by_cases hlt : k < a.prs.length
      · have hlt' : (k : Int) < (a.prs.length : Int) := by omega
        have HN : Hid (fndN a.prs Q (k + 1) = (fndN a.prs Q k || (a.prs.getD k 0 == Q))) := rfl
        obtain ⟨b, o, rfl, hb, hc⟩ := I3.out (by omega)
        have g1 := ((HUP.out _ HB.out).cell (p := ⟨b, o + k, none⟩) hb).trans (hc k hlt)
        clear hc
        generalize a.prs.getD k 0 = y at *
        generalize fndN a.prs Q k = f at *
        cases f with
        | true =>
          go_wp2_with fail
          go_roundw
          case rel => exact ⟨k + 1, by omega, by go_num, by rw [HN.out]; rfl, HB⟩
          case measure => simp [intOf]; omega
        | false =>
          go_wp2_with fail
          go_roundw
          case rel => exact ⟨k + 1, by omega, by go_num, by rw [HN.out]; rfl, HB⟩
          case measure => simp [intOf]; omega
      · obtain rfl : k = a.prs.length := by omega
        have hlt' : ¬ (a.prs.length : Int) < (a.prs.length : Int) := by omega
        have hf := fnd_has HH.out
        rw [hf]
        clear hf
        go_wp2_with fail
        refine (HA.out _ (HUP.out _ HB.out)).mono ?_
        rintro e w5 ⟨rfl, hb5⟩
        go_wp2_with fail
        go_ret
        exact ⟨rfl, HUP.out _ (HK.out _ _ HB.out hb5)⟩
end Go.Proofs.YtnbggokmiokhlaaDoor
