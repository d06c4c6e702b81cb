
/-
  The walks of Remove, of the program and of the reference.
-/
import Derived.Test.YtnbggokmiokhlaaDoorApp
namespace Go.Proofs.YtnbggokmiokhlaaDoor
set_option linter.unusedVariables false
set_option linter.unusedSimpArgs false
open Go.RowKit

def remOk (k : Int) (l : List UInt8) : Bool := sumL k (l.take (l.length - sizeK k)) == l.drop (l.length - sizeK k)
def remV (k : Int) (l : List UInt8) : List UInt8 := if sizeK k = 0 then [] else if l.length < sizeK k then [] else if remOk k l = true then l.take (l.length - sizeK k) else []
def remE (k : Int) (l : List UInt8) : Int := if sizeK k = 0 then 1 else if l.length < sizeK k then 5 else if remOk k l = true then 0 else 6

/-- What Remove returns. -/
def RemR (k : Int) (l : List UInt8) (w : World) (e : Ending) (w' : World) : Prop :=
  ∃ v', e = .returned (.tuple #[v', .int .i64 (remE k l)]) ∧ SL w' w'.heap.size v' (remV k l) ∧ Below w.heap.size w w'

set_option maxRecDepth 100000 in
set_option maxHeartbeats 800000 in
theorem prem_any (k : Int) (l : List UInt8) (v : Value) (w : World) (h : SL w w.heap.size v l) (hT : Tb w) (hl : l.length ≤ 1000) :
    Calls Tryd.prog 75 #[.int .i64 k, v] w (RemR k l w) := by
  have HS := psize_any k w
  obtain ⟨A, c, rfl, k1, k2, k3⟩ := h
  unfold maxLen at k2
  by_cases h0 : sizeK k = 0
  · have HV : Hid (remV k l = []) := by show _ = _; rw [remV, if_pos h0]
    have HE : Hid (remE k l = 1) := by show _ = _; rw [remE, if_pos h0]
    rw [h0] at HS
    have HS := Lib.hid HS
    clear h0 hT k3
    go_enter Tryd.func75, Tryd.ntmps75
    go_wp2_with fail
    refine HS.out.mono ?_
    rintro e w1 ⟨rfl, rfl⟩
    go_wp2_with fail
    go_ret2
    exact ⟨_, by rw [HE.out]; rfl, by rw [HV.out]; exact SL.nil _ _ _ _ (Nat.zero_le _), Below.refl _ _⟩
  · by_cases hs : l.length < sizeK k
    · have HV : Hid (remV k l = []) := by show _ = _; rw [remV, if_neg h0, if_pos hs]
      have HE : Hid (remE k l = 5) := by show _ = _; rw [remE, if_neg h0, if_pos hs]
      have hk := sizeK_le k
      generalize sizeK k = s at h0 hs HS hk
      have b0 : ((s : Int) == 0) = false := by rw [beq_eq_false_iff_ne]; omega
      have HS := Lib.hid HS
      clear h0 hT k3
      go_enter Tryd.func75, Tryd.ntmps75
      go_wp2_with fail
      refine HS.out.mono ?_
      rintro e w1 ⟨rfl, rfl⟩
      go_wp2_with fail
      go_ret2
      exact ⟨_, by rw [HE.out]; rfl, by rw [HV.out]; exact SL.nil _ _ _ _ (Nat.zero_le _), Below.refl _ _⟩
    · have hk := sizeK_le k
      obtain ⟨b, o, rfl, hb, hc⟩ := k3 (by omega)
      have HV : Hid (remV k l = if sumL k (l.take (l.length - sizeK k)) == l.drop (l.length - sizeK k) then l.take (l.length - sizeK k) else []) := by show _ = _; rw [remV, if_neg h0, if_neg hs]; rfl
      have HE : Hid (remE k l = if sumL k (l.take (l.length - sizeK k)) == l.drop (l.length - sizeK k) then 0 else 6) := by show _ = _; rw [remE, if_neg h0, if_neg hs]; rfl
      have hsl : SL w w.heap.size (.slice (some ⟨b, o, none⟩) l.length c) l := ⟨_, c, rfl, k1, by unfold maxLen; omega, fun _ => ⟨b, o, rfl, hb, hc⟩⟩
      have htake := hsl.take (m := l.length - sizeK k) (by omega)
      have hdrop : SL w w.heap.size (.slice (some ⟨b, o + (l.length - sizeK k), none⟩) (sizeK k) (c - (l.length - sizeK k))) (l.drop (l.length - sizeK k)) := by
        refine ⟨some ⟨b, o + (l.length - sizeK k), none⟩, c - (l.length - sizeK k), by rw [List.length_drop]; congr 1; omega, by rw [List.length_drop]; omega, by unfold maxLen; omega, fun hp => ⟨b, o + (l.length - sizeK k), rfl, hb, fun j hj => ?_⟩⟩
        rw [List.length_drop] at hj
        rw [Nat.add_assoc, hc _ (by omega)]
        simp [List.getD, List.getElem?_drop]
      generalize sizeK k = s at *
      obtain ⟨m, hm⟩ : ∃ m, l.length = m + s := ⟨l.length - s, by omega⟩
      rw [hm] at htake hdrop HV HE
      rw [Nat.add_sub_cancel] at htake hdrop HV HE
      have hms : (l.length : Int) - (s : Int) = (m : Int) := by omega
      have hml : m ≤ l.length := by omega
      have hmc : m < c := by omega
      have b0 : ((s : Int) == 0) = false := by rw [beq_eq_false_iff_ne]; omega
      have HS := Lib.hid HS
      have HT := Lib.hid hT
      have HK := Lib.hid htake
      have HD := Lib.hid hdrop
      have hs1 : s ≤ l.length := by omega
      have HM := Lib.hid hm
      have HMS := Lib.hid hms
      have hs0 : 0 < s := by omega
      clear h0 hT k3 hs hsl htake hdrop hc hm hms
      go_enter Tryd.func75, Tryd.ntmps75
      go_wp2_with fail
      refine HS.out.mono ?_
      rintro e w1 ⟨rfl, rfl⟩
      go_wp2_with fail
      have i0 : (0 : Int) ≤ (l.length : Int) - (s : Int) := by omega
      have i1 : (l.length : Int) - (s : Int) ≤ (l.length : Int) := by omega
      have i2 : (l.length : Int) - (s : Int) ≤ (c : Int) := by omega
      have hne : ¬ c = l.length - s := by omega
      go_quiet (fail)
      clear i0 i1 i2 hne
      have e1 : l.length - s = m := by have := HM.out; omega
      have e2 : l.length - m = s := by have := HM.out; omega
      rw [e1, e2]
      clear e1 e2
      have hd := drewN_below w.heap.size w nq
      have HK1 := Lib.hid (HK.out.on hd)
      have HD1 := Lib.hid (HD.out.on hd)
      have HSUM := Lib.hid (psum_any k (l.take m) _ _ HK1.out (HT.out.on hd))
      have HCL := fun (W : World) (hW : Below w.heap.size w W) => clone_own (l.take m) _ W (HK.out.on hW) (by rw [List.length_take]; omega)
      have HCL := Lib.hid HCL
      go_wp2_with fail
      refine HSUM.out.mono ?_
      rintro e w1 ⟨v1, rfl, hv1, hb1⟩
      have hw1 : Below w.heap.size w w1 := hd.trans hb1
      go_wp2_with fail
      refine (beq_any _ _ _ _ _ _ hv1 (HD.out.on hw1)).mono ?_
      rintro e w2 ⟨rfl, rfl⟩
      cases hq : (sumL k (l.take m) == l.drop m)
      · have HQ := Lib.hid hq
        clear hq
        go_wp2_with fail
        go_ret2
        exact ⟨_, by rw [HE.out, HQ.out]; rfl, by rw [HV.out, HQ.out]; exact SL.nil _ _ _ _ (Nat.zero_le _), hw1⟩
      · have HQ := Lib.hid hq
        clear hq
        go_wp2_with fail
        refine (HCL.out _ hw1).mono ?_
        rintro e w3 ⟨v3, rfl, hv3, hb3⟩
        go_wp2_with fail
        go_ret2
        exact ⟨_, by rw [HE.out, HQ.out]; rfl, by rw [HV.out, HQ.out]; exact hv3.sl, hw1.trans (hb3.mono hw1.size)⟩

theorem agree_to {q l : List UInt8} {m j : Nat} (h : ∀ t, t < j → q.getD t 0 = l.getD (m + t) 0) (hk : q.getD j 0 = l.getD (m + j) 0) : ∀ t, t < j + 1 → q.getD t 0 = l.getD (m + t) 0 := by
  intro t ht
  by_cases e : t = j
  · rw [e]; exact hk
  · exact h t (by omega)
theorem gdg {a : List UInt8} {k : Nat} (h : k < a.length) : a.getD k 0 = a[k] := (gd h).symm

set_option maxRecDepth 100000 in
set_option maxHeartbeats 800000 in
theorem rrem_any (k : Int) (l : List UInt8) (v : Value) (w : World) (h : SL w w.heap.size v l) (hl : l.length ≤ 1000) :
    Calls Tryd.prog 77 #[.int .i64 k, v] w (RemR k l w) := by
  have HS := rsize_any k w
  obtain ⟨A, c, rfl, k1, k2, k3⟩ := h
  unfold maxLen at k2
  by_cases h0 : sizeK k = 0
  · have HV : Hid (remV k l = []) := by show _ = _; rw [remV, if_pos h0]
    have HE : Hid (remE k l = 1) := by show _ = _; rw [remE, if_pos h0]
    rw [h0] at HS
    have HS := Lib.hid HS
    clear h0 k3
    go_enter Tryd.func77, Tryd.ntmps77
    go_wp2_with fail
    refine HS.out.mono ?_
    rintro e w1 ⟨rfl, rfl⟩
    go_wp2_with fail
    go_ret2
    exact ⟨_, by rw [HE.out]; rfl, by rw [HV.out]; exact SL.nil _ _ _ _ (Nat.zero_le _), Below.refl _ _⟩
  · by_cases hs : l.length < sizeK k
    · have HV : Hid (remV k l = []) := by show _ = _; rw [remV, if_neg h0, if_pos hs]
      have HE : Hid (remE k l = 5) := by show _ = _; rw [remE, if_neg h0, if_pos hs]
      have hk := sizeK_le k
      generalize sizeK k = s at h0 hs HS hk
      have b0 : ((s : Int) == 0) = false := by rw [beq_eq_false_iff_ne]; omega
      have HS := Lib.hid HS
      clear h0 k3
      go_enter Tryd.func77, Tryd.ntmps77
      go_wp2_with fail
      refine HS.out.mono ?_
      rintro e w1 ⟨rfl, rfl⟩
      go_wp2_with fail
      go_ret2
      exact ⟨_, by rw [HE.out]; rfl, by rw [HV.out]; exact SL.nil _ _ _ _ (Nat.zero_le _), Below.refl _ _⟩
    · have hk := sizeK_le k
      obtain ⟨b, o, rfl, hb, hc⟩ := k3 (by omega)
      have HV : Hid (remV k l = if sumL k (l.take (l.length - sizeK k)) == l.drop (l.length - sizeK k) then l.take (l.length - sizeK k) else []) := by show _ = _; rw [remV, if_neg h0, if_neg hs]; rfl
      have HE : Hid (remE k l = if sumL k (l.take (l.length - sizeK k)) == l.drop (l.length - sizeK k) then 0 else 6) := by show _ = _; rw [remE, if_neg h0, if_neg hs]; rfl
      have hsl : SL w w.heap.size (.slice (some ⟨b, o, none⟩) l.length c) l := ⟨_, c, rfl, k1, by unfold maxLen; omega, fun _ => ⟨b, o, rfl, hb, hc⟩⟩
      have htake := hsl.take (m := l.length - sizeK k) (by omega)
      have hlen := sumL_len k (l.take (l.length - sizeK k))
      have hse : sumE k = 0 := by rcases sumE_cases k with ⟨h, _⟩ | ⟨_, h⟩ <;> omega
      generalize sizeK k = s at *
      obtain ⟨m, hm⟩ : ∃ m, l.length = m + s := ⟨l.length - s, by omega⟩
      rw [hm] at htake HV HE hlen
      rw [Nat.add_sub_cancel] at htake HV HE hlen
      have hms : (l.length : Int) - (s : Int) = (m : Int) := by omega
      have hml : m ≤ l.length := by omega
      have hmc : m < c := by omega
      have b0 : ((s : Int) == 0) = false := by rw [beq_eq_false_iff_ne]; omega
      have HS := Lib.hid HS
      have HK := Lib.hid htake
      have hs1 : s ≤ l.length := by omega
      have HM := Lib.hid hm
      have HMS := Lib.hid hms
      have HC := Lib.hid hc
      have hs0 : 0 < s := by omega
      have HSE : Hid (sumE k = 0) := hse
      clear h0 k3 hs hsl htake hc hm hms hse
      go_enter Tryd.func77, Tryd.ntmps77
      go_wp2_with fail
      refine HS.out.mono ?_
      rintro e w1 ⟨rfl, rfl⟩
      have HSUM := Lib.hid (rsum_any k (l.take m) _ _ HK.out)
      have HQL : Hid ((sumL k (l.take m)).length = s) := hlen
      generalize hq : sumL k (l.take m) = q at *
      have HQ := Lib.hid hq
      clear hlen hq
      go_wp2_with fail
      rw [HMS.out]
      have e1 : l.length - s = m := by have := HM.out; omega
      rw [e1]
      clear e1
      refine HSUM.out.mono ?_
      rintro e w1 ⟨v1, rfl, hv1, hb1⟩
      rw [HQ.out] at hv1
      obtain ⟨A1, c1, rfl, j1, j2, j3⟩ := hv1
      unfold maxLen at j2
      have J3 := Lib.hid j3
      clear j3
      have hqs : q.length ≤ s := by have := HQL.out; omega
      have hsq : s ≤ q.length := by have := HQL.out; omega
      have hms2 : m + s ≤ l.length := by have := HM.out; omega
      have H1 := Lib.hid hb1
      clear hb1
      go_wp2_with fail
      go_loopw [10] (fun i wr => ∃ j : Nat, j ≤ s ∧ i = .int .i64 j ∧ (∀ t, t < j → q.getD t 0 = l.getD (m + t) 0) ∧ ∃ n, wr = w1.drewN n) (fun i _ => s - (intOf i).toNat)
      case atStart => exact ⟨0, Nat.zero_le _, rfl, fun t ht => absurd ht (by omega), 0, rfl⟩
      case round =>
        obtain ⟨j, hj, rfl, heq, n, rfl⟩ := hrel
        have HEQ := Lib.hid heq
        clear heq
        by_cases h1 : j < s
        · obtain ⟨b1, o1, rfl, hb1, hc1⟩ := J3.out (by omega)
          have g1 := hc1 j (by omega)
          have hbc := H1.out
          have g2 := (hbc.cell (p := ⟨b, o + (m + j), none⟩) hb).trans (HC.out (m + j) (by omega))
          have hx1 := Lib.hid hc1
          clear hc1 hbc
          have i0 : (0 : Int) ≤ (m : Int) + (j : Int) := by omega
          have i1 : (m : Int) + (j : Int) < (l.length : Int) := by omega
          have i2 : (0 : Int) ≤ (j : Int) := by omega
          have i3 : (j : Int) < (q.length : Int) := by omega
          by_cases he : q.getD j 0 = l.getD (m + j) 0
          · have hd : ((((l.getD (m + j) 0).toNat : Int) != ((q.getD j 0).toNat : Int)) : Bool) = false := by rw [he]; simp
            have HNX := Lib.hid (agree_to HEQ.out he)
            clear he
            generalize l.getD (m + j) 0 = x at *
            generalize q.getD j 0 = y at *
            go_wp2_with fail
            go_quiet (fail)
            go_wp2_with fail
            go_roundw
            case rel => exact ⟨j + 1, by omega, by go_num, HNX.out, dn1 ..⟩
            case measure => simp [intOf]; omega
          · have hd : ((((l.getD (m + j) 0).toNat : Int) != ((q.getD j 0).toNat : Int)) : Bool) = true := by rw [bne_iff_ne]; intro h'; exact he (UInt8.toNat_inj.1 (by omega))
            have HNE : Hid (remE k l = 6 ∧ remV k l = []) := by
              have hb : (q == l.drop m) = false := by
                rw [beq_eq_false_iff_ne]
                intro h'
                apply he
                rw [h']
                simp [List.getD, List.getElem?_drop]
              have h1 := HE.out
              have h2 := HV.out
              rw [hb] at h1 h2
              exact ⟨h1, h2⟩
            have HD := Lib.hid he
            clear he
            generalize l.getD (m + j) 0 = x at *
            generalize q.getD j 0 = y at *
            go_wp2_with fail
            go_quiet (fail)
            go_wp2_with fail
            go_ret2
            refine ⟨_, by rw [HNE.out.1]; rfl, by rw [HNE.out.2]; exact SL.nil _ _ _ _ (Nat.zero_le _), ?_⟩
            simp only [World.drewN_drewN]
            exact below_drewN H1.out _
        · obtain rfl : j = s := by omega
          have HYES : Hid (remE k l = 0 ∧ remV k l = l.take m) := by
            have hb : (q == l.drop m) = true := by
              rw [beq_iff_eq]
              have hl2 := HQL.out
              have hl1 := HM.out
              apply List.ext_getElem (by rw [List.length_drop]; omega)
              intro t ht1 ht2
              have := HEQ.out t (by omega)
              rw [gdg ht1, gdg (show m + t < l.length by omega)] at this
              rw [this, List.getElem_drop]
            have h1 := HE.out
            have h2 := HV.out
            rw [hb] at h1 h2
            exact ⟨h1, h2⟩
          have hK := HK.out.on (below_drewN H1.out n)
          obtain ⟨A3, c3, hv3, r1, r2, r3⟩ := hK
          have hlt : (l.take m).length = m := by rw [List.length_take]; omega
          rw [hlt] at hv3
          simp only [Value.slice.injEq, true_and] at hv3
          obtain ⟨rfl, rfl⟩ := hv3
          have R3 := Lib.hid r3
          have HLT := Lib.hid hlt
          have HLS : Hid ((l.take m).length ≤ 1000) := by show _ ≤ _; omega
          clear r3 hlt
          go_wp2_with (at_builtin; refine wpList_appS rfl (.tmp 48) (.tmp 51) rfl (w1.drewN n) (w1.drewN n).heap.size (.slice none 0 0) [] (l.take m) (some ⟨b, o, none⟩) c rfl (by rw [HLT.out]; rfl) (Below.refl _ _) (OB.nil _ _) (fun hp => by obtain ⟨b', o', hA, hb', hc'⟩ := R3.out hp; exact ⟨b', o', hA, hc'⟩) (by have := HLS.out; simp only [List.length_nil]; omega) (Nat.le_refl _) ?_; intro v2 w2 hv2 hb2)
          go_ret2
          exact ⟨_, by rw [HYES.out.1, HSE.out]; rfl, by rw [HYES.out.2]; exact hv2.sl, (below_drewN H1.out n).trans (hb2.mono (below_drewN H1.out n).size)⟩
end Go.Proofs.YtnbggokmiokhlaaDoor
