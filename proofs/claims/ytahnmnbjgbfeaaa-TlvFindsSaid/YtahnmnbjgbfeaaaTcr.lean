/-
  Lists of data objects compared: the walks of Same of the program (from the front) and of the reference.
-/
import Derived.Test.YtahnmnbjgbfeaaaTcm
import Derived.Laws.EntriesVeiled
namespace Go.Proofs.Ytahnmnbjgbfeaaa
set_option linter.unusedVariables false
set_option linter.unusedSimpArgs false
open Go.RowKit

theorem psa_any : ∀ (n : Nat) (ts : List T), depL ts < n → PsaC ts
  | 0, ts, h => absurd h (Nat.not_lt_zero _)
  | n + 1, ts, h => psa_step ts fun ts' h' => psa_any n ts' (by omega)

set_option maxRecDepth 100000 in
set_option maxHeartbeats 6400000 in
theorem psame_any (ts us : List T) (va vb : Value) (w : World) (ha : TL w w.heap.size va ts) (hb : TL w w.heap.size vb us) (hd : depL ts ≤ 50000) :
    Calls Try.prog 58 #[va, vb] w fun e w' => e = .returned (.bool (samT ts us)) ∧ Below w.heap.size w w' := by
  have HP : Hid (∀ (sb : Nat) (W : World), Below w.heap.size w W → SamBox W sb → Calls Try.prog 80 #[va, vb, .int .i64 1, .pointer (some ⟨sb, 0, none⟩)] W fun e w' => e = .returned (.bool (samT ts us)) ∧ Below W.heap.size W w') :=
    fun sb W hW hs => psa_any _ ts (Nat.lt_succ_self _) us va vb sb 1 W (ha.on hW) (hb.on hW) hs (by omega)
  generalize samT ts us = X at *
  clear ha hb hd
  go_enter Try.func58, Try.ntmps58
  go_wp2_with fail
  have hb := alloc_below w (Obj.cells #[.func (Fn.func 80) #[] #[.pointer (some ⟨w.heap.size, 0, none⟩)]] 81)
  have hn := heap_alloc_new w (Obj.cells #[.func (Fn.func 80) #[] #[.pointer (some ⟨w.heap.size, 0, none⟩)]] 81)
  refine (HP.out w.heap.size _ hb ⟨by rw [alloc_size]; omega, hn⟩).mono ?_
  rintro e wz ⟨rfl, hz⟩
  have HZ := Lib.hid (hb.trans (hz.mono hb.size))
  clear hz hb hn
  go_wp2_with fail
  go_ret
  exact ⟨rfl, HZ.out⟩

theorem rbeq_any (l m : List UInt8) (v u : Value) (w : World) (h1 : ∃ B, SL w B v l) (h2 : ∃ B, SL w B u m) : Calls Try.prog 76 #[v, u] w fun e w' => e = .returned (.bool (decide (l = m))) ∧ w' = w := by
  obtain ⟨_, h1⟩ := h1
  obtain ⟨_, h2⟩ := h2
  have hb := ba_beq l m
  have c1 := h1.convert
  have c2 := h2.convert
  clear h1 h2
  go_enter Try.func76, Try.ntmps76
  go_wp2_with fail
  go_ret
  exact ⟨ret_bool (by first | rfl | (rw [Bool.eq_iff_iff, beq_iff_eq, decide_eq_true_eq])), rfl⟩
def RsaC (ts : List T) : Prop := ∀ (us : List T) (va vb : Value) (w : World), TL w w.heap.size va ts → TL w w.heap.size vb us →
  Calls Try.prog 55 #[va, vb] w fun e w' => e = .returned (.bool (samT ts us)) ∧ Below w.heap.size w w'

set_option maxRecDepth 100000 in
set_option maxHeartbeats 12800000 in
theorem rsa_step (ts : List T) (ih : ∀ ts' : List T, depL ts' < depL ts → RsaC ts') : RsaC ts := by
  intro us va vb w hka hkb
  have IH := Lib.hid ih
  clear ih
  obtain ⟨A1, c1, rfl, h11, h12, h13⟩ := hka
  obtain ⟨A2, c2, rfl, h21, h22, h23⟩ := hkb
  unfold maxLen at h12 h22
  have HSL := Lib.hid (samT_len ts us)
  go_enter Try.func55, Try.ntmps55
  by_cases e3 : ts.length = us.length
  · have E3 := Lib.hid e3
    have x1 : (ts.length : Int) = (us.length : Int) := by omega
    have x2 : ((ts.length : Int) == (us.length : Int)) = true := beq_iff_eq.2 x1
    have x5 : ((ts.length : Int) != (us.length : Int)) = false := by rw [bne, x2]; rfl
    clear e3 x1 HSL
    go_wp2_with fail
    clear x2 x5
    go_loopw [5] (fun i wr => ∃ (k : Nat), k ≤ ts.length ∧ i = .int .i64 k ∧ Hid (samT ts us = samT (ts.drop k) (us.drop k)) ∧ Hid (Below w.heap.size w wr)) (fun i _ => ts.length - (intOf i).toNat)
    case atStart => exact ⟨0, Nat.zero_le _, rfl, by show _ = _; rw [List.drop_zero, List.drop_zero], Below.refl _ _⟩
    case round =>
      obtain ⟨k, hkl, rfl, HS, HB⟩ := hrel
      by_cases hlt : k < ts.length
      · have hlt2 : k < us.length := by have := E3.out; omega
        obtain ⟨b1, o1, rfl, hb1, hts1⟩ := h13.out (by omega)
        obtain ⟨b2, o2, rfl, hb2, hts2⟩ := h23.out (by omega)
        have hta := TsAt.get hts1 hlt
        have htb := TsAt.get hts2 hlt2
        have hdp := depL_get ts k hlt
        have hsd := samT_drop ts us k hlt hlt2
        obtain ⟨t, ht⟩ : ∃ t, t = ts[k] := ⟨_, rfl⟩
        obtain ⟨u, hu⟩ : ∃ u, u = us[k] := ⟨_, rfl⟩
        rw [← ht] at hta hdp hsd
        rw [← hu] at htb hsd
        have hkt := dep_kids t
        have hta' := TAt.keep HB.out.size (fun p hp => HB.out.cell hp) t b1 _ hb1 hta
        have htb' := TAt.keep HB.out.size (fun p hp => HB.out.cell hp) u b2 _ hb2 htb
        obtain ⟨A3, c3, A4, c4, g1, g2, g3, hv1, hu1⟩ := hta'.cells
        obtain ⟨A5, c5, A6, c6, f1, f2, f3, hv2, hu2⟩ := htb'.cells
        have hsp := samT_parts t u
        have i2 : (k : Int) < (us.length : Int) := by omega
        have i3 : (k : Int) < (ts.length : Int) := by omega
        have HV : Hid (∀ W, Below wr.heap.size wr W → Calls Try.prog 55 #[.slice A4 t.kids.length c4, .slice A6 u.kids.length c6] W fun e w' => e = .returned (.bool (samT t.kids u.kids)) ∧ Below W.heap.size W w') := fun W hW => IH.out t.kids (by omega) u.kids (.slice A4 t.kids.length c4) (.slice A6 u.kids.length c6) W (hu1.on hW) (hu2.on hW)
        have HQ : Hid (∀ W, Below wr.heap.size wr W → Calls Try.prog 76 #[.slice A3 t.val.length c3, .slice A5 u.val.length c5] W fun e w' => e = .returned (.bool (decide (t.val = u.val))) ∧ w' = W) := fun W hW => rbeq_any t.val u.val (.slice A3 t.val.length c3) (.slice A5 u.val.length c5) W ⟨_, hv1.on hW⟩ ⟨_, hv2.on hW⟩
        have hbd := Lib.hid ((Below.refl wr.heap.size wr).drew)
        have hbb1 : b1 < wr.heap.size := by have := HB.out.size; omega
        have hbb2 : b2 < wr.heap.size := by have := HB.out.size; omega
        have HSD := Lib.hid hsd
        have HSP := Lib.hid hsp
        clear hta hta' htb htb' hts1 hts2 ht hu hsd hsp hv1 hv2 hu1 hu2 hdp hkt
        by_cases e1 : t.tag = u.tag
        · have y2 : (t.tag == u.tag) = true := beq_iff_eq.2 e1
          have y5 : (t.tag != u.tag) = false := by rw [bne, y2]; rfl
          by_cases e2 : t.val = u.val
          · have hq := HQ.out
            rw [decide_eq_true e2] at hq
            have HQ2 := Lib.hid hq
            obtain ⟨X, hX⟩ : ∃ X, X = samT t.kids u.kids := ⟨_, rfl⟩
            have hv := HV.out
            rw [← hX] at hv
            have HV2 := Lib.hid hv
            have hpp := HSP.out
            rw [decide_eq_true e1, decide_eq_true e2, ← hX, Bool.true_and, Bool.true_and] at hpp
            have HPP := Lib.hid hpp
            have E1 := Lib.hid e1
            clear hq hv hX hpp HQ HV HSP e2 e1
            go_wp2_with fail
            go_region_held3 (fun w' => w'.cell? ⟨b1, o1 + k * 3, none⟩ = some (.int .i64 t.tag) ∧ w'.cell? ⟨b1, o1 + k * 3 + 1, none⟩ = some (.slice A3 t.val.length c3) ∧ w'.cell? ⟨b1, o1 + k * 3 + 2, none⟩ = some (.slice A4 t.kids.length c4) ∧ w'.cell? ⟨b2, o2 + k * 3, none⟩ = some (.int .i64 u.tag) ∧ w'.cell? ⟨b2, o2 + k * 3 + 1, none⟩ = some (.slice A5 u.val.length c5) ∧ w'.cell? ⟨b2, o2 + k * 3 + 2, none⟩ = some (.slice A6 u.kids.length c6))
              (first
                | (go_keep; done)
                | exact ⟨(hbx.cell (p := ⟨b1, o1 + k * 3, none⟩) hbb1).trans g1, (hbx.cell (p := ⟨b1, o1 + k * 3 + 1, none⟩) hbb1).trans g2, (hbx.cell (p := ⟨b1, o1 + k * 3 + 2, none⟩) hbb1).trans g3, (hbx.cell (p := ⟨b2, o2 + k * 3, none⟩) hbb2).trans f1, (hbx.cell (p := ⟨b2, o2 + k * 3 + 1, none⟩) hbb2).trans f2, (hbx.cell (p := ⟨b2, o2 + k * 3 + 2, none⟩) hbb2).trans f3⟩)
              (first
                | (go_at_call 76; (with_reducible refine (HQ2.out _ hbd.out).mono ?_); rintro e9 wx ⟨rfl, rfl⟩)
                | (go_at_call 55; (with_reducible refine (HV2.out _ hbd.out).mono ?_); rintro e9 wx ⟨rfl, hbx⟩))
            have HZ : Hid (Below w.heap.size w wx) := HB.out.trans ((hbd.out.trans hbx).mono HB.out.size)
            clear hbx HV2
            cases X with
            | false =>
              go_wp2_with fail
              go_ret
              exact ⟨ret_bool (by rw [HS.out, HSD.out, HPP.out]; rfl), HZ.out⟩
            | true =>
              go_wp2_with fail
              go_roundw
              case rel => exact ⟨k + 1, by omega, by go_num, by show _ = _; rw [HS.out, HSD.out, HPP.out, Bool.true_and], HZ⟩
              case measure => simp [intOf]; omega
          · have hq := HQ.out
            rw [decide_eq_false e2] at hq
            have HQ2 := Lib.hid hq
            have hpp := HSP.out
            rw [decide_eq_false e2, Bool.false_and, Bool.and_false] at hpp
            have HPP := Lib.hid hpp
            clear hq hpp HQ HV HSP e2 e1
            go_wp2_with fail
            go_quiet ((go_at_call 76; exact Calls.quiet_of_same (HQ2.out _ (by first | exact Below.refl _ _ | exact hbd.out | exact below_drewN (Below.refl _ _) _))))
            go_wp2_with fail
            go_ret
            exact ⟨ret_bool (by rw [HS.out, HSD.out, HPP.out]; rfl), (by first | exact HB.out | exact HB.out.drew | exact below_drewN HB.out _)⟩
        · have y2 : (t.tag == u.tag) = false := beq_eq_false_iff_ne.2 e1
          have y5 : (t.tag != u.tag) = true := by rw [bne, y2]; rfl
          have hpp := HSP.out
          rw [decide_eq_false e1, Bool.false_and] at hpp
          have HPP := Lib.hid hpp
          clear hpp HQ HV HSP
          go_wp2_with fail
          go_quiet (fail)
          go_wp2_with fail
          go_ret
          exact ⟨ret_bool (by rw [HS.out, HSD.out, HPP.out]; rfl), (by first | exact HB.out | exact HB.out.drew | exact below_drewN HB.out _)⟩
      · have HS2 : Hid (samT ts us = true) := by
          show _ = _
          rw [HS.out, List.drop_eq_nil_of_le (by omega), List.drop_eq_nil_of_le (by have := E3.out; omega), samT]
          rfl
        go_wp2_with fail
        go_ret
        exact ⟨ret_bool HS2.out.symm, HB.out⟩
  · have HSM := Lib.hid (HSL.out e3)
    have x1 : ¬ (ts.length : Int) = (us.length : Int) := by omega
    have x2 : ((ts.length : Int) == (us.length : Int)) = false := beq_eq_false_iff_ne.2 x1
    have x5 : ((ts.length : Int) != (us.length : Int)) = true := by rw [bne, x2]; rfl
    clear HSL
    go_wp2_with fail
    go_ret
    exact ⟨ret_bool HSM.out.symm, Below.refl _ _⟩
theorem rsa_any : ∀ (n : Nat) (ts : List T), depL ts < n → RsaC ts
  | 0, ts, h => absurd h (Nat.not_lt_zero _)
  | n + 1, ts, h => rsa_step ts fun ts' h' => rsa_any n ts' (by omega)
end Go.Proofs.Ytahnmnbjgbfeaaa
