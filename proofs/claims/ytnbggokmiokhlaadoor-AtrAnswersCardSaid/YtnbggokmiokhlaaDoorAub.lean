/-
  count: the walk (gen5_cnt.py).
-/
import Derived.Test.YtnbggokmiokhlaaDoorAua
namespace Go.Proofs.YtnbggokmiokhlaaDoor
set_option linter.unusedVariables false
set_option linter.unusedSimpArgs false
open Go.RowKit

def cnt0 (a : At) : Int := if a.prs.getD 0 0 = 1 then 2 else 1
def cnt1 (a : At) : Int := if 0 < a.ibs.length then max (cnt0 a) (a.ibs.getD (a.ibs.length - 1) Ib.zero).g else cnt0 a
def cntV (a : At) : Int := if a.prs.length = 2 ∧ a.ibs.any ownB = false then max (cnt1 a + 1) 3 else cnt1 a

set_option maxRecDepth 100000 in
set_option maxHeartbeats 3200000 in
theorem pcnt_any (a : At) (v : Value) (w : World) (h : AT w v a) (hp : 0 < a.prs.length) (hg : ∀ x ∈ a.ibs, x.g ≤ 1000) :
    Calls Tryd.prog 109 #[v] w fun e w' => e = .returned (.int .i64 (cntV a)) ∧ Below w.heap.size w w' := by
  obtain ⟨v1, v2, v3, rfl, h1, h2, h3⟩ := h
  have HO := Lib.hid (fun (W : World) (hW : Below w.heap.size w W) => pcof_any a.ibs v1 W (h1.on hW))
  have HV : Hid (cntV a = if a.prs.length = 2 ∧ a.ibs.any ownB = false then max (cnt1 a + 1) 3 else cnt1 a) := rfl
  have HV1 : Hid (cnt1 a = if 0 < a.ibs.length then max (cnt0 a) (a.ibs.getD (a.ibs.length - 1) Ib.zero).g else cnt0 a) := rfl
  have HV0 : Hid (cnt0 a = if a.prs.getD 0 0 = 1 then 2 else 1) := rfl
  have HN1 : Hid (cnt1 a ≤ 1000) := by
    show _ ≤ _
    rw [cnt1, cnt0]
    split
    · have := hg _ (getD_mem a.ibs (a.ibs.length - 1) (by omega))
      split <;> omega
    · split <;> omega
  have HG : Hid (0 < a.ibs.length → (a.ibs.getD (a.ibs.length - 1) Ib.zero).g ≤ 1000) := fun h => hg _ (getD_mem a.ibs (a.ibs.length - 1) (by omega))
  obtain ⟨A1, c1, rfl, a1, b1, d1⟩ := h1
  obtain ⟨A2, c2, rfl, a2, b2, d2⟩ := h2
  obtain ⟨A3, c3, rfl, a3, b3, d3⟩ := h3
  unfold maxLen at b1 b2 b3
  obtain ⟨b, o, rfl, hb, hc⟩ := d2 hp
  have g0 := hc 0 hp
  simp only [Nat.add_zero] at g0
  have hP' : (0 : Int) < (a.prs.length : Int) := by omega
  have D1 := Lib.hid d1
  clear d1 hc d2 d3 hg
  generalize a.ibs.any ownB = ob at *
  generalize a.prs.getD 0 0 = q at *
  have hal := Lib.hid (alloc_below w (.cells #[.bool a.inv, .slice A1 a.ibs.length c1, .slice (some ⟨b, o, none⟩) a.prs.length c2, .slice A3 a.his.length c3] 26))
  by_cases hq : q = 1
  · subst hq
    by_cases hi : 0 < a.ibs.length
    · obtain ⟨b', o', rfl, hb', hc'⟩ := D1.out hi
      obtain ⟨n, hn⟩ : ∃ n, a.ibs.length = n + 1 := ⟨a.ibs.length - 1, by omega⟩
      have x1 := (hc' n (by omega)).1
      have HGi := HG.out hi
      have HV1 : Hid (cnt1 a = max (cnt0 a) (a.ibs.getD n Ib.zero).g) := by show _ = _; rw [HV1.out, if_pos hi, hn, Nat.add_sub_cancel]
      rw [hn, Nat.add_sub_cancel] at HGi
      clear HG D1 hc'
      generalize a.ibs.length = L at *
      subst hn
      generalize a.ibs.getD n Ib.zero = x at *
      obtain ⟨xg, xk, xv, xp⟩ := x
      simp only at x1 HGi HV1
      have m1 : max 2 xg ≤ 1000 := by omega
      have m2 : 1 ≤ max 2 xg := by omega
      have E1 : Hid (cnt1 a = max 2 xg) := by show _ = _; rw [HV1.out, HV0.out]; simp
      by_cases h2 : a.prs.length = 2
      · generalize a.prs.length = LP at *
        subst h2
        cases ob with
        | true =>
          have E : Hid (cntV a = max 2 xg) := by show _ = _; rw [HV.out, if_neg (by simp)]; exact E1.out
          go_enter Tryd.func109, Tryd.ntmps109
          go_wp2_with fail
          refine (HO.out _ hal.out).mono ?_
          rintro e w2 ⟨rfl, hb2⟩
          have HB2 := Lib.hid (hal.out.trans (hb2.mono hal.out.size))
          clear hb2
          go_wp2_with fail
          go_ret
          exact ⟨ret_int E.out.symm, HB2.out⟩
        | false =>
          have E : Hid (cntV a = max (max 2 xg + 1) 3) := by show _ = _; rw [HV.out, if_pos ⟨rfl, rfl⟩, E1.out]
          go_enter Tryd.func109, Tryd.ntmps109
          go_wp2_with fail
          refine (HO.out _ hal.out).mono ?_
          rintro e w2 ⟨rfl, hb2⟩
          have HB2 := Lib.hid (hal.out.trans (hb2.mono hal.out.size))
          clear hb2
          go_wp2_with fail
          go_ret
          exact ⟨ret_int (by rw [E.out] <;> rfl), HB2.out⟩
      · have E : Hid (cntV a = max 2 xg) := by show _ = _; rw [HV.out, if_neg (by intro h; exact h2 h.1)]; exact E1.out
        go_enter Tryd.func109, Tryd.ntmps109
        go_wp2_with fail
        go_ret
        exact ⟨ret_int E.out.symm, hal.out⟩
    · have hi0 : a.ibs.length = 0 := by omega
      have HV1 : Hid (cnt1 a = cnt0 a) := by show _ = _; rw [HV1.out, if_neg hi]
      clear HG D1
      generalize a.ibs.length = L at *
      subst hi0
      have E1 : Hid (cnt1 a = 2) := by show _ = _; rw [HV1.out, HV0.out]; simp
      by_cases h2 : a.prs.length = 2
      · generalize a.prs.length = LP at *
        subst h2
        cases ob with
        | true =>
          have E : Hid (cntV a = 2) := by show _ = _; rw [HV.out, if_neg (by simp)]; exact E1.out
          go_enter Tryd.func109, Tryd.ntmps109
          go_wp2_with fail
          refine (HO.out _ hal.out).mono ?_
          rintro e w2 ⟨rfl, hb2⟩
          have HB2 := Lib.hid (hal.out.trans (hb2.mono hal.out.size))
          clear hb2
          go_wp2_with fail
          go_ret
          exact ⟨ret_int E.out.symm, HB2.out⟩
        | false =>
          have E : Hid (cntV a = max (2 + 1) 3) := by show _ = _; rw [HV.out, if_pos ⟨rfl, rfl⟩, E1.out]
          go_enter Tryd.func109, Tryd.ntmps109
          go_wp2_with fail
          refine (HO.out _ hal.out).mono ?_
          rintro e w2 ⟨rfl, hb2⟩
          have HB2 := Lib.hid (hal.out.trans (hb2.mono hal.out.size))
          clear hb2
          go_wp2_with fail
          go_ret
          exact ⟨ret_int (by rw [E.out] <;> rfl), HB2.out⟩
      · have E : Hid (cntV a = 2) := by show _ = _; rw [HV.out, if_neg (by intro h; exact h2 h.1)]; exact E1.out
        go_enter Tryd.func109, Tryd.ntmps109
        go_wp2_with fail
        go_ret
        exact ⟨ret_int E.out.symm, hal.out⟩
  · have hq1 : (q == 1) = false := by rw [beq_eq_false_iff_ne]; exact hq
    by_cases hi : 0 < a.ibs.length
    · obtain ⟨b', o', rfl, hb', hc'⟩ := D1.out hi
      obtain ⟨n, hn⟩ : ∃ n, a.ibs.length = n + 1 := ⟨a.ibs.length - 1, by omega⟩
      have x1 := (hc' n (by omega)).1
      have HGi := HG.out hi
      have HV1 : Hid (cnt1 a = max (cnt0 a) (a.ibs.getD n Ib.zero).g) := by show _ = _; rw [HV1.out, if_pos hi, hn, Nat.add_sub_cancel]
      rw [hn, Nat.add_sub_cancel] at HGi
      clear HG D1 hc'
      generalize a.ibs.length = L at *
      subst hn
      generalize a.ibs.getD n Ib.zero = x at *
      obtain ⟨xg, xk, xv, xp⟩ := x
      simp only at x1 HGi HV1
      have m1 : max 1 xg ≤ 1000 := by omega
      have m2 : 1 ≤ max 1 xg := by omega
      have E1 : Hid (cnt1 a = max 1 xg) := by show _ = _; rw [HV1.out, HV0.out]; simp [hq]
      by_cases h2 : a.prs.length = 2
      · generalize a.prs.length = LP at *
        subst h2
        cases ob with
        | true =>
          have E : Hid (cntV a = max 1 xg) := by show _ = _; rw [HV.out, if_neg (by simp)]; exact E1.out
          go_enter Tryd.func109, Tryd.ntmps109
          go_wp2_with fail
          refine (HO.out _ hal.out).mono ?_
          rintro e w2 ⟨rfl, hb2⟩
          have HB2 := Lib.hid (hal.out.trans (hb2.mono hal.out.size))
          clear hb2
          go_wp2_with fail
          go_ret
          exact ⟨ret_int E.out.symm, HB2.out⟩
        | false =>
          have E : Hid (cntV a = max (max 1 xg + 1) 3) := by show _ = _; rw [HV.out, if_pos ⟨rfl, rfl⟩, E1.out]
          go_enter Tryd.func109, Tryd.ntmps109
          go_wp2_with fail
          refine (HO.out _ hal.out).mono ?_
          rintro e w2 ⟨rfl, hb2⟩
          have HB2 := Lib.hid (hal.out.trans (hb2.mono hal.out.size))
          clear hb2
          go_wp2_with fail
          go_ret
          exact ⟨ret_int (by rw [E.out] <;> rfl), HB2.out⟩
      · have E : Hid (cntV a = max 1 xg) := by show _ = _; rw [HV.out, if_neg (by intro h; exact h2 h.1)]; exact E1.out
        go_enter Tryd.func109, Tryd.ntmps109
        go_wp2_with fail
        go_ret
        exact ⟨ret_int E.out.symm, hal.out⟩
    · have hi0 : a.ibs.length = 0 := by omega
      have HV1 : Hid (cnt1 a = cnt0 a) := by show _ = _; rw [HV1.out, if_neg hi]
      clear HG D1
      generalize a.ibs.length = L at *
      subst hi0
      have E1 : Hid (cnt1 a = 1) := by show _ = _; rw [HV1.out, HV0.out]; simp [hq]
      by_cases h2 : a.prs.length = 2
      · generalize a.prs.length = LP at *
        subst h2
        cases ob with
        | true =>
          have E : Hid (cntV a = 1) := by show _ = _; rw [HV.out, if_neg (by simp)]; exact E1.out
          go_enter Tryd.func109, Tryd.ntmps109
          go_wp2_with fail
          refine (HO.out _ hal.out).mono ?_
          rintro e w2 ⟨rfl, hb2⟩
          have HB2 := Lib.hid (hal.out.trans (hb2.mono hal.out.size))
          clear hb2
          go_wp2_with fail
          go_ret
          exact ⟨ret_int E.out.symm, HB2.out⟩
        | false =>
          have E : Hid (cntV a = max (1 + 1) 3) := by show _ = _; rw [HV.out, if_pos ⟨rfl, rfl⟩, E1.out]
          go_enter Tryd.func109, Tryd.ntmps109
          go_wp2_with fail
          refine (HO.out _ hal.out).mono ?_
          rintro e w2 ⟨rfl, hb2⟩
          have HB2 := Lib.hid (hal.out.trans (hb2.mono hal.out.size))
          clear hb2
          go_wp2_with fail
          go_ret
          exact ⟨ret_int (by rw [E.out] <;> rfl), HB2.out⟩
      · have E : Hid (cntV a = 1) := by show _ = _; rw [HV.out, if_neg (by intro h; exact h2 h.1)]; exact E1.out
        go_enter Tryd.func109, Tryd.ntmps109
        go_wp2_with fail
        go_ret
        exact ⟨ret_int E.out.symm, hal.out⟩
end Go.Proofs.YtnbggokmiokhlaaDoor
