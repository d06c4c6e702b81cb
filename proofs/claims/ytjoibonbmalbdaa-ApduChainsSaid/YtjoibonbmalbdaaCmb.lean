/-
  The walks of the reference's Check, and of Case, of the program and of the reference.
-/
import Derived.Test.YtjoibonbmalbdaaCma
namespace Go.Proofs.Ytjoibonbmalbdaa
set_option linter.unusedVariables false
set_option linter.unusedSimpArgs false
open Go.RowKit

set_option maxRecDepth 100000 in
set_option maxHeartbeats 800000 in
theorem rchk_any (c : Cm) (A : Option Addr) (n k : Nat) (w : World) (hn : n = c.data.length) (hle : -9223372036854775808 ≤ c.le ∧ c.le ≤ 9223372036854775807) :
    Calls Try.prog 15 #[c.val (.slice A n k)] w fun e w' => e = .returned (.int .i64 (chkC c)) ∧ Below w.heap.size w w' := by
  obtain ⟨cla, ins, p1, p2, data, le, long⟩ := c
  simp only [Cm.val]
  subst hn
  have hbb : bytesC ⟨cla, ins, p1, p2, data, le, long⟩ = (isB cla && isB ins && isB p1 && isB p2) := rfl
  cases h1 : isB cla
  · have HV : Hid (chkC ⟨cla, ins, p1, p2, data, le, long⟩ = 2) := by show _ = _; rw [chkC, if_pos (by rw [hbb, h1]; rfl)]
    clear hbb
    cases long
    all_goals
      go_enter Try.func15, Try.ntmps15
      go_wp2_with (go_at_call 44; refine (risb_any _ _).mono ?_; rintro e w' ⟨rfl, rfl⟩)
      go_ret
      exact ⟨by rw [HV.out]; rfl, alloc_below _ _⟩
  cases h2 : isB ins
  · have HV : Hid (chkC ⟨cla, ins, p1, p2, data, le, long⟩ = 2) := by show _ = _; rw [chkC, if_pos (by rw [hbb, h1, h2]; rfl)]
    clear hbb
    cases long
    all_goals
      go_enter Try.func15, Try.ntmps15
      go_wp2_with (go_at_call 44; refine (risb_any _ _).mono ?_; rintro e w' ⟨rfl, rfl⟩)
      go_ret
      exact ⟨by rw [HV.out]; rfl, alloc_below _ _⟩
  cases h3 : isB p1
  · have HV : Hid (chkC ⟨cla, ins, p1, p2, data, le, long⟩ = 2) := by show _ = _; rw [chkC, if_pos (by rw [hbb, h1, h2, h3]; rfl)]
    clear hbb
    cases long
    all_goals
      go_enter Try.func15, Try.ntmps15
      go_wp2_with (go_at_call 44; refine (risb_any _ _).mono ?_; rintro e w' ⟨rfl, rfl⟩)
      go_ret
      exact ⟨by rw [HV.out]; rfl, alloc_below _ _⟩
  cases h4 : isB p2
  · have HV : Hid (chkC ⟨cla, ins, p1, p2, data, le, long⟩ = 2) := by show _ = _; rw [chkC, if_pos (by rw [hbb, h1, h2, h3, h4]; rfl)]
    clear hbb
    cases long
    all_goals
      go_enter Try.func15, Try.ntmps15
      go_wp2_with (go_at_call 44; refine (risb_any _ _).mono ?_; rintro e w' ⟨rfl, rfl⟩)
      go_ret
      exact ⟨by rw [HV.out]; rfl, alloc_below _ _⟩
  have hok : bytesC ⟨cla, ins, p1, p2, data, le, long⟩ = true := by rw [hbb, h1, h2, h3, h4]; rfl
  have HV : Hid (chkC ⟨cla, ins, p1, p2, data, le, long⟩ = if badC ⟨cla, ins, p1, p2, data, le, long⟩ = true then 1 else if maxD long < data.length then 3 else if leC ⟨cla, ins, p1, p2, data, le, long⟩ = true then 2 else if emptyC ⟨cla, ins, p1, p2, data, le, long⟩ = true then 4 else 0) := by
    show _ = _; rw [chkC, if_neg (by rw [hok]; decide)]
  obtain ⟨hi0, hi1⟩ := isB_yes h2
  clear hbb hok
  cases long
  all_goals
    go_enter Try.func15, Try.ntmps15
    go_wp2_with (go_at_call 44; refine (risb_any _ _).mono ?_; rintro e w' ⟨rfl, rfl⟩)
    all_goals
      go_ret
      refine ⟨ret_int ?_, alloc_below _ _⟩
      rw [HV.out]
      clear HV
      simp only [badC, leC, emptyC, maxD, maxL]
      first
        | (simp_all; done)
        | (simp_all; omega)

theorem chk_parts {c : Cm} (h : chkC c = 0) : bytesC c = true ∧ badC c = false ∧ (c.data.length : Int) ≤ maxD c.long ∧ 0 ≤ c.le ∧ c.le ≤ maxL c.long ∧ (c.long = true → ¬ (c.data.length = 0 ∧ c.le = 0)) := by
  unfold chkC at h
  cases h1 : bytesC c
  · rw [if_pos h1] at h; omega
  · rw [if_neg (by simp [h1])] at h
    cases h2 : badC c
    · rw [if_neg (by simp [h2])] at h
      by_cases h3 : maxD c.long < c.data.length
      · rw [if_pos h3] at h; omega
      · rw [if_neg h3] at h
        cases h4 : leC c
        · rw [if_neg (by simp [h4])] at h
          cases h5 : emptyC c
          · simp [leC] at h4
            simp [emptyC] at h5
            refine ⟨rfl, rfl, by omega, by omega, by omega, fun hl => ?_⟩
            rintro ⟨e1, e2⟩
            exact h5 hl (List.eq_nil_of_length_eq_zero e1) e2
          · rw [if_pos h5] at h; omega
        · rw [if_pos h4] at h; omega
    · rw [if_pos h2] at h; omega

/-- What Case answers. -/
def caseC (c : Cm) : Int := if chkC c = 0 then (if c.data.length = 0 then (if c.le = 0 then 1 else 2) else if c.le = 0 then 3 else 4) else 0
theorem maxL_le (b : Bool) : maxL b ≤ 65536 := by cases b <;> decide
theorem maxD_le (b : Bool) : maxD b ≤ 65535 := by cases b <;> decide

/-- What a box of the call's own holds behind a callee that wrote nothing that was there. -/
theorem box_cell {w w1 : World} {cs : Array Value} {T : TypeId} (hb : Below (w.heap.size + 1) (w.alloc (.cells cs T)) w1) (k : Nat) (v : Value) (h : cs[k]? = some v) : w1.cell? ⟨w.heap.size, k, none⟩ = some v := by
  rw [hb.cell (p := ⟨w.heap.size, k, none⟩) (by simp), cell_of_row _ w.heap.size _ cs T (0, 0) (heap_alloc_new w _), h]

set_option maxRecDepth 100000 in
set_option maxHeartbeats 800000 in
theorem pcase_any (c : Cm) (A : Option Addr) (n k : Nat) (w : World) (hn : n = c.data.length) (hle : -9223372036854775808 ≤ c.le ∧ c.le ≤ 9223372036854775807) :
    Calls Try.prog 16 #[c.val (.slice A n k)] w fun e w' => e = .returned (.int .i64 (caseC c)) ∧ Below w.heap.size w w' := by
  have HC := Lib.hid (fun (w : World) => pchk_any c A n k w hn hle)
  by_cases h0 : chkC c = 0
  · have HV : Hid (caseC c = if c.data.length = 0 then (if c.le = 0 then 1 else 2) else if c.le = 0 then 3 else 4) := by show _ = _; rw [caseC, if_pos h0]
    obtain ⟨_, _, hp3, hp4, hp5, _⟩ := chk_parts h0
    have hL := maxL_le c.long
    have hD := maxD_le c.long
    obtain ⟨cla, ins, p1, p2, data, le, long⟩ := c
    simp only [Cm.val] at HC ⊢
    subst hn
    have H0 := Lib.hid h0
    have hd2 : data.length ≤ 65535 := by have : (data.length : Int) ≤ 65535 := Int.le_trans hp3 hD; omega
    have hl2 : 0 ≤ le := hp4
    clear h0
    go_enter Try.func16, Try.ntmps16
    go_wp2_with fail
    refine (HC.out _).mono ?_
    rintro e w1 ⟨rfl, hb1⟩
    rw [H0.out]
    rw [alloc_size] at hb1
    have c4 := box_cell hb1 4 _ rfl
    have c5 := box_cell hb1 5 _ rfl
    have hw : Below w.heap.size w w1 := (alloc_below _ _).trans (hb1.mono (by omega))
    have HB := Lib.hid hb1
    clear hb1
    go_wp2_with fail
    all_goals
      go_ret
      refine ⟨ret_int ?_, hw⟩
      rw [HV.out]
      clear HV c4 c5
      simp_all
  · have HV : Hid (caseC c = 0) := by show _ = _; rw [caseC, if_neg h0]
    have hz : (chkC c != 0) = true := by rw [bne_iff_ne]; exact h0
    obtain ⟨cla, ins, p1, p2, data, le, long⟩ := c
    simp only [Cm.val] at HC ⊢
    subst hn
    clear h0
    go_enter Try.func16, Try.ntmps16
    go_wp2_with fail
    refine (HC.out _).mono ?_
    rintro e w1 ⟨rfl, hb1⟩
    have hw : Below w.heap.size w w1 := (alloc_below _ _).trans (hb1.mono (by rw [alloc_size]; omega))
    go_wp2_with fail
    go_ret
    exact ⟨by rw [HV.out]; rfl, hw⟩

set_option maxRecDepth 100000 in
set_option maxHeartbeats 800000 in
theorem rcase_any (c : Cm) (A : Option Addr) (n k : Nat) (w : World) (hn : n = c.data.length) (hle : -9223372036854775808 ≤ c.le ∧ c.le ≤ 9223372036854775807) :
    Calls Try.prog 17 #[c.val (.slice A n k)] w fun e w' => e = .returned (.int .i64 (caseC c)) ∧ Below w.heap.size w w' := by
  have HC := Lib.hid (fun (w : World) => rchk_any c A n k w hn hle)
  by_cases h0 : chkC c = 0
  · have HV : Hid (caseC c = if c.data.length = 0 then (if c.le = 0 then 1 else 2) else if c.le = 0 then 3 else 4) := by show _ = _; rw [caseC, if_pos h0]
    obtain ⟨_, _, hp3, hp4, hp5, _⟩ := chk_parts h0
    have hL := maxL_le c.long
    have hD := maxD_le c.long
    obtain ⟨cla, ins, p1, p2, data, le, long⟩ := c
    simp only [Cm.val] at HC ⊢
    subst hn
    have H0 := Lib.hid h0
    have hd2 : data.length ≤ 65535 := by have : (data.length : Int) ≤ 65535 := Int.le_trans hp3 hD; omega
    have hl2 : 0 ≤ le := hp4
    clear h0
    by_cases hl : 0 < le <;> by_cases hd : 0 < data.length
    all_goals
      go_enter Try.func17, Try.ntmps17
      go_wp2_with fail
      refine (HC.out _).mono ?_
      rintro e w1 ⟨rfl, hb1⟩
      rw [H0.out]
      rw [alloc_size] at hb1
      have c4 := box_cell hb1 4 _ rfl
      have c5 := box_cell hb1 5 _ rfl
      have hw : Below w.heap.size w w1 := (alloc_below _ _).trans (hb1.mono (by omega))
      have HB := Lib.hid hb1
      clear hb1
      go_wp2_with fail
      go_ret
      refine ⟨ret_int ?_, hw⟩
      rw [HV.out]
      clear HV c4 c5
      first
        | (rw [if_neg (by omega), if_neg (by omega)])
        | (rw [if_pos (by omega), if_neg (by omega)])
        | (rw [if_neg (by omega), if_pos (by omega)])
        | (rw [if_pos (by omega), if_pos (by omega)])
  · have HV : Hid (caseC c = 0) := by show _ = _; rw [caseC, if_neg h0]
    have hz : (chkC c != 0) = true := by rw [bne_iff_ne]; exact h0
    obtain ⟨cla, ins, p1, p2, data, le, long⟩ := c
    simp only [Cm.val] at HC ⊢
    subst hn
    clear h0
    go_enter Try.func17, Try.ntmps17
    go_wp2_with fail
    refine (HC.out _).mono ?_
    rintro e w1 ⟨rfl, hb1⟩
    have hw : Below w.heap.size w w1 := (alloc_below _ _).trans (hb1.mono (by rw [alloc_size]; omega))
    go_wp2_with fail
    go_ret
    exact ⟨by rw [HV.out]; rfl, hw⟩
end Go.Proofs.Ytjoibonbmalbdaa
