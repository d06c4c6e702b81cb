
/-
  A memory that New has made: the walks of the calls that only read.
-/
import Derived.Test.YtiholfpcndjliaaDoorCeb
namespace Go.Proofs.YtiholfpcndjliaaDoor
set_option linter.unusedVariables false
set_option linter.unusedSimpArgs false
open Go.RowKit

/-- The error of an access. -/
def accE (s : St) (a : Int) : Int := if s.on = false then 7 else if 0 ≤ a ∧ a < (s.ws.length : Int) then 0 else 2

theorem ret_b {a b : Bool} (h : a = b) : Ending.returned (.bool a) = .returned (.bool b) := by rw [h]
theorem ret_i {k : IntKind} {a b : Int} (h : a = b) : Ending.returned (.int k a) = .returned (.int k b) := by rw [h]

theorem isw_any {w : World} {b g lf : Nat} {s : St} (h : MA w b g s lf) (a : Int) (ha : -9223372036854775808 ≤ a ∧ a < 9223372036854775808) :
    Calls Tryd.prog 60 #[.pointer (some ⟨b, 0, none⟩), .int .i64 a] w fun e w' => e = .returned (.bool (decide (0 ≤ a ∧ a < (s.ws.length : Int)))) ∧ w' = w := by
  have c0 := cell_of_row _ _ 0 _ _ _ h.row
  have n1 := h.n1
  have n2 := h.n2
  clear h
  unfold mrow at c0
  generalize s.ws.length = n at *
  go_enter Tryd.func60, Tryd.ntmps60
  go_wp2
  all_goals (go_ret; exact ⟨ret_b (by simp <;> omega), rfl⟩)

theorem access_any {w : World} {b g lf : Nat} {s : St} (h : MA w b g s lf) (a : Int) (ha : -9223372036854775808 ≤ a ∧ a < 9223372036854775808) :
    Calls Tryd.prog 94 #[.pointer (some ⟨b, 0, none⟩), .int .i64 a] w fun e w' => e = .returned (.int .i64 (accE s a)) ∧ w' = w := by
  have HM := Lib.hid (made_any h)
  have HI := Lib.hid (isw_any h a ha)
  have c4 := cell_of_row _ _ 4 _ _ _ h.row
  have HE : Hid (accE s a = if s.on = false then 7 else if 0 ≤ a ∧ a < (s.ws.length : Int) then 0 else 2) := rfl
  clear h
  unfold mrow at c4
  generalize accE s a = r at *
  rcases s with ⟨ws, wear, en, wr, cu, on, cut⟩
  simp only at HE HI c4
  obtain ⟨z, hz⟩ : ∃ z, decide (0 ≤ a ∧ a < (ws.length : Int)) = z := ⟨_, rfl⟩
  rw [hz] at HI
  have HZ := Lib.hid hz
  clear hz
  cases on
  · go_enter Tryd.func94, Tryd.ntmps94
    go_wp2_with (first | (go_at_call 59; refine HM.out.mono ?_; rintro e w' ⟨rfl, rfl⟩) | (go_at_call 60; refine HI.out.mono ?_; rintro e w' ⟨rfl, rfl⟩))
    all_goals (go_ret; exact ⟨ret_i (by rw [HE.out]; simp), rfl⟩)
  · cases z
    · have hno : ¬ (0 ≤ a ∧ a < (ws.length : Int)) := of_decide_eq_false HZ.out
      have HN := Lib.hid hno
      clear hno
      go_enter Tryd.func94, Tryd.ntmps94
      go_wp2_with (first | (go_at_call 59; refine HM.out.mono ?_; rintro e w' ⟨rfl, rfl⟩) | (go_at_call 60; refine HI.out.mono ?_; rintro e w' ⟨rfl, rfl⟩))
      all_goals (go_ret; exact ⟨ret_i (by rw [HE.out, if_neg (by simp), if_neg HN.out]), rfl⟩)
    · have hno : 0 ≤ a ∧ a < (ws.length : Int) := of_decide_eq_true HZ.out
      have HN := Lib.hid hno
      clear hno
      go_enter Tryd.func94, Tryd.ntmps94
      go_wp2_with (first | (go_at_call 59; refine HM.out.mono ?_; rintro e w' ⟨rfl, rfl⟩) | (go_at_call 60; refine HI.out.mono ?_; rintro e w' ⟨rfl, rfl⟩))
      all_goals (go_ret; exact ⟨ret_i (by rw [HE.out, if_neg (by simp), if_pos HN.out]), rfl⟩)

theorem words_any {w : World} {b g lf : Nat} {s : St} (h : MA w b g s lf) :
    Calls Tryd.prog 51 #[.pointer (some ⟨b, 0, none⟩)] w fun e w' => e = .returned (.int .i64 (s.ws.length : Int)) ∧ w' = w := by
  have HM := Lib.hid (made_any h)
  have c0 := cell_of_row _ _ 0 _ _ _ h.row
  have n2 := h.n2
  clear h
  unfold mrow at c0
  go_enter Tryd.func51, Tryd.ntmps51
  go_wp2_with (go_at_call 59; refine HM.out.mono ?_; rintro e w' ⟨rfl, rfl⟩)
  go_ret
  exact ⟨rfl, rfl⟩

theorem power_any {w : World} {b g lf : Nat} {s : St} (h : MA w b g s lf) :
    Calls Tryd.prog 46 #[.pointer (some ⟨b, 0, none⟩)] w fun e w' => e = .returned (.bool s.on) ∧ w' = w := by
  have HM := Lib.hid (made_any h)
  have c4 := cell_of_row _ _ 4 _ _ _ h.row
  clear h
  unfold mrow at c4
  generalize s.on = on at *
  go_enter Tryd.func46, Tryd.ntmps46
  go_wp2_with (go_at_call 59; refine HM.out.mono ?_; rintro e w' ⟨rfl, rfl⟩)
  go_ret
  exact ⟨rfl, rfl⟩

theorem cuts_any {w : World} {b g lf : Nat} {s : St} (h : MA w b g s lf) :
    Calls Tryd.prog 52 #[.pointer (some ⟨b, 0, none⟩)] w fun e w' => e = .returned (.int .i64 (s.cu : Int)) ∧ w' = w := by
  have HM := Lib.hid (made_any h)
  have c3 := cell_of_row _ _ 3 _ _ _ h.row
  clear h
  unfold mrow at c3
  go_enter Tryd.func52, Tryd.ntmps52
  go_wp2_with (go_at_call 59; refine HM.out.mono ?_; rintro e w' ⟨rfl, rfl⟩)
  go_ret
  exact ⟨rfl, rfl⟩

theorem writes_any {w : World} {b g lf : Nat} {s : St} (h : MA w b g s lf) :
    Calls Tryd.prog 33 #[.pointer (some ⟨b, 0, none⟩)] w fun e w' => e = .returned (.int .i64 (s.wr : Int)) ∧ w' = w := by
  have HM := Lib.hid (made_any h)
  have c2 := cell_of_row _ _ 2 _ _ _ h.row
  clear h
  unfold mrow at c2
  go_enter Tryd.func33, Tryd.ntmps33
  go_wp2_with (go_at_call 59; refine HM.out.mono ?_; rintro e w' ⟨rfl, rfl⟩)
  go_ret
  exact ⟨rfl, rfl⟩

/-- What Read returns. -/
def rdV (s : St) (a : Int) : Int := if accE s a = 0 then (s.ws.getD a.toNat 0 : Int) else 0
theorem read_any {w : World} {b g lf : Nat} {s : St} (h : MA w b g s lf) (a : Int) (ha : -9223372036854775808 ≤ a ∧ a < 9223372036854775808) :
    Calls Tryd.prog 82 #[.pointer (some ⟨b, 0, none⟩), .int .i64 a] w fun e w' => e = .returned (.tuple #[.int .u32 (rdV s a), .int .i64 (accE s a)]) ∧ w' = w := by
  have HA := access_any h a ha
  have c0 := cell_of_row _ _ 0 _ _ _ h.row
  have hv := h.val
  have n2 := h.n2
  clear h
  unfold mrow at c0
  by_cases hz : accE s a = 0
  · have HR : Hid (rdV s a = (s.ws.getD a.toNat 0 : Int)) := if_pos hz
    have hin : 0 ≤ a ∧ a < (s.ws.length : Int) := by
      unfold accE at hz
      by_cases h1 : s.on = false
      · rw [if_pos h1] at hz; omega
      · by_cases h2 : 0 ≤ a ∧ a < (s.ws.length : Int)
        · exact h2
        · rw [if_neg h1, if_neg h2] at hz; omega
    obtain ⟨k, rfl⟩ : ∃ k : Nat, a = (k : Int) := ⟨a.toNat, by omega⟩
    rw [Int.toNat_natCast] at HR
    have hk : k < s.ws.length := by omega
    have hc := hv k hk
    rw [hz] at HA ⊢
    have HA := Lib.hid HA
    clear hv ha hin hz
    generalize rdV s (k : Int) = r at *
    generalize s.ws.getD k 0 = x at *
    go_enter Tryd.func82, Tryd.ntmps82
    go_wp2_with (go_at_call 94; refine HA.out.mono ?_; rintro e w' ⟨rfl, rfl⟩)
    go_ret2
    exact ⟨by rw [HR.out]; rfl, rfl⟩
  · have HR : Hid (rdV s a = 0) := if_neg hz
    have HA := Lib.hid HA
    clear hv c0
    generalize accE s a = q at *
    generalize rdV s a = r at *
    go_enter Tryd.func82, Tryd.ntmps82
    go_wp2_with (go_at_call 94; refine HA.out.mono ?_; rintro e w' ⟨rfl, rfl⟩)
    go_ret2
    exact ⟨by rw [HR.out]; rfl, rfl⟩

/-- What Wear returns. -/
def weV (s : St) (a : Int) : Int := if 0 ≤ a ∧ a < (s.ws.length : Int) then (s.wear.getD a.toNat 0 : Int) else 0
theorem wear_any {w : World} {b g lf : Nat} {s : St} (h : MA w b g s lf) (a : Int) (ha : -9223372036854775808 ≤ a ∧ a < 9223372036854775808) :
    Calls Tryd.prog 34 #[.pointer (some ⟨b, 0, none⟩), .int .i64 a] w fun e w' => e = .returned (.int .i64 (weV s a)) ∧ w' = w := by
  have HM := Lib.hid (made_any h)
  have HI := isw_any h a ha
  have c0 := cell_of_row _ _ 0 _ _ _ h.row
  have hv := h.wea
  have n2 := h.n2
  clear h
  unfold mrow at c0
  by_cases hz : 0 ≤ a ∧ a < (s.ws.length : Int)
  · have HR : Hid (weV s a = (s.wear.getD a.toNat 0 : Int)) := if_pos hz
    obtain ⟨k, rfl⟩ : ∃ k : Nat, a = (k : Int) := ⟨a.toNat, by omega⟩
    rw [Int.toNat_natCast] at HR
    have hk : k < s.ws.length := by omega
    have hc := hv k hk
    rw [decide_eq_true hz] at HI
    have HI := Lib.hid HI
    clear hv ha hz
    generalize weV s (k : Int) = r at *
    generalize s.wear.getD k 0 = x at *
    go_enter Tryd.func34, Tryd.ntmps34
    go_wp2_with (first | (go_at_call 59; refine HM.out.mono ?_; rintro e w' ⟨rfl, rfl⟩) | (go_at_call 60; refine HI.out.mono ?_; rintro e w' ⟨rfl, rfl⟩))
    go_ret
    exact ⟨by rw [HR.out]; rfl, rfl⟩
  · have HR : Hid (weV s a = 0) := if_neg hz
    rw [decide_eq_false hz] at HI
    have HI := Lib.hid HI
    clear hv c0 hz
    generalize weV s a = r at *
    go_enter Tryd.func34, Tryd.ntmps34
    go_wp2_with (first | (go_at_call 59; refine HM.out.mono ?_; rintro e w' ⟨rfl, rfl⟩) | (go_at_call 60; refine HI.out.mono ?_; rintro e w' ⟨rfl, rfl⟩))
    go_ret
    exact ⟨by rw [HR.out]; rfl, rfl⟩
end Go.Proofs.YtiholfpcndjliaaDoor
