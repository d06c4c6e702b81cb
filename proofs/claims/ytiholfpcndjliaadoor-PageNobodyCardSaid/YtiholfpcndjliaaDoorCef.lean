
/-
  The walks of Flip and New.
-/
import Derived.Test.YtiholfpcndjliaaDoorCee
namespace Go.Proofs.YtiholfpcndjliaaDoor
set_option linter.unusedVariables false
set_option linter.unusedSimpArgs false
open Go.RowKit

/-- The error of Flip, and the state behind it. -/
def flOk (s : St) (a k : Int) : Bool := decide (0 ≤ a ∧ a < (s.ws.length : Int) ∧ 0 ≤ k ∧ k < 32)
def flE (s : St) (a k : Int) : Int := if flOk s a k then 0 else 2
def flS (s : St) (a k : Int) : St := if flOk s a k then { s with ws := s.ws.set a.toNat (s.ws.getD a.toNat 0 ^^^ 2 ^ k.toNat) } else s

set_option maxHeartbeats 400000 in
set_option maxRecDepth 100000 in
theorem flip_any {w : World} {b g lf N : Nat} {s : St} (h : MA w b g s lf) (hF : Fine s N) (a k : Int) (ha : -9223372036854775808 ≤ a ∧ a < 9223372036854775808) (hk : -9223372036854775808 ≤ k ∧ k < 9223372036854775808) :
    Calls Tryd.prog 32 #[.pointer (some ⟨b, 0, none⟩), .int .i64 a, .int .i64 k] w fun e w' => e = .returned (.int .i64 (flE s a k)) ∧ MA w' b g (flS s a k) lf ∧ Kp b g w w' := by
  have HM := Lib.hid (made_any h)
  have HI := isw_any h a ha
  have HH := Lib.hid h
  have c0 := cell_of_row _ _ 0 _ _ _ h.row
  have n2 := h.n2
  unfold mrow at c0
  by_cases hin : 0 ≤ a ∧ a < (s.ws.length : Int)
  · rw [decide_eq_true hin] at HI
    by_cases hkk : 0 ≤ k ∧ k < 32
    · have hok : flOk s a k = true := decide_eq_true ⟨hin.1, hin.2, hkk.1, hkk.2⟩
      obtain ⟨i, rfl⟩ : ∃ i : Nat, a = (i : Int) := ⟨a.toNat, by omega⟩
      obtain ⟨j, rfl⟩ : ∃ j : Nat, k = (j : Int) := ⟨k.toNat, by omega⟩
      have HE : Hid (flE s i j = 0) := if_pos hok
      have HS : Hid (flS s i j = { s with ws := s.ws.set i (s.ws.getD i 0 ^^^ 2 ^ j) }) := by show _ = _; unfold flS; rw [if_pos hok, Int.toNat_natCast, Int.toNat_natCast]
      have hi : i < s.ws.length := by omega
      have hj : j < 32 := by omega
      have v0 := h.val i hi
      have z0 := h.fz (i * 2)
      have HX := u32_flip (s.ws.getD i 0) j (hF.ws i) hj
      have hx := hF.ws i
      have HI := Lib.hid HI
      clear h hF ha hk hin hkk hok
      generalize flE s i j = q at *
      generalize flS s i j = t at *
      obtain ⟨x, hx0⟩ : ∃ x, s.ws.getD i 0 = x := ⟨_, rfl⟩
      rw [hx0] at HS v0 HX hx
      obtain ⟨y, hy⟩ : ∃ y, x ^^^ 2 ^ j = y := ⟨_, rfl⟩
      rw [hy] at HS HX
      clear hx0 hy
      have b3 := HH.out.ltg
      go_enter Tryd.func32, Tryd.ntmps32
      go_wp2_with (first | (go_at_call 59; refine HM.out.mono ?_; rintro e w' ⟨rfl, rfl⟩) | (go_at_call 60; refine HI.out.mono ?_; rintro e w' ⟨rfl, rfl⟩))
      go_still_tail 13, (by kernel_rfl)
      change wpList _ _ _ _ _ w'.drew
      have d1 : w'.drew.cell? ⟨g, i * 2, none⟩ = some (.int .u32 (x : Int)) := v0
      have d2 : w'.drew.frozen? ⟨g, i * 2, none⟩ = false := z0
      have hm : MA w'.drew b g s lf := HH.out.drewN 1
      have hkp : Kp b g w' w'.drew := Kp.drewN b g w' 1
      have HM2 := Lib.hid hm
      clear hm
      generalize w'.drew = wd at *
      go_wp2
      go_ret
      exact ⟨by rw [HE.out]; rfl, by rw [HS.out]; exact HM2.out.setw y _ HX, hkp.set _ _ (.inr rfl)⟩
    · have hok : flOk s a k = false := decide_eq_false (by omega)
      have HE : Hid (flE s a k = 2) := by show _ = _; unfold flE; rw [hok]; rfl
      have HS : Hid (flS s a k = s) := by show _ = _; unfold flS; rw [hok]; rfl
      have HI := Lib.hid HI
      clear h hF ha hin hok c0
      generalize flE s a k = q at *
      generalize flS s a k = t at *
      go_enter Tryd.func32, Tryd.ntmps32
      go_wp2_with (first | (go_at_call 59; refine HM.out.mono ?_; rintro e w' ⟨rfl, rfl⟩) | (go_at_call 60; refine HI.out.mono ?_; rintro e w' ⟨rfl, rfl⟩))
      all_goals (go_ret; exact ⟨by rw [HE.out]; rfl, by rw [HS.out]; exact HH.out, Kp.refl ..⟩)
  · have hok : flOk s a k = false := decide_eq_false (by omega)
    have HE : Hid (flE s a k = 2) := by show _ = _; unfold flE; rw [hok]; rfl
    have HS : Hid (flS s a k = s) := by show _ = _; unfold flS; rw [hok]; rfl
    rw [decide_eq_false hin] at HI
    have HI := Lib.hid HI
    clear h hF ha hin hok c0
    generalize flE s a k = q at *
    generalize flS s a k = t at *
    go_enter Tryd.func32, Tryd.ntmps32
    go_wp2_with (first | (go_at_call 59; refine HM.out.mono ?_; rintro e w' ⟨rfl, rfl⟩) | (go_at_call 60; refine HI.out.mono ?_; rintro e w' ⟨rfl, rfl⟩))
    all_goals (go_ret; exact ⟨by rw [HE.out]; rfl, by rw [HS.out]; exact HH.out, Kp.refl ..⟩)
end Go.Proofs.YtiholfpcndjliaaDoor
