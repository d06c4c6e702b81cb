
/-
  Commands as values, and the walks of isByte, Check and Case, of the program and of the reference.
-/

import Derived.Test.YtdalcldilmmgmaaDoorJoi
import Derived.Test.YtdalcldilmmgmaaDoorPut

namespace Go.Proofs.YtdalcldilmmgmaaDoor
set_option linter.unusedVariables false
set_option linter.unusedSimpArgs false
open Go.RowKit

/-- A command. -/
structure Cm where
  cla : Int
  ins : Int
  p1 : Int
  p2 : Int
  data : List UInt8
  le : Int
  long : Bool

/-- A command as a value, its data at the slice d. -/
def Cm.val (c : Cm) (d : Value) : Value := .agg #[.int .i64 c.cla, .int .i64 c.ins, .int .i64 c.p1, .int .i64 c.p2, d, .int .i64 c.le, .bool c.long]

def isB (n : Int) : Bool := decide (0 ≤ n) && decide (n ≤ 255)
theorem isB_yes {n : Int} (h : isB n = true) : 0 ≤ n ∧ n ≤ 255 := by simpa [isB] using h
theorem isB_of {n : Int} (h : 0 ≤ n ∧ n ≤ 255) : isB n = true := by simpa [isB] using h

theorem pisb_any (n : Int) (w : World) : Calls Tryd.prog 66 #[.int .i64 n] w fun e w' => e = .returned (.bool (isB n)) ∧ w = w' := by
  by_cases h0 : 0 ≤ n
  · by_cases h1 : n ≤ 255
    · have HB : Hid (isB n = true) := isB_of ⟨h0, h1⟩
      go_enter Tryd.func66, Tryd.ntmps66
      go_wp2
      go_ret
      exact ⟨by rw [HB.out]; rfl, rfl⟩
    · have HB : Hid (isB n = false) := by show _ = _; simp [isB]; omega
      go_enter Tryd.func66, Tryd.ntmps66
      go_wp2
      go_ret
      exact ⟨by rw [HB.out]; rfl, rfl⟩
  · have HB : Hid (isB n = false) := by show _ = _; simp [isB]; omega
    go_enter Tryd.func66, Tryd.ntmps66
    go_wp2
    go_ret
    exact ⟨by rw [HB.out]; rfl, rfl⟩
def maxD (long : Bool) : Int := if long then 65535 else 255
def maxL (long : Bool) : Int := if long then 65536 else 256
def bytesC (c : Cm) : Bool := isB c.cla && isB c.ins && isB c.p1 && isB c.p2
def badC (c : Cm) : Bool := decide (c.cla = 255) || decide (c.ins / 16 = 6) || decide (c.ins / 16 = 9)
def leC (c : Cm) : Bool := decide (c.le < 0) || decide (maxL c.long < c.le)
def emptyC (c : Cm) : Bool := c.long && decide (c.data.length = 0) && decide (c.le = 0)
/-- What Check answers. -/
def chkC (c : Cm) : Int := if bytesC c = false then 2 else if badC c = true then 1 else if maxD c.long < c.data.length then 3 else if leC c = true then 2 else if emptyC c = true then 4 else 0

theorem alloc_below (w : World) (o : Obj) : Below w.heap.size w (w.alloc o) := (Below.refl _ w).alloc (Nat.le_refl _) o
theorem alloc_size (w : World) (o : Obj) : (w.alloc o).heap.size = w.heap.size + 1 := by simp

set_option maxRecDepth 100000 in
set_option maxHeartbeats 800000 in
theorem pchk_any (c : Cm) (A : Option Addr) (n k : Nat) (w : World) (hn : n = c.data.length) (hle : -9223372036854775808 ≤ c.le ∧ c.le ≤ 9223372036854775807) :
    Calls Tryd.prog 52 #[c.val (.slice A n k)] w fun e w' => e = .returned (.int .i64 (chkC c)) ∧ Below w.heap.size w w' := by
  obtain ⟨cla, ins, p1, p2, data, le, long⟩ := c
  simp only [Cm.val]
  subst hn
  have hbb : bytesC ⟨cla, ins, p1, p2, data, le, long⟩ = (isB cla && isB ins && isB p1 && isB p2) := rfl
  cases h1 : isB cla
  · have HV : Hid (chkC ⟨cla, ins, p1, p2, data, le, long⟩ = 2) := by show _ = _; rw [chkC, if_pos (by rw [hbb, h1]; rfl)]
    clear hbb
    cases long
    all_goals
      go_enter Tryd.func52, Tryd.ntmps52
      go_wp2_with (go_at_call 66; refine (pisb_any _ _).mono ?_; rintro e w' ⟨rfl, rfl⟩)
      go_ret
      exact ⟨by rw [HV.out]; rfl, alloc_below _ _⟩
  cases h2 : isB ins
  · have HV : Hid (chkC ⟨cla, ins, p1, p2, data, le, long⟩ = 2) := by show _ = _; rw [chkC, if_pos (by rw [hbb, h1, h2]; rfl)]
    clear hbb
    cases long
    all_goals
      go_enter Tryd.func52, Tryd.ntmps52
      go_wp2_with (go_at_call 66; refine (pisb_any _ _).mono ?_; rintro e w' ⟨rfl, rfl⟩)
      go_ret
      exact ⟨by rw [HV.out]; rfl, alloc_below _ _⟩
  cases h3 : isB p1
  · have HV : Hid (chkC ⟨cla, ins, p1, p2, data, le, long⟩ = 2) := by show _ = _; rw [chkC, if_pos (by rw [hbb, h1, h2, h3]; rfl)]
    clear hbb
    cases long
    all_goals
      go_enter Tryd.func52, Tryd.ntmps52
      go_wp2_with (go_at_call 66; refine (pisb_any _ _).mono ?_; rintro e w' ⟨rfl, rfl⟩)
      go_ret
      exact ⟨by rw [HV.out]; rfl, alloc_below _ _⟩
  cases h4 : isB p2
  · have HV : Hid (chkC ⟨cla, ins, p1, p2, data, le, long⟩ = 2) := by show _ = _; rw [chkC, if_pos (by rw [hbb, h1, h2, h3, h4]; rfl)]
    clear hbb
    cases long
    all_goals
      go_enter Tryd.func52, Tryd.ntmps52
      go_wp2_with (go_at_call 66; refine (pisb_any _ _).mono ?_; rintro e w' ⟨rfl, rfl⟩)
      go_ret
      exact ⟨by rw [HV.out]; rfl, alloc_below _ _⟩
  have hok : bytesC ⟨cla, ins, p1, p2, data, le, long⟩ = true := by rw [hbb, h1, h2, h3, h4]; rfl
  have HV : Hid (chkC ⟨cla, ins, p1, p2, data, le, long⟩ = if badC ⟨cla, ins, p1, p2, data, le, long⟩ = true then 1 else if maxD long < data.length then 3 else if leC ⟨cla, ins, p1, p2, data, le, long⟩ = true then 2 else if emptyC ⟨cla, ins, p1, p2, data, le, long⟩ = true then 4 else 0) := by
    show _ = _; rw [chkC, if_neg (by rw [hok]; decide)]
  obtain ⟨hi0, hi1⟩ := isB_yes h2
  clear hbb hok
  cases long
  all_goals
    go_enter Tryd.func52, Tryd.ntmps52
    go_wp2_with (go_at_call 66; refine (pisb_any _ _).mono ?_; rintro e w' ⟨rfl, rfl⟩)
    all_goals
      go_ret
      refine ⟨ret_int ?_, alloc_below _ _⟩
      rw [HV.out]
      clear HV
      simp only [badC, leC, emptyC, maxD, maxL]
      first
        | (simp_all; done)
        | (simp_all; omega)
end Go.Proofs.YtdalcldilmmgmaaDoor
