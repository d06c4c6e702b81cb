/-
  The law AtrAccepts: the walk.
-/
import Derived.Test.YtnbggokmiokhlaaDoorAxj
namespace Go.Proofs.YtnbggokmiokhlaaDoor
set_option linter.unusedVariables false
set_option linter.unusedSimpArgs false
open Go.RowKit

set_option maxRecDepth 100000 in
set_option maxHeartbeats 3200000 in
theorem law_accs (r s : List UInt8) (v u : Value) (w : World) (hr : SL w w.heap.size v r) (hs : SL w w.heap.size u s) (hT : Tb w) :
    Calls Tryd.prog 8 #[v, u] w fun e w' => e = .returned (.bool true) ∧ Below w.heap.size w w' := by
  have HA := Lib.hid (fun (W : World) (hW : Below w.heap.size w W) => works_any W (hT.on hW))
  have HP := Lib.hid (fun (h1 : r.length ≤ 100) (h2 : s.length ≤ 100) (W : World) (hW : Below w.heap.size w W) => pacc_any r s v u W (hr.on hW) (hs.on hW) (by omega) (by omega) (hT.on hW))
  have HC := Lib.hid (fun (h1 : r.length ≤ 100) (h2 : s.length ≤ 100) (W : World) (hW : Below w.heap.size w W) => racc_any r s v u W (hr.on hW) (hs.on hW) (by omega) (by omega))
  unfold AccR at HP HC
  generalize accE r s = E at *
  generalize accP r s = Q at *
  obtain ⟨A1, c1, rfl, _, _, _⟩ := hr
  obtain ⟨A2, c2, rfl, _, _, _⟩ := hs
  clear hT
  by_cases h1 : r.length ≤ 100
  case neg =>
    have h1' : (100 : Int) < (r.length : Int) := by omega
    go_enter Tryd.func8, Tryd.ntmps8
    go_wp2_with fail
    refine (HA.out _ (Below.refl _ _)).mono ?_
    rintro e w1 ⟨rfl, hb1⟩
    go_wp2_with fail
    go_ret
    exact ⟨rfl, hb1⟩
  have h1' : ¬ (100 : Int) < (r.length : Int) := by omega
  by_cases h2 : s.length ≤ 100
  case neg =>
    have h2' : (100 : Int) < (s.length : Int) := by omega
    go_enter Tryd.func8, Tryd.ntmps8
    go_wp2_with fail
    refine (HA.out _ (Below.refl _ _)).mono ?_
    rintro e w1 ⟨rfl, hb1⟩
    go_wp2_with fail
    go_ret
    exact ⟨rfl, hb1⟩
  have h2' : ¬ (100 : Int) < (s.length : Int) := by omega
  have HP2 := Lib.hid (HP.out h1 h2)
  have HC2 := Lib.hid (HC.out h1 h2)
  clear HP HC
  have hEE : (E == E) = true := by simp
  have hQQ : (Q == Q) = true := by simp
  go_enter Tryd.func8, Tryd.ntmps8
  go_wp2_with fail
  refine (HP2.out _ (Below.refl _ _)).mono ?_
  rintro e w1 ⟨rfl, hb1⟩
  have HB1 := Lib.hid hb1
  clear hb1
  go_wp2_with fail
  refine (HC2.out _ HB1.out).mono ?_
  rintro e w2 ⟨rfl, hb2⟩
  have HB2 := Lib.hid (HB1.out.trans (hb2.mono HB1.out.size))
  clear hb2
  go_wp2_with fail
  refine (HA.out _ HB2.out).mono ?_
  rintro e w3 ⟨rfl, hb3⟩
  go_wp2_with fail
  go_ret
  exact ⟨rfl, HB2.out.trans (hb3.mono HB2.out.size)⟩
end Go.Proofs.YtnbggokmiokhlaaDoor
