/-
  Same: the walk of the program.
-/
import Derived.Test.YtnbggokmiokhlaaDoorAud
import Derived.Test.YtnbggokmiokhlaaDoorAty
namespace Go.Proofs.YtnbggokmiokhlaaDoor
set_option linter.unusedVariables false
set_option linter.unusedSimpArgs false
open Go.RowKit

def samA (a b : At) : Bool := (a.inv == b.inv) && decide (a.ibs = b.ibs) && decide (a.prs = b.prs) && (a.his == b.his)

set_option maxRecDepth 100000 in
set_option maxHeartbeats 1600000 in
theorem psama_any (a b : At) (v u : Value) (w : World) (ha : AT w v a) (hb : AT w u b) :
    Calls Tryd.prog 37 #[v, u] w fun e w' => e = .returned (.bool (samA a b)) ∧ Below w.heap.size w w' := by
  obtain ⟨v1, v2, v3, rfl, h1, h2, h3⟩ := ha
  obtain ⟨u1, u2, u3, rfl, g1, g2, g3⟩ := hb
  have HV : Hid (samA a b = ((a.inv == b.inv) && decide (a.ibs = b.ibs) && decide (a.prs = b.prs) && (a.his == b.his))) := rfl
  have H65 := fun (W : World) (hW : Below w.heap.size w W) => peqi_any a.ibs b.ibs v1 u1 W W.heap.size (h1.on hW) (g1.on hW)
  have H66 := fun (W : World) (hW : Below w.heap.size w W) => peqn_any a.prs b.prs v2 u2 W W.heap.size (h2.on hW) (g2.on hW)
  have H56 := fun (W : World) (hW : Below w.heap.size w W) => beq_any a.his b.his v3 u3 W W.heap.size (h3.on hW) (g3.on hW)
  generalize decide (a.ibs = b.ibs) = X at *
  generalize decide (a.prs = b.prs) = Y at *
  generalize (a.his == b.his) = Z at *
  have H65 := Lib.hid H65
  have H66 := Lib.hid H66
  have H56 := Lib.hid H56
  obtain ⟨A1, c1, rfl, _, _, _⟩ := h1
  obtain ⟨A2, c2, rfl, _, _, _⟩ := h2
  obtain ⟨A3, c3, rfl, _, _, _⟩ := h3
  obtain ⟨B1, d1, rfl, _, _, _⟩ := g1
  obtain ⟨B2, d2, rfl, _, _, _⟩ := g2
  obtain ⟨B3, d3, rfl, _, _, _⟩ := g3
  generalize a.inv = p at *
  generalize b.inv = q at *
  have HW0 := Lib.hid (two_alloc w (.cells #[.bool p, .slice A1 a.ibs.length c1, .slice A2 a.prs.length c2, .slice A3 a.his.length c3] 26) (.cells #[.bool q, .slice B1 b.ibs.length d1, .slice B2 b.prs.length d2, .slice B3 b.his.length d3] 26))
  cases X <;> cases Y <;> cases Z <;> cases p <;> cases q <;>
    (go_enter Tryd.func37, Tryd.ntmps37
     go_wp2_with fail
     first
       | (go_ret; exact ⟨ret_bool HV.out.symm, HW0.out⟩)
       | (refine (H65.out _ HW0.out).mono ?_
          rintro e w1 ⟨rfl, n, rfl⟩
          go_wp2_with fail
          first
            | (go_ret; exact ⟨ret_bool HV.out.symm, below_drewN HW0.out _⟩)
            | (refine (H66.out _ (below_drewN HW0.out _)).mono ?_
               rintro e w2 ⟨rfl, m, rfl⟩
               go_wp2_with fail
               first
                 | (go_ret; exact ⟨ret_bool HV.out.symm, by first | exact below_drewN HW0.out _ | exact below_drewN (below_drewN HW0.out _) _⟩)
                 | (first | refine (H56.out _ (below_drewN HW0.out _)).mono ?_ | refine (H56.out _ (below_drewN (below_drewN HW0.out _) _)).mono ?_
                    rintro e w3 ⟨rfl, rfl⟩
                    go_wp2_with fail
                    go_ret
                    exact ⟨ret_bool HV.out.symm, by first | exact below_drewN HW0.out _ | exact below_drewN (below_drewN HW0.out _) _⟩))))
end Go.Proofs.YtnbggokmiokhlaaDoor
