/-
  The law AtrAnswers: the walk.
-/
import Derived.Test.YtnbggokmiokhlaaDoorAxh
namespace Go.Proofs.YtnbggokmiokhlaaDoor
set_option linter.unusedVariables false
set_option linter.unusedSimpArgs false
open Go.RowKit

set_option maxRecDepth 100000 in
set_option maxHeartbeats 3200000 in
theorem law_ans5 (a : At) (v : Value) (w : World) (h : AT w v a) (hg : ∀ x ∈ a.ibs, x.g ≤ 9223372036854775807) (r : List UInt8) (u : Value) (hu : SL w w.heap.size u r) (hT : Tb w) :
    Calls Tryd.prog 7 #[v, u] w fun e w' => e = .returned (.bool true) ∧ Below w.heap.size w w' := by
  have HF := Lib.hid (fun (W : World) (hW : Below w.heap.size w W) => fewa_any a v W (h.on hW))
  have HA := Lib.hid (fun (W : World) (hW : Below w.heap.size w W) => works_any W (hT.on hW))
  have HP := fun (hf : fewB a = true) (hr : r.length ≤ 100) (W : World) (hW : Below w.heap.size w W) => pans_any a r v u W (h.on hW) (hu.on hW) hg (few_len hf) (by omega) (hT.on hW)
  have HC := fun (hf : fewB a = true) (hr : r.length ≤ 100) (W : World) (hW : Below w.heap.size w W) => rans_any a r v u W (h.on hW) (hu.on hW) hg (few_len hf) (by omega)
  unfold AnsR at HP HC
  generalize ansE a r = E at *
  generalize ansP a r = Q at *
  generalize ansV a r = V at *
  generalize fewB a = FA at *
  have HP := Lib.hid HP
  have HC := Lib.hid HC
  obtain ⟨v1, v2, v3, rfl, h1, h2, h3⟩ := h
  obtain ⟨A1, c1, rfl, _, _, _⟩ := h1
  obtain ⟨A2, c2, rfl, _, _, _⟩ := h2
  obtain ⟨A3, c3, rfl, _, _, _⟩ := h3
  obtain ⟨Au, cu, rfl, _, _, _⟩ := hu
  clear hg hT
  have hal := Lib.hid (alloc_below w (.cells #[.bool a.inv, .slice A1 a.ibs.length c1, .slice A2 a.prs.length c2, .slice A3 a.his.length c3] 26))
  have hrow := Lib.hid (heap_alloc_new w (.cells #[.bool a.inv, .slice A1 a.ibs.length c1, .slice A2 a.prs.length c2, .slice A3 a.his.length c3] 26))
  go_enter Tryd.func7, Tryd.ntmps7
  go_wp2_with fail
  generalize w.alloc (.cells #[.bool a.inv, .slice A1 a.ibs.length c1, .slice A2 a.prs.length c2, .slice A3 a.his.length c3] 26) = W0 at *
  have HUP : Hid (∀ W, Below W0.heap.size W0 W → Below w.heap.size w W) := fun W hW => hal.out.trans (hW.mono hal.out.size)
  have HS : Hid (∀ W, Below W0.heap.size W0 W → (W.cell? ⟨w.heap.size, 0, none⟩ = some (.bool a.inv) ∧ W.cell? ⟨w.heap.size, 1, none⟩ = some (.slice A1 a.ibs.length c1) ∧ W.cell? ⟨w.heap.size, 2, none⟩ = some (.slice A2 a.prs.length c2) ∧ W.cell? ⟨w.heap.size, 3, none⟩ = some (.slice A3 a.his.length c3))) := fun W hW =>
    cellsA ((hW.block _ (row_lt hrow.out)).trans hrow.out)
  have HK : Hid (∀ W w', Below W0.heap.size W0 W → Below W.heap.size W w' → Below W0.heap.size W0 w') := fun W w' h h' => h.trans (h'.mono h.size)
  refine (HF.out _ hal.out).mono ?_
  rintro e w1 ⟨rfl, hb1⟩
  cases FA with
  | false =>
    go_wp2_with fail
    refine (HA.out _ (HUP.out _ hb1)).mono ?_
    rintro e w2 ⟨rfl, hb2⟩
    go_wp2_with fail
    go_ret
    exact ⟨rfl, HUP.out _ (HK.out _ _ hb1 hb2)⟩
  | true =>
    by_cases hr : r.length ≤ 100
    case neg =>
      have hr' : (100 : Int) < (r.length : Int) := by omega
      go_wp2_with fail
      refine (HA.out _ (HUP.out _ hb1)).mono ?_
      rintro e w2 ⟨rfl, hb2⟩
      go_wp2_with fail
      go_ret
      exact ⟨rfl, HUP.out _ (HK.out _ _ hb1 hb2)⟩
    have hr' : ¬ (100 : Int) < (r.length : Int) := by omega
    have HP2 := Lib.hid (HP.out (by first | exact trivial | rfl) hr)
    have HC2 := Lib.hid (HC.out (by first | exact trivial | rfl) hr)
    clear HP HC
    have HB1 := Lib.hid hb1
    obtain ⟨s0, s1, s2, s3⟩ := HS.out _ hb1
    clear hb1
    go_wp2_with fail
    refine (HP2.out _ (HUP.out _ HB1.out)).mono ?_
    rintro e w2 ⟨u2, rfl, hu2, hb2⟩
    have HB2 := Lib.hid (HK.out _ _ HB1.out hb2)
    have HU2 := Lib.hid hu2
    obtain ⟨B2, d2, e2, _⟩ := id hu2
    subst e2
    clear hb2 hu2 s0 s1 s2 s3
    obtain ⟨s0, s1, s2, s3⟩ := HS.out _ HB2.out
    go_wp2_with fail
    refine (HC2.out _ (HUP.out _ HB2.out)).mono ?_
    rintro e w3 ⟨u3, rfl, hu3, hb3⟩
    have HB3 := Lib.hid (HK.out _ _ HB2.out hb3)
    have cv1 := (HU2.out.on hb3).convert
    have cv2 := hu3.convert
    obtain ⟨B3, d3, e3, _⟩ := id hu3
    subst e3
    clear hb3 hu3 s0 s1 s2 s3
    have hEE : (E == E) = true := by simp
    have hQQ : (Q == Q) = true := by simp
    go_wp2_with fail
    refine (HA.out _ (HUP.out _ HB3.out)).mono ?_
    rintro e w5 ⟨rfl, hb5⟩
    go_wp2_with fail
    go_ret
    exact ⟨rfl, HUP.out _ (HK.out _ _ HB3.out hb5)⟩
end Go.Proofs.YtnbggokmiokhlaaDoor
