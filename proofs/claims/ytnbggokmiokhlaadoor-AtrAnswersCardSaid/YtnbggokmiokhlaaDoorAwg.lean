/-
  The law AtrEncodes: the walk.
-/
import Derived.Test.YtnbggokmiokhlaaDoorAwf
namespace Go.Proofs.YtnbggokmiokhlaaDoor
set_option linter.unusedVariables false
set_option linter.unusedSimpArgs false
open Go.RowKit

theorem few_len {a : At} (h : fewB a = true) : a.ibs.length ≤ 200 := by
  simp [fewB] at h; omega
set_option maxRecDepth 100000 in
set_option maxHeartbeats 1600000 in
theorem law_encs5 (a : At) (v : Value) (w : World) (h : AT w v a) (hg : ∀ x ∈ a.ibs, x.g ≤ 9223372036854775807) (hT : Tb w) :
    Calls Tryd.prog 3 #[v] w fun e w' => e = .returned (.bool true) ∧ Below w.heap.size w w' := by
  have HF := Lib.hid (fun (W : World) (hW : Below w.heap.size w W) => fewa_any a v W (h.on hW))
  have HA := Lib.hid (fun (W : World) (hW : Below w.heap.size w W) => works_any W (hT.on hW))
  have HP := fun (hf : fewB a = true) (W : World) (hW : Below w.heap.size w W) => penca_any a v W (h.on hW) hg (few_len hf) (hT.on hW)
  have HR := fun (hf : fewB a = true) (W : World) (hW : Below w.heap.size w W) => renca_any a v W (h.on hW) hg (few_len hf)
  have HC := fun (hf : fewB a = true) (W : World) (hW : Below w.heap.size w W) => pchka_any a v W (h.on hW) hg (few_len hf) (hT.on hW)
  unfold EnaR at HP HR
  generalize chkE a = E at *
  generalize encV a = V at *
  generalize fewB a = FA at *
  have HP := Lib.hid HP
  have HR := Lib.hid HR
  have HC := Lib.hid HC
  obtain ⟨v1, v2, v3, rfl, h1, h2, h3⟩ := h
  obtain ⟨A1, c1, rfl, _, _, _⟩ := h1
  obtain ⟨A2, c2, rfl, _, _, _⟩ := h2
  obtain ⟨A3, c3, rfl, _, _, _⟩ := h3
  clear hg hT
  have hal := Lib.hid (alloc_below w (.cells #[.bool a.inv, .slice A1 a.ibs.length c1, .slice A2 a.prs.length c2, .slice A3 a.his.length c3] 26))
  have hrow := Lib.hid (heap_alloc_new w (.cells #[.bool a.inv, .slice A1 a.ibs.length c1, .slice A2 a.prs.length c2, .slice A3 a.his.length c3] 26))
  go_enter Tryd.func3, Tryd.ntmps3
  go_wp2_with fail
  generalize w.alloc (.cells #[.bool a.inv, .slice A1 a.ibs.length c1, .slice A2 a.prs.length c2, .slice A3 a.his.length c3] 26) = W0 at *
  have HUP : Hid (∀ W, Below W0.heap.size W0 W → Below w.heap.size w W) := fun W hW => hal.out.trans (hW.mono hal.out.size)
  have HS : Hid (∀ W, Below W0.heap.size W0 W → (W.cell? ⟨w.heap.size, 0, none⟩ = some (.bool a.inv) ∧ W.cell? ⟨w.heap.size, 1, none⟩ = some (.slice A1 a.ibs.length c1) ∧ W.cell? ⟨w.heap.size, 2, none⟩ = some (.slice A2 a.prs.length c2) ∧ W.cell? ⟨w.heap.size, 3, none⟩ = some (.slice A3 a.his.length c3))) := fun W hW =>
    cellsA ((hW.block _ (row_lt hrow.out)).trans hrow.out)
  have HK : Hid (∀ W w', Below W0.heap.size W0 W → Below W.heap.size W w' → Below W0.heap.size W0 w') := fun W w' h h' => h.trans (h'.mono h.size)
  refine (HF.out _ hal.out).mono ?_
  rintro e w1 ⟨rfl, hb1⟩
  cases FA with
  | false =>
    go_wp2_with fail
    refine (HA.out _ (HUP.out _ hb1)).mono ?_
    rintro e w2 ⟨rfl, hb2⟩
    go_wp2_with fail
    go_ret
    exact ⟨rfl, HUP.out _ (HK.out _ _ hb1 hb2)⟩
  | true =>
    have HP2 := Lib.hid (HP.out (by first | exact trivial | rfl))
    have HR2 := Lib.hid (HR.out (by first | exact trivial | rfl))
    have HC2 := Lib.hid (HC.out (by first | exact trivial | rfl))
    clear HP HR HC
    have HB1 := Lib.hid hb1
    obtain ⟨s0, s1, s2, s3⟩ := HS.out _ hb1
    clear hb1
    go_wp2_with fail
    refine (HP2.out _ (HUP.out _ HB1.out)).mono ?_
    rintro e w2 ⟨u2, rfl, hu2, hb2⟩
    have HB2 := Lib.hid (HK.out _ _ HB1.out hb2)
    have HU2 := Lib.hid hu2
    obtain ⟨B2, d2, e2, _⟩ := id hu2
    subst e2
    clear hb2 hu2 s0 s1 s2 s3
    obtain ⟨s0, s1, s2, s3⟩ := HS.out _ HB2.out
    go_wp2_with fail
    refine (HR2.out _ (HUP.out _ HB2.out)).mono ?_
    rintro e w3 ⟨u3, rfl, hu3, hb3⟩
    have HB3 := Lib.hid (HK.out _ _ HB2.out hb3)
    have HU2' := Lib.hid (HU2.out.on hb3)
    have HU3 := Lib.hid hu3
    obtain ⟨B3, d3, e3, _⟩ := id hu3
    subst e3
    clear hb3 hu3 s0 s1 s2 s3
    obtain ⟨s0, s1, s2, s3⟩ := HS.out _ HB3.out
    go_wp2_with fail
    refine (HC2.out _ (HUP.out _ HB3.out)).mono ?_
    rintro e w4 ⟨rfl, hb4⟩
    have HB4 := Lib.hid (HK.out _ _ HB3.out hb4)
    have cv1 := (HU2'.out.on hb4).convert
    have cv2 := (HU3.out.on hb4).convert
    clear hb4 s0 s1 s2 s3
    go_wp2_with fail
    refine (HA.out _ (HUP.out _ HB4.out)).mono ?_
    rintro e w5 ⟨rfl, hb5⟩
    go_wp2_with fail
    go_ret
    exact ⟨rfl, HUP.out _ (HK.out _ _ HB4.out hb5)⟩
end Go.Proofs.YtnbggokmiokhlaaDoor
