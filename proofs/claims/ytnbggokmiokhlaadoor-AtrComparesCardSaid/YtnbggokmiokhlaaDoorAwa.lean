/-
  The law AtrCompares: the walk.
-/
import Derived.Test.YtnbggokmiokhlaaDoorAvz
import Derived.Test.YtnbggokmiokhlaaDoorAuf
namespace Go.Proofs.YtnbggokmiokhlaaDoor
set_option linter.unusedVariables false
set_option linter.unusedSimpArgs false
open Go.RowKit

theorem samA_symm (a b : At) : samA b a = samA a b := by
  unfold samA
  have e1 : (b.inv == a.inv) = (a.inv == b.inv) := by cases a.inv <;> cases b.inv <;> rfl
  have e2 : decide (b.ibs = a.ibs) = decide (a.ibs = b.ibs) := decide_eq_decide.2 ⟨Eq.symm, Eq.symm⟩
  have e3 : decide (b.prs = a.prs) = decide (a.prs = b.prs) := decide_eq_decide.2 ⟨Eq.symm, Eq.symm⟩
  have e4 : (b.his == a.his) = (a.his == b.his) := by rw [Bool.eq_iff_iff, beq_iff_eq, beq_iff_eq]; exact ⟨Eq.symm, Eq.symm⟩
  rw [e1, e2, e3, e4]
theorem samA_refl (a : At) : samA a a = true := by simp [samA]

set_option maxRecDepth 100000 in
set_option maxHeartbeats 3200000 in
theorem law_cmps (a b : At) (v u : Value) (w : World) (ha : AT w v a) (hb : AT w u b) (hT : Tb w) :
    Calls Tryd.prog 9 #[v, u] w fun e w' => e = .returned (.bool true) ∧ Below w.heap.size w w' := by
  have HFA := fun (W : World) (hW : Below w.heap.size w W) => fewa_any a v W (ha.on hW)
  have HFB := fun (W : World) (hW : Below w.heap.size w W) => fewa_any b u W (hb.on hW)
  have K1 := fun (W : World) (hW : Below w.heap.size w W) => psama_any a b v u W (ha.on hW) (hb.on hW)
  have K2 := fun (W : World) (hW : Below w.heap.size w W) => rsama_any a b v u W (ha.on hW) (hb.on hW)
  have K3 := fun (W : World) (hW : Below w.heap.size w W) => psama_any b a u v W (hb.on hW) (ha.on hW)
  have K4 := fun (W : World) (hW : Below w.heap.size w W) => psama_any a a v v W (ha.on hW) (ha.on hW)
  have HA := fun (W : World) (hW : Below w.heap.size w W) => works_any W (hT.on hW)
  rw [samA_symm a b] at K3
  rw [samA_refl a] at K4
  generalize samA a b = X at *
  generalize fewB a = FA at *
  generalize fewB b = FB at *
  obtain ⟨v1, v2, v3, rfl, h1, h2, h3⟩ := ha
  obtain ⟨u1, u2, u3, rfl, g1, g2, g3⟩ := hb
  obtain ⟨A1, c1, rfl, _, _, _⟩ := h1
  obtain ⟨A2, c2, rfl, _, _, _⟩ := h2
  obtain ⟨A3, c3, rfl, _, _, _⟩ := h3
  obtain ⟨B1, d1, rfl, _, _, _⟩ := g1
  obtain ⟨B2, d2, rfl, _, _, _⟩ := g2
  obtain ⟨B3, d3, rfl, _, _, _⟩ := g3
  have hal := two_alloc w (.cells #[.bool a.inv, .slice A1 a.ibs.length c1, .slice A2 a.prs.length c2, .slice A3 a.his.length c3] 26) (.cells #[.bool b.inv, .slice B1 b.ibs.length d1, .slice B2 b.prs.length d2, .slice B3 b.his.length d3] 26)
  have hr1 := heap_alloc2_old w (.cells #[.bool a.inv, .slice A1 a.ibs.length c1, .slice A2 a.prs.length c2, .slice A3 a.his.length c3] 26) (.cells #[.bool b.inv, .slice B1 b.ibs.length d1, .slice B2 b.prs.length d2, .slice B3 b.his.length d3] 26)
  have hr2 := heap_alloc2_new w (.cells #[.bool a.inv, .slice A1 a.ibs.length c1, .slice A2 a.prs.length c2, .slice A3 a.his.length c3] 26) (.cells #[.bool b.inv, .slice B1 b.ibs.length d1, .slice B2 b.prs.length d2, .slice B3 b.his.length d3] 26)
  have HAL := Lib.hid hal
  have HR1 := Lib.hid hr1
  have HR2 := Lib.hid hr2
  have HT := Lib.hid hT
  have HFA := Lib.hid HFA
  have HFB := Lib.hid HFB
  have HK1 := Lib.hid K1
  have HK2 := Lib.hid K2
  have HK3 := Lib.hid K3
  have HK4 := Lib.hid K4
  have HA := Lib.hid HA
  clear hal hr1 hr2 K1 K2 K3 K4 hT
  go_enter Tryd.func9, Tryd.ntmps9
  go_wp2_with fail
  generalize (w.alloc (.cells #[.bool a.inv, .slice A1 a.ibs.length c1, .slice A2 a.prs.length c2, .slice A3 a.his.length c3] 26)).alloc (.cells #[.bool b.inv, .slice B1 b.ibs.length d1, .slice B2 b.prs.length d2, .slice B3 b.his.length d3] 26) = W0 at *
  have HUP : Hid (∀ W, Below W0.heap.size W0 W → Below w.heap.size w W) := fun W hW => HAL.out.trans (hW.mono HAL.out.size)
  have HS : Hid (∀ W, Below W0.heap.size W0 W → ((W.cell? ⟨w.heap.size, 0, none⟩ = some (.bool a.inv) ∧ W.cell? ⟨w.heap.size, 1, none⟩ = some (.slice A1 a.ibs.length c1) ∧ W.cell? ⟨w.heap.size, 2, none⟩ = some (.slice A2 a.prs.length c2) ∧ W.cell? ⟨w.heap.size, 3, none⟩ = some (.slice A3 a.his.length c3)) ∧ (W.cell? ⟨w.heap.size + 1, 0, none⟩ = some (.bool b.inv) ∧ W.cell? ⟨w.heap.size + 1, 1, none⟩ = some (.slice B1 b.ibs.length d1) ∧ W.cell? ⟨w.heap.size + 1, 2, none⟩ = some (.slice B2 b.prs.length d2) ∧ W.cell? ⟨w.heap.size + 1, 3, none⟩ = some (.slice B3 b.his.length d3)))) := fun W hW =>
    ⟨cellsA ((hW.block _ (row_lt HR1.out)).trans HR1.out), cellsA ((hW.block _ (row_lt HR2.out)).trans HR2.out)⟩
  have HC : Hid (∀ W w', Below W0.heap.size W0 W → Below W.heap.size W w' → Below W0.heap.size W0 w') := fun W w' h h' => h.trans (h'.mono h.size)
  refine (HFA.out _ (HUP.out _ (Below.refl _ _))).mono ?_
  rintro e w1 ⟨rfl, hb1⟩
  cases FA with
  | false =>
    go_wp2_with fail
    refine (HA.out _ (HUP.out _ hb1)).mono ?_
    rintro e w2 ⟨rfl, hb2⟩
    go_wp2_with fail
    go_ret
    exact ⟨rfl, HUP.out _ (HC.out _ _ hb1 hb2)⟩
  | true =>
    obtain ⟨_, s0, s1, s2, s3⟩ := HS.out _ hb1
    go_wp2_with fail
    refine (HFB.out _ (HUP.out _ hb1)).mono ?_
    rintro e w2 ⟨rfl, hb2'⟩
    have hb2 := HC.out _ _ hb1 hb2'
    clear hb2' s0 s1 s2 s3
    cases FB with
    | false =>
      go_wp2_with fail
      refine (HA.out _ (HUP.out _ hb2)).mono ?_
      rintro e w3 ⟨rfl, hb3⟩
      go_wp2_with fail
      go_ret
      exact ⟨rfl, HUP.out _ (HC.out _ _ hb2 hb3)⟩
    | true =>
      have hb2d := hb2.drew
      clear hb1
      have HX : Hid ((X == X) = true) := by show _ = _; simp
      cases X <;>
      (go_wp2_with fail
       go_region_held3 (fun w' => (w'.cell? ⟨w.heap.size, 0, none⟩ = some (.bool a.inv) ∧ w'.cell? ⟨w.heap.size, 1, none⟩ = some (.slice A1 a.ibs.length c1) ∧ w'.cell? ⟨w.heap.size, 2, none⟩ = some (.slice A2 a.prs.length c2) ∧ w'.cell? ⟨w.heap.size, 3, none⟩ = some (.slice A3 a.his.length c3)) ∧ (w'.cell? ⟨w.heap.size + 1, 0, none⟩ = some (.bool b.inv) ∧ w'.cell? ⟨w.heap.size + 1, 1, none⟩ = some (.slice B1 b.ibs.length d1) ∧ w'.cell? ⟨w.heap.size + 1, 2, none⟩ = some (.slice B2 b.prs.length d2) ∧ w'.cell? ⟨w.heap.size + 1, 3, none⟩ = some (.slice B3 b.his.length d3)))
        (first
          | (go_keep; done)
          | exact HS.out _ hb2d
          | exact HS.out _ hb3
          | exact HS.out _ hb4
          | exact HS.out _ hb5
          | exact HS.out _ hb6
          | exact HS.out _ hb7
          | exact HS.out _ hb8)
        (first
          | (go_at_call 37; (with_reducible refine (HK1.out _ (HUP.out _ hb2d)).mono ?_); rintro e w3 ⟨rfl, hb3'⟩; have hb3 := HC.out _ _ hb2d hb3'; clear hb3')
          | (go_at_call 26; (with_reducible refine (HK2.out _ (HUP.out _ hb3)).mono ?_); rintro e w4 ⟨rfl, hb4'⟩; have hb4 := HC.out _ _ hb3 hb4'; clear hb4')
          | (go_at_call 37; (with_reducible refine (HK3.out _ (HUP.out _ hb4)).mono ?_); rintro e w5 ⟨rfl, hb5'⟩; have hb5 := HC.out _ _ hb4 hb5'; clear hb5')
          | (go_at_call 26; (with_reducible refine (HK2.out _ (HUP.out _ hb5)).mono ?_); rintro e w6 ⟨rfl, hb6'⟩; have hb6 := HC.out _ _ hb5 hb6'; clear hb6')
          | (go_at_call 37; (with_reducible refine (HK4.out _ (HUP.out _ hb6)).mono ?_); rintro e w7 ⟨rfl, hb7'⟩; have hb7 := HC.out _ _ hb6 hb7'; clear hb7')
          | (go_at_call 20; (with_reducible refine (HA.out _ (HUP.out _ hb7)).mono ?_); rintro e w8 ⟨rfl, hb8'⟩; have hb8 := HC.out _ _ hb7 hb8'; clear hb8'))
       go_wp2_with fail
       go_ret
       exact ⟨rfl, HUP.out _ hb8⟩)
end Go.Proofs.YtnbggokmiokhlaaDoor
