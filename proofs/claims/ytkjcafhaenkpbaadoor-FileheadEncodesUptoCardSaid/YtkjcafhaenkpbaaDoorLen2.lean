/-
  The walk of the law FileheadEncodes.
-/
import Derived.Test.YtkjcafhaenkpbaaDoorRof
import Derived.Test.YtkjcafhaenkpbaaDoorLch
namespace Go.Proofs.YtkjcafhaenkpbaaDoor
set_option linter.unusedVariables false
set_option linter.unusedSimpArgs false
open Go.RowKit

set_option maxRecDepth 100000 in
set_option maxHeartbeats 6400000 in
theorem law_encodes (f : Fl) (A1 : Option Addr) (c1 : Nat) (A2 : Option Addr) (c2 : Nat) (w : World)
    (hn1 : SL w w.heap.size (.slice A1 f.name.length c1) f.name) (hk1 : RL w w.heap.size (.slice A2 f.rules.length c2) f.rules) (hm1 : cntR f.rules ≤ 2900000) (hT : Tb w) :
    Calls Tryd.prog 4 #[flV f A1 c1 A2 c2] w fun e w' => e = .returned (.bool true) ∧ Below w.heap.size w w' := by
  have hl1 : (f.name.length : Int) ≤ 9223372036854775807 := by obtain ⟨A, c, _, h1, h2, _⟩ := id hn1; unfold maxLen at h2; omega
  have hb := alloc_below w (Obj.cells #[.int .i64 f.id, .int .i64 f.kind, .slice A1 f.name.length c1, .int .i64 f.short, .int .i64 f.size, .int .i64 f.len, .int .i64 f.recs, .int .i64 f.state, .slice A2 f.rules.length c2] 25)
  have hnf := heap_alloc_new w (Obj.cells #[.int .i64 f.id, .int .i64 f.kind, .slice A1 f.name.length c1, .int .i64 f.short, .int .i64 f.size, .int .i64 f.len, .int .i64 f.recs, .int .i64 f.state, .slice A2 f.rules.length c2] 25)
  have hz : (w.alloc (Obj.cells #[.int .i64 f.id, .int .i64 f.kind, .slice A1 f.name.length c1, .int .i64 f.short, .int .i64 f.size, .int .i64 f.len, .int .i64 f.recs, .int .i64 f.state, .slice A2 f.rules.length c2] 25)).heap.size = w.heap.size + 1 := alloc_size _ _
  have HS : Hid (∀ W, Below (w.heap.size + 1) (w.alloc (Obj.cells #[.int .i64 f.id, .int .i64 f.kind, .slice A1 f.name.length c1, .int .i64 f.short, .int .i64 f.size, .int .i64 f.len, .int .i64 f.recs, .int .i64 f.state, .slice A2 f.rules.length c2] 25)) W → W.cell? ⟨w.heap.size, 0, none⟩ = some (.int .i64 f.id) ∧ W.cell? ⟨w.heap.size, 1, none⟩ = some (.int .i64 f.kind) ∧ W.cell? ⟨w.heap.size, 2, none⟩ = some (.slice A1 f.name.length c1) ∧ W.cell? ⟨w.heap.size, 3, none⟩ = some (.int .i64 f.short) ∧ W.cell? ⟨w.heap.size, 4, none⟩ = some (.int .i64 f.size) ∧ W.cell? ⟨w.heap.size, 5, none⟩ = some (.int .i64 f.len) ∧ W.cell? ⟨w.heap.size, 6, none⟩ = some (.int .i64 f.recs) ∧ W.cell? ⟨w.heap.size, 7, none⟩ = some (.int .i64 f.state) ∧ W.cell? ⟨w.heap.size, 8, none⟩ = some (.slice A2 f.rules.length c2)) := fun W hW => by
    have k0 := (hW.block w.heap.size (by omega)).trans hnf
    exact ⟨cell_of_row _ _ 0 _ _ _ k0, cell_of_row _ _ 1 _ _ _ k0, cell_of_row _ _ 2 _ _ _ k0, cell_of_row _ _ 3 _ _ _ k0, cell_of_row _ _ 4 _ _ _ k0, cell_of_row _ _ 5 _ _ _ k0, cell_of_row _ _ 6 _ _ _ k0, cell_of_row _ _ 7 _ _ _ k0, cell_of_row _ _ 8 _ _ _ k0⟩
  have HF1 : Hid (∀ W, Below (w.heap.size + 1) (w.alloc (Obj.cells #[.int .i64 f.id, .int .i64 f.kind, .slice A1 f.name.length c1, .int .i64 f.short, .int .i64 f.size, .int .i64 f.len, .int .i64 f.recs, .int .i64 f.state, .slice A2 f.rules.length c2] 25)) W → Calls Tryd.prog 10 #[.agg #[.int .i64 f.id, .int .i64 f.kind, .slice A1 f.name.length c1, .int .i64 f.short, .int .i64 f.size, .int .i64 f.len, .int .i64 f.recs, .int .i64 f.state, .slice A2 f.rules.length c2]] W fun e w' => e = .returned (.bool (fewF f)) ∧ Below W.heap.size W w') := fun W hW => pfewf_any f A1 c1 A2 c2 W hl1 (hk1.on (hb.trans (hW.mono (by omega))))
  have HP1 : Hid (fewF f = true → ∀ W, Below (w.heap.size + 1) (w.alloc (Obj.cells #[.int .i64 f.id, .int .i64 f.kind, .slice A1 f.name.length c1, .int .i64 f.short, .int .i64 f.size, .int .i64 f.len, .int .i64 f.recs, .int .i64 f.state, .slice A2 f.rules.length c2] 25)) W → Calls Tryd.prog 14 #[.agg #[.int .i64 f.id, .int .i64 f.kind, .slice A1 f.name.length c1, .int .i64 f.short, .int .i64 f.size, .int .i64 f.len, .int .i64 f.recs, .int .i64 f.state, .slice A2 f.rules.length c2]] W fun e w' => ∃ v', e = .returned (.tuple #[v', .int .i64 (encfE f)]) ∧ FS w' W.heap.size v' (encfM f) ∧ Below W.heap.size W w') := fun hf W hW => pencf_any f A1 c1 A2 c2 W (hn1.on (hb.trans (hW.mono (by omega)))) (hk1.on (hb.trans (hW.mono (by omega)))) (hT.on (hb.trans (hW.mono (by omega)))) (fewF_hc hf hm1)
  have HP2 : Hid (fewF f = true → ∀ W, Below (w.heap.size + 1) (w.alloc (Obj.cells #[.int .i64 f.id, .int .i64 f.kind, .slice A1 f.name.length c1, .int .i64 f.short, .int .i64 f.size, .int .i64 f.len, .int .i64 f.recs, .int .i64 f.state, .slice A2 f.rules.length c2] 25)) W → Calls Tryd.prog 15 #[.agg #[.int .i64 f.id, .int .i64 f.kind, .slice A1 f.name.length c1, .int .i64 f.short, .int .i64 f.size, .int .i64 f.len, .int .i64 f.recs, .int .i64 f.state, .slice A2 f.rules.length c2]] W fun e w' => ∃ v', e = .returned (.tuple #[v', .int .i64 (encfE f)]) ∧ SL w' w'.heap.size v' (encfM f) ∧ Below W.heap.size W w') := fun hf W hW => rencf_any f A1 c1 A2 c2 W (hn1.on (hb.trans (hW.mono (by omega)))) (hk1.on (hb.trans (hW.mono (by omega)))) (fewF_hc hf hm1)
  have HP3 : Hid (fewF f = true → ∀ W, Below (w.heap.size + 1) (w.alloc (Obj.cells #[.int .i64 f.id, .int .i64 f.kind, .slice A1 f.name.length c1, .int .i64 f.short, .int .i64 f.size, .int .i64 f.len, .int .i64 f.recs, .int .i64 f.state, .slice A2 f.rules.length c2] 25)) W → Calls Tryd.prog 17 #[.agg #[.int .i64 f.id, .int .i64 f.kind, .slice A1 f.name.length c1, .int .i64 f.short, .int .i64 f.size, .int .i64 f.len, .int .i64 f.recs, .int .i64 f.state, .slice A2 f.rules.length c2]] W fun e w' => e = .returned (.int .i64 (bytF f)) ∧ Below W.heap.size W w') := fun hf W hW => pbytf_any f A1 c1 A2 c2 W (hn1.on (hb.trans (hW.mono (by omega)))) (hk1.on (hb.trans (hW.mono (by omega)))) (hT.on (hb.trans (hW.mono (by omega)))) (fewF_hc hf hm1)
  have HP4 : Hid (fewF f = true → ∀ W, Below (w.heap.size + 1) (w.alloc (Obj.cells #[.int .i64 f.id, .int .i64 f.kind, .slice A1 f.name.length c1, .int .i64 f.short, .int .i64 f.size, .int .i64 f.len, .int .i64 f.recs, .int .i64 f.state, .slice A2 f.rules.length c2] 25)) W → Calls Tryd.prog 18 #[.agg #[.int .i64 f.id, .int .i64 f.kind, .slice A1 f.name.length c1, .int .i64 f.short, .int .i64 f.size, .int .i64 f.len, .int .i64 f.recs, .int .i64 f.state, .slice A2 f.rules.length c2]] W fun e w' => e = .returned (.int .i64 (bytF f)) ∧ Below W.heap.size W w') := fun hf W hW => rbytf_any f A1 c1 A2 c2 W (hn1.on (hb.trans (hW.mono (by omega)))) (hk1.on (hb.trans (hW.mono (by omega)))) (fewF_hc hf hm1)
  have HA : Hid (∀ W, Below (w.heap.size + 1) (w.alloc (Obj.cells #[.int .i64 f.id, .int .i64 f.kind, .slice A1 f.name.length c1, .int .i64 f.short, .int .i64 f.size, .int .i64 f.len, .int .i64 f.recs, .int .i64 f.state, .slice A2 f.rules.length c2] 25)) W → Calls Tryd.prog 13 #[] W fun e w' => e = .returned (.bool true) ∧ Below W.heap.size W w') := fun W hW => awake_any W (hT.on (hb.trans (hW.mono (by omega))))
  have ht0 := Below.refl (w.heap.size + 1) (w.alloc (Obj.cells #[.int .i64 f.id, .int .i64 f.kind, .slice A1 f.name.length c1, .int .i64 f.short, .int .i64 f.size, .int .i64 f.len, .int .i64 f.recs, .int .i64 f.state, .slice A2 f.rules.length c2] 25))
  have HB := Lib.hid hb
  have HZ := Lib.hid hz
  have HCC : Hid (∀ W W', Below (w.heap.size + 1) (w.alloc (Obj.cells #[.int .i64 f.id, .int .i64 f.kind, .slice A1 f.name.length c1, .int .i64 f.short, .int .i64 f.size, .int .i64 f.len, .int .i64 f.recs, .int .i64 f.state, .slice A2 f.rules.length c2] 25)) W → Below W.heap.size W W' → Below (w.heap.size + 1) (w.alloc (Obj.cells #[.int .i64 f.id, .int .i64 f.kind, .slice A1 f.name.length c1, .int .i64 f.short, .int .i64 f.size, .int .i64 f.len, .int .i64 f.recs, .int .i64 f.state, .slice A2 f.rules.length c2] 25)) W') := fun W W' h1 h2 => h1.trans (h2.mono (by have := h1.size; rw [hz] at this; exact this))
  clear hb hnf hz hn1 hk1 hl1 hm1 hT
  unfold flV
  have HT0 := Lib.hid ht0
  clear ht0
  generalize encfE f = EE at *
  generalize encfM f = EM at *
  generalize bytF f = BY at *
  generalize fewF f = F1 at *
  generalize f.name.length = n1 at *
  generalize f.rules.length = n2 at *
  go_enter Tryd.func4, Tryd.ntmps4
  cases F1
  · clear HP1 HP2 HP3 HP4
    go_wp2_with fail
    refine (HF1.out _ HT0.out).mono ?_
    rintro e w1 ⟨rfl, hb1⟩
    have HT1 := Lib.hid (HCC.out _ _ HT0.out hb1)
    clear hb1
    go_wp2_with fail
    go_ret
    exact ⟨rfl, HB.out.trans (HT1.out.mono (by omega))⟩
  · replace HP1 := Lib.hid (HP1.out rfl)
    replace HP2 := Lib.hid (HP2.out rfl)
    replace HP3 := Lib.hid (HP3.out rfl)
    replace HP4 := Lib.hid (HP4.out rfl)
    go_wp2_with fail
    refine (HF1.out _ HT0.out).mono ?_
    rintro e w1 ⟨rfl, hb1⟩
    have HT1 := Lib.hid (HCC.out _ _ HT0.out hb1)
    clear hb1
    obtain ⟨x0, x1, x2, x3, x4, x5, x6, x7, x8⟩ := HS.out _ HT1.out
    go_wp2_with fail
    refine (HP1.out _ HT1.out).mono ?_
    rintro e w2 ⟨v2, rfl, hf2, hb2⟩
    have hf21 := hf2.1
    obtain ⟨A5, c5, rfl, _⟩ := id hf21
    have HT2 := Lib.hid (HCC.out _ _ HT1.out hb2)
    have HV2 := Lib.hid hf21
    clear hb2 hf2 hf21 x0 x1 x2 x3 x4 x5 x6 x7 x8
    obtain ⟨x0, x1, x2, x3, x4, x5, x6, x7, x8⟩ := HS.out _ HT2.out
    go_wp2_with fail
    refine (HP2.out _ HT2.out).mono ?_
    rintro e w3 ⟨v3, rfl, hf3, hb3⟩
    obtain ⟨A6, c6, rfl, _⟩ := id hf3
    have HT3 := Lib.hid (HCC.out _ _ HT2.out hb3)
    have HV3 := Lib.hid hf3
    have HV2b := Lib.hid (HV2.out.on hb3)
    clear hb3 hf3 x0 x1 x2 x3 x4 x5 x6 x7 x8
    obtain ⟨x0, x1, x2, x3, x4, x5, x6, x7, x8⟩ := HS.out _ HT3.out
    have HSM : Hid (∀ W, Below w3.heap.size w3 W → Calls Tryd.prog 16 #[.slice A5 EM.length c5, .slice A6 EM.length c6] W fun e w' => e = .returned (.bool true) ∧ Below W.heap.size W w') := fun W hW => by
      have h := rsame1_any EM EM _ _ W (HV2b.out.on hW) (HV3.out.on hW)
      rw [decide_eq_true rfl] at h
      exact h
    generalize EM.length = n5 at *
    have hs3 := HT3.out.size
    have hc3 := HT3.out.drew
    have hd3 := (Below.refl w3.heap.size w3).drew
    have HEQ : Hid ((EE == EE) = true) := by show _ = _; simp
    have HEB : Hid ((BY == BY) = true) := by show _ = _; simp
    go_wp2_with fail
    go_region_held3 (fun W => W.cell? ⟨w.heap.size, 0, none⟩ = some (.int .i64 f.id) ∧ W.cell? ⟨w.heap.size, 1, none⟩ = some (.int .i64 f.kind) ∧ W.cell? ⟨w.heap.size, 2, none⟩ = some (.slice A1 n1 c1) ∧ W.cell? ⟨w.heap.size, 3, none⟩ = some (.int .i64 f.short) ∧ W.cell? ⟨w.heap.size, 4, none⟩ = some (.int .i64 f.size) ∧ W.cell? ⟨w.heap.size, 5, none⟩ = some (.int .i64 f.len) ∧ W.cell? ⟨w.heap.size, 6, none⟩ = some (.int .i64 f.recs) ∧ W.cell? ⟨w.heap.size, 7, none⟩ = some (.int .i64 f.state) ∧ W.cell? ⟨w.heap.size, 8, none⟩ = some (.slice A2 n2 c2))
      (first
        | (go_keep; done)
        | exact HS.out _ hc3
        | exact HS.out _ hc4
        | exact HS.out _ hc5
        | exact HS.out _ hc6
        | exact HS.out _ hc7)
      (first
        | (go_at_call 16; (with_reducible refine (HSM.out _ hd3).mono ?_); rintro e w4 ⟨rfl, hx4⟩; have hc4 := HCC.out _ _ hc3 hx4; clear hx4)
        | (go_at_call 17; (with_reducible refine (HP3.out _ hc4).mono ?_); rintro e w5 ⟨rfl, hx5⟩; have hc5 := HCC.out _ _ hc4 hx5; clear hx5)
        | (go_at_call 18; (with_reducible refine (HP4.out _ hc5).mono ?_); rintro e w6 ⟨rfl, hx6⟩; have hc6 := HCC.out _ _ hc5 hx6; clear hx6)
        | (go_at_call 13; (with_reducible refine (HA.out _ hc6).mono ?_); rintro e w7 ⟨rfl, hx7⟩; have hc7 := HCC.out _ _ hc6 hx7; clear hx7))
    go_wp2_with fail
    go_ret
    exact ⟨rfl, HB.out.trans (hc7.mono (by omega))⟩
end Go.Proofs.YtkjcafhaenkpbaaDoor
