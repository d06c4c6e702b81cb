/-
  The walk of the law FileheadChecks.
-/
import Derived.Test.YtkjcafhaenkpbaaDoorChf
import Derived.Test.YtkjcafhaenkpbaaDoorChr
import Derived.Test.YtkjcafhaenkpbaaDoorSmx
namespace Go.Proofs.YtkjcafhaenkpbaaDoor
set_option linter.unusedVariables false
set_option linter.unusedSimpArgs false
open Go.RowKit

theorem cntR_get : ∀ (rs : List Rl) (k : Nat) (h : k < rs.length), rs[k].cond.cnt ≤ cntR rs
  | [], k, h => absurd h (by simp)
  | r :: rs, 0, _ => by rw [cntR]; exact Nat.le_add_right _ _
  | r :: rs, k + 1, h => by
    have := cntR_get rs k (by simpa using h)
    rw [cntR]
    simp only [List.getElem_cons_succ]
    omega
theorem fewF_hc {f : Fl} (hf : fewF f = true) (hm : cntR f.rules ≤ 2900000) : ∀ (k : Nat) (h : k < f.rules.length), f.rules[k].cond.cnt ≤ 2900000 ∧ f.rules[k].cond.dep ≤ 900 :=
  fun k h => ⟨Nat.le_trans (cntR_get f.rules k h) hm, fewF_dep hf k h⟩
set_option maxRecDepth 100000 in
set_option maxHeartbeats 6400000 in
theorem law_checks (f : Fl) (A1 : Option Addr) (c1 : Nat) (A2 : Option Addr) (c2 : Nat) (w : World)
    (hn1 : SL w w.heap.size (.slice A1 f.name.length c1) f.name) (hk1 : RL w w.heap.size (.slice A2 f.rules.length c2) f.rules) (hm1 : cntR f.rules ≤ 2900000) (hT : Tb w) :
    Calls Tryd.prog 3 #[flV f A1 c1 A2 c2] w fun e w' => e = .returned (.bool true) ∧ Below w.heap.size w w' := by
  have hl1 : (f.name.length : Int) ≤ 9223372036854775807 := by obtain ⟨A, c, _, h1, h2, _⟩ := id hn1; unfold maxLen at h2; omega
  have hb := alloc_below w (Obj.cells #[.int .i64 f.id, .int .i64 f.kind, .slice A1 f.name.length c1, .int .i64 f.short, .int .i64 f.size, .int .i64 f.len, .int .i64 f.recs, .int .i64 f.state, .slice A2 f.rules.length c2] 25)
  have hnf := heap_alloc_new w (Obj.cells #[.int .i64 f.id, .int .i64 f.kind, .slice A1 f.name.length c1, .int .i64 f.short, .int .i64 f.size, .int .i64 f.len, .int .i64 f.recs, .int .i64 f.state, .slice A2 f.rules.length c2] 25)
  have hz : (w.alloc (Obj.cells #[.int .i64 f.id, .int .i64 f.kind, .slice A1 f.name.length c1, .int .i64 f.short, .int .i64 f.size, .int .i64 f.len, .int .i64 f.recs, .int .i64 f.state, .slice A2 f.rules.length c2] 25)).heap.size = w.heap.size + 1 := alloc_size _ _
  have HS : Hid (∀ W, Below (w.heap.size + 1) (w.alloc (Obj.cells #[.int .i64 f.id, .int .i64 f.kind, .slice A1 f.name.length c1, .int .i64 f.short, .int .i64 f.size, .int .i64 f.len, .int .i64 f.recs, .int .i64 f.state, .slice A2 f.rules.length c2] 25)) W → W.cell? ⟨w.heap.size, 0, none⟩ = some (.int .i64 f.id) ∧ W.cell? ⟨w.heap.size, 1, none⟩ = some (.int .i64 f.kind) ∧ W.cell? ⟨w.heap.size, 2, none⟩ = some (.slice A1 f.name.length c1) ∧ W.cell? ⟨w.heap.size, 3, none⟩ = some (.int .i64 f.short) ∧ W.cell? ⟨w.heap.size, 4, none⟩ = some (.int .i64 f.size) ∧ W.cell? ⟨w.heap.size, 5, none⟩ = some (.int .i64 f.len) ∧ W.cell? ⟨w.heap.size, 6, none⟩ = some (.int .i64 f.recs) ∧ W.cell? ⟨w.heap.size, 7, none⟩ = some (.int .i64 f.state) ∧ W.cell? ⟨w.heap.size, 8, none⟩ = some (.slice A2 f.rules.length c2)) := fun W hW => by
    have k0 := (hW.block w.heap.size (by omega)).trans hnf
    exact ⟨cell_of_row _ _ 0 _ _ _ k0, cell_of_row _ _ 1 _ _ _ k0, cell_of_row _ _ 2 _ _ _ k0, cell_of_row _ _ 3 _ _ _ k0, cell_of_row _ _ 4 _ _ _ k0, cell_of_row _ _ 5 _ _ _ k0, cell_of_row _ _ 6 _ _ _ k0, cell_of_row _ _ 7 _ _ _ k0, cell_of_row _ _ 8 _ _ _ k0⟩
  have HF1 : Hid (∀ W, Below (w.heap.size + 1) (w.alloc (Obj.cells #[.int .i64 f.id, .int .i64 f.kind, .slice A1 f.name.length c1, .int .i64 f.short, .int .i64 f.size, .int .i64 f.len, .int .i64 f.recs, .int .i64 f.state, .slice A2 f.rules.length c2] 25)) W → Calls Tryd.prog 10 #[.agg #[.int .i64 f.id, .int .i64 f.kind, .slice A1 f.name.length c1, .int .i64 f.short, .int .i64 f.size, .int .i64 f.len, .int .i64 f.recs, .int .i64 f.state, .slice A2 f.rules.length c2]] W fun e w' => e = .returned (.bool (fewF f)) ∧ Below W.heap.size W w') := fun W hW => pfewf_any f A1 c1 A2 c2 W hl1 (hk1.on (hb.trans (hW.mono (by omega))))
  have HP1 : Hid (fewF f = true → ∀ W, Below (w.heap.size + 1) (w.alloc (Obj.cells #[.int .i64 f.id, .int .i64 f.kind, .slice A1 f.name.length c1, .int .i64 f.short, .int .i64 f.size, .int .i64 f.len, .int .i64 f.recs, .int .i64 f.state, .slice A2 f.rules.length c2] 25)) W → Calls Tryd.prog 11 #[.agg #[.int .i64 f.id, .int .i64 f.kind, .slice A1 f.name.length c1, .int .i64 f.short, .int .i64 f.size, .int .i64 f.len, .int .i64 f.recs, .int .i64 f.state, .slice A2 f.rules.length c2]] W fun e w' => e = .returned (.int .i64 (chkF f)) ∧ Below W.heap.size W w') := fun hf W hW => pchf_any f A1 c1 A2 c2 W hl1 (hk1.on (hb.trans (hW.mono (by omega)))) (hT.on (hb.trans (hW.mono (by omega)))) (fewF_hc hf hm1)
  have HP2 : Hid (fewF f = true → ∀ W, Below (w.heap.size + 1) (w.alloc (Obj.cells #[.int .i64 f.id, .int .i64 f.kind, .slice A1 f.name.length c1, .int .i64 f.short, .int .i64 f.size, .int .i64 f.len, .int .i64 f.recs, .int .i64 f.state, .slice A2 f.rules.length c2] 25)) W → Calls Tryd.prog 12 #[.agg #[.int .i64 f.id, .int .i64 f.kind, .slice A1 f.name.length c1, .int .i64 f.short, .int .i64 f.size, .int .i64 f.len, .int .i64 f.recs, .int .i64 f.state, .slice A2 f.rules.length c2]] W fun e w' => e = .returned (.int .i64 (chkF f)) ∧ Below W.heap.size W w') := fun hf W hW => rchf_any f A1 c1 A2 c2 W hl1 (hk1.on (hb.trans (hW.mono (by omega)))) (fewF_hc hf hm1)
  have HA : Hid (∀ W, Below (w.heap.size + 1) (w.alloc (Obj.cells #[.int .i64 f.id, .int .i64 f.kind, .slice A1 f.name.length c1, .int .i64 f.short, .int .i64 f.size, .int .i64 f.len, .int .i64 f.recs, .int .i64 f.state, .slice A2 f.rules.length c2] 25)) W → Calls Tryd.prog 13 #[] W fun e w' => e = .returned (.bool true) ∧ Below W.heap.size W w') := fun W hW => awake_any W (hT.on (hb.trans (hW.mono (by omega))))
  have ht0 := Below.refl (w.heap.size + 1) (w.alloc (Obj.cells #[.int .i64 f.id, .int .i64 f.kind, .slice A1 f.name.length c1, .int .i64 f.short, .int .i64 f.size, .int .i64 f.len, .int .i64 f.recs, .int .i64 f.state, .slice A2 f.rules.length c2] 25))
  have HB := Lib.hid hb
  have HZ := Lib.hid hz
  have HCC : Hid (∀ W W', Below (w.heap.size + 1) (w.alloc (Obj.cells #[.int .i64 f.id, .int .i64 f.kind, .slice A1 f.name.length c1, .int .i64 f.short, .int .i64 f.size, .int .i64 f.len, .int .i64 f.recs, .int .i64 f.state, .slice A2 f.rules.length c2] 25)) W → Below W.heap.size W W' → Below (w.heap.size + 1) (w.alloc (Obj.cells #[.int .i64 f.id, .int .i64 f.kind, .slice A1 f.name.length c1, .int .i64 f.short, .int .i64 f.size, .int .i64 f.len, .int .i64 f.recs, .int .i64 f.state, .slice A2 f.rules.length c2] 25)) W') := fun W W' h1 h2 => h1.trans (h2.mono (by have := h1.size; rw [hz] at this; exact this))
  clear hb hnf hz hn1 hk1 hl1 hm1 hT
  unfold flV
  have HT0 := Lib.hid ht0
  clear ht0
  generalize chkF f = X at *
  generalize fewF f = F1 at *
  generalize f.name.length = n1 at *
  generalize f.rules.length = n2 at *
  go_enter Tryd.func3, Tryd.ntmps3
  cases F1
  · clear HP1 HP2
    go_wp2_with fail
    refine (HF1.out _ HT0.out).mono ?_
    rintro e w1 ⟨rfl, hb1⟩
    have HT1 := Lib.hid (HT0.out.trans (hb1.mono (Nat.le_trans (Nat.le_of_eq HZ.out.symm) HT0.out.size)))
    clear hb1
    obtain ⟨x0, x1, x2, x3, x4, x5, x6, x7, x8⟩ := HS.out _ HT1.out
    go_wp2_with fail
    go_ret
    exact ⟨rfl, HB.out.trans (HT1.out.mono (by omega))⟩
  · replace HP1 := Lib.hid (HP1.out rfl)
    replace HP2 := Lib.hid (HP2.out rfl)
    go_wp2_with fail
    refine (HF1.out _ HT0.out).mono ?_
    rintro e w1 ⟨rfl, hb1⟩
    have HT1 := Lib.hid (HT0.out.trans (hb1.mono (Nat.le_trans (Nat.le_of_eq HZ.out.symm) HT0.out.size)))
    clear hb1
    obtain ⟨x0, x1, x2, x3, x4, x5, x6, x7, x8⟩ := HS.out _ HT1.out
    have hc1 := HT1.out.drew
    clear x0 x1 x2 x3 x4 x5 x6 x7 x8
    obtain ⟨x0, x1, x2, x3, x4, x5, x6, x7, x8⟩ := HS.out _ HT1.out
    go_wp2_with fail
    go_region_held3 (fun W => W.cell? ⟨w.heap.size, 0, none⟩ = some (.int .i64 f.id) ∧ W.cell? ⟨w.heap.size, 1, none⟩ = some (.int .i64 f.kind) ∧ W.cell? ⟨w.heap.size, 2, none⟩ = some (.slice A1 n1 c1) ∧ W.cell? ⟨w.heap.size, 3, none⟩ = some (.int .i64 f.short) ∧ W.cell? ⟨w.heap.size, 4, none⟩ = some (.int .i64 f.size) ∧ W.cell? ⟨w.heap.size, 5, none⟩ = some (.int .i64 f.len) ∧ W.cell? ⟨w.heap.size, 6, none⟩ = some (.int .i64 f.recs) ∧ W.cell? ⟨w.heap.size, 7, none⟩ = some (.int .i64 f.state) ∧ W.cell? ⟨w.heap.size, 8, none⟩ = some (.slice A2 n2 c2))
      (first
        | (go_keep; done)
        | exact HS.out _ hc1
        | exact HS.out _ hc2
        | exact HS.out _ hc3
        | exact HS.out _ hc4)
      (first
        | (go_at_call 11; (with_reducible refine (HP1.out _ hc1).mono ?_); rintro e w2 ⟨rfl, hx2⟩; have hc2 := HCC.out _ _ hc1 hx2; clear hx2)
        | (go_at_call 12; (with_reducible refine (HP2.out _ hc2).mono ?_); rintro e w3 ⟨rfl, hx3⟩; have hc3 := HCC.out _ _ hc2 hx3; clear hx3)
        | (go_at_call 13; (with_reducible refine (HA.out _ hc3).mono ?_); rintro e w4 ⟨rfl, hx4⟩; have hc4 := HCC.out _ _ hc3 hx4; clear hx4))
    go_wp2_with fail
    go_ret
    exact ⟨rfl, HB.out.trans (hc4.mono (by omega))⟩
end Go.Proofs.YtkjcafhaenkpbaaDoor
