/-
  The walk of the law FileheadKeeps.
-/
import Derived.Test.YtkjcafhaenkpbaaDoorKpm
import Derived.Test.YtkjcafhaenkpbaaDoorLch
namespace Go.Proofs.YtkjcafhaenkpbaaDoor
set_option linter.unusedVariables false
set_option linter.unusedSimpArgs false
open Go.RowKit

theorem keeps_iff (f g : Fl) (h1 : encfE f = 0) (h2 : encfE g = 0) : encfM f = encfM g ↔ f = g := by
  have c : ∀ k : Fl, encfE k = 0 → chkF k = 0 ∧ encfM k = encL [fT k] := by
    intro k hk
    by_cases h0 : chkF k = 0
    · have e : encE [fT k] = 0 := by unfold encfE at hk; rw [if_pos h0] at hk; exact hk
      exact ⟨h0, by unfold encfM; rw [if_pos h0, fT_encL k e]⟩
    · unfold encfE at hk; rw [if_neg h0] at hk; exact absurd hk h0
  obtain ⟨a1, a2⟩ := c f h1
  obtain ⟨b1, b2⟩ := c g h2
  rw [a2, b2]
  constructor
  · exact keeps f g a1 b1
  · rintro rfl; rfl
set_option maxRecDepth 100000 in
set_option maxHeartbeats 12800000 in
theorem law_keeps (f g : Fl) (A1 : Option Addr) (c1 : Nat) (A2 : Option Addr) (c2 : Nat) (A3 : Option Addr) (c3 : Nat) (A4 : Option Addr) (c4 : Nat) (w : World)
    (hn1 : SL w w.heap.size (.slice A1 f.name.length c1) f.name) (hk1 : RL w w.heap.size (.slice A2 f.rules.length c2) f.rules)
    (hn2 : SL w w.heap.size (.slice A3 g.name.length c3) g.name) (hk2 : RL w w.heap.size (.slice A4 g.rules.length c4) g.rules)
    (hm1 : cntR f.rules ≤ 2900000) (hm2 : cntR g.rules ≤ 2900000) (hT : Tb w) :
    Calls Tryd.prog 9 #[flV f A1 c1 A2 c2, flV g A3 c3 A4 c4] w fun e w' => e = .returned (.bool true) ∧ Below w.heap.size w w' := by
  have hl1 : (f.name.length : Int) ≤ 9223372036854775807 := by obtain ⟨A, c, _, h1, h2, _⟩ := id hn1; unfold maxLen at h2; omega
  have hl2 : (g.name.length : Int) ≤ 9223372036854775807 := by obtain ⟨A, c, _, h1, h2, _⟩ := id hn2; unfold maxLen at h2; omega
  have hb1 := alloc_below w (Obj.cells #[.int .i64 f.id, .int .i64 f.kind, .slice A1 f.name.length c1, .int .i64 f.short, .int .i64 f.size, .int .i64 f.len, .int .i64 f.recs, .int .i64 f.state, .slice A2 f.rules.length c2] 25)
  have hb2 := alloc_below (w.alloc (Obj.cells #[.int .i64 f.id, .int .i64 f.kind, .slice A1 f.name.length c1, .int .i64 f.short, .int .i64 f.size, .int .i64 f.len, .int .i64 f.recs, .int .i64 f.state, .slice A2 f.rules.length c2] 25)) (Obj.cells #[.int .i64 g.id, .int .i64 g.kind, .slice A3 g.name.length c3, .int .i64 g.short, .int .i64 g.size, .int .i64 g.len, .int .i64 g.recs, .int .i64 g.state, .slice A4 g.rules.length c4] 25)
  have hb := hb1.trans (hb2.mono hb1.size)
  have hnf := heap_alloc_new w (Obj.cells #[.int .i64 f.id, .int .i64 f.kind, .slice A1 f.name.length c1, .int .i64 f.short, .int .i64 f.size, .int .i64 f.len, .int .i64 f.recs, .int .i64 f.state, .slice A2 f.rules.length c2] 25)
  have hng := heap_alloc_new (w.alloc (Obj.cells #[.int .i64 f.id, .int .i64 f.kind, .slice A1 f.name.length c1, .int .i64 f.short, .int .i64 f.size, .int .i64 f.len, .int .i64 f.recs, .int .i64 f.state, .slice A2 f.rules.length c2] 25)) (Obj.cells #[.int .i64 g.id, .int .i64 g.kind, .slice A3 g.name.length c3, .int .i64 g.short, .int .i64 g.size, .int .i64 g.len, .int .i64 g.recs, .int .i64 g.state, .slice A4 g.rules.length c4] 25)
  have hz : ((w.alloc (Obj.cells #[.int .i64 f.id, .int .i64 f.kind, .slice A1 f.name.length c1, .int .i64 f.short, .int .i64 f.size, .int .i64 f.len, .int .i64 f.recs, .int .i64 f.state, .slice A2 f.rules.length c2] 25)).alloc (Obj.cells #[.int .i64 g.id, .int .i64 g.kind, .slice A3 g.name.length c3, .int .i64 g.short, .int .i64 g.size, .int .i64 g.len, .int .i64 g.recs, .int .i64 g.state, .slice A4 g.rules.length c4] 25)).heap.size = w.heap.size + 2 := by rw [alloc_size, alloc_size]
  have hnf2 := (hb2.block w.heap.size (by rw [alloc_size]; omega)).trans hnf
  rw [alloc_size] at hng
  have HS : Hid (∀ W, Below (w.heap.size + 2) ((w.alloc (Obj.cells #[.int .i64 f.id, .int .i64 f.kind, .slice A1 f.name.length c1, .int .i64 f.short, .int .i64 f.size, .int .i64 f.len, .int .i64 f.recs, .int .i64 f.state, .slice A2 f.rules.length c2] 25)).alloc (Obj.cells #[.int .i64 g.id, .int .i64 g.kind, .slice A3 g.name.length c3, .int .i64 g.short, .int .i64 g.size, .int .i64 g.len, .int .i64 g.recs, .int .i64 g.state, .slice A4 g.rules.length c4] 25)) W → W.cell? ⟨w.heap.size, 0, none⟩ = some (.int .i64 f.id) ∧ W.cell? ⟨w.heap.size, 1, none⟩ = some (.int .i64 f.kind) ∧ W.cell? ⟨w.heap.size, 2, none⟩ = some (.slice A1 f.name.length c1) ∧ W.cell? ⟨w.heap.size, 3, none⟩ = some (.int .i64 f.short) ∧ W.cell? ⟨w.heap.size, 4, none⟩ = some (.int .i64 f.size) ∧ W.cell? ⟨w.heap.size, 5, none⟩ = some (.int .i64 f.len) ∧ W.cell? ⟨w.heap.size, 6, none⟩ = some (.int .i64 f.recs) ∧ W.cell? ⟨w.heap.size, 7, none⟩ = some (.int .i64 f.state) ∧ W.cell? ⟨w.heap.size, 8, none⟩ = some (.slice A2 f.rules.length c2) ∧ W.cell? ⟨w.heap.size + 1, 0, none⟩ = some (.int .i64 g.id) ∧ W.cell? ⟨w.heap.size + 1, 1, none⟩ = some (.int .i64 g.kind) ∧ W.cell? ⟨w.heap.size + 1, 2, none⟩ = some (.slice A3 g.name.length c3) ∧ W.cell? ⟨w.heap.size + 1, 3, none⟩ = some (.int .i64 g.short) ∧ W.cell? ⟨w.heap.size + 1, 4, none⟩ = some (.int .i64 g.size) ∧ W.cell? ⟨w.heap.size + 1, 5, none⟩ = some (.int .i64 g.len) ∧ W.cell? ⟨w.heap.size + 1, 6, none⟩ = some (.int .i64 g.recs) ∧ W.cell? ⟨w.heap.size + 1, 7, none⟩ = some (.int .i64 g.state) ∧ W.cell? ⟨w.heap.size + 1, 8, none⟩ = some (.slice A4 g.rules.length c4)) := fun W hW => by
    have k0 := (hW.block w.heap.size (by omega)).trans hnf2
    have k1 := (hW.block (w.heap.size + 1) (by omega)).trans hng
    exact ⟨cell_of_row _ _ 0 _ _ _ k0, cell_of_row _ _ 1 _ _ _ k0, cell_of_row _ _ 2 _ _ _ k0, cell_of_row _ _ 3 _ _ _ k0, cell_of_row _ _ 4 _ _ _ k0, cell_of_row _ _ 5 _ _ _ k0, cell_of_row _ _ 6 _ _ _ k0, cell_of_row _ _ 7 _ _ _ k0, cell_of_row _ _ 8 _ _ _ k0, cell_of_row _ _ 0 _ _ _ k1, cell_of_row _ _ 1 _ _ _ k1, cell_of_row _ _ 2 _ _ _ k1, cell_of_row _ _ 3 _ _ _ k1, cell_of_row _ _ 4 _ _ _ k1, cell_of_row _ _ 5 _ _ _ k1, cell_of_row _ _ 6 _ _ _ k1, cell_of_row _ _ 7 _ _ _ k1, cell_of_row _ _ 8 _ _ _ k1⟩
  have HF1 : Hid (∀ W, Below (w.heap.size + 2) ((w.alloc (Obj.cells #[.int .i64 f.id, .int .i64 f.kind, .slice A1 f.name.length c1, .int .i64 f.short, .int .i64 f.size, .int .i64 f.len, .int .i64 f.recs, .int .i64 f.state, .slice A2 f.rules.length c2] 25)).alloc (Obj.cells #[.int .i64 g.id, .int .i64 g.kind, .slice A3 g.name.length c3, .int .i64 g.short, .int .i64 g.size, .int .i64 g.len, .int .i64 g.recs, .int .i64 g.state, .slice A4 g.rules.length c4] 25)) W → Calls Tryd.prog 10 #[.agg #[.int .i64 f.id, .int .i64 f.kind, .slice A1 f.name.length c1, .int .i64 f.short, .int .i64 f.size, .int .i64 f.len, .int .i64 f.recs, .int .i64 f.state, .slice A2 f.rules.length c2]] W fun e w' => e = .returned (.bool (fewF f)) ∧ Below W.heap.size W w') := fun W hW => pfewf_any f A1 c1 A2 c2 W hl1 (hk1.on (hb.trans (hW.mono (by omega))))
  have HF2 : Hid (∀ W, Below (w.heap.size + 2) ((w.alloc (Obj.cells #[.int .i64 f.id, .int .i64 f.kind, .slice A1 f.name.length c1, .int .i64 f.short, .int .i64 f.size, .int .i64 f.len, .int .i64 f.recs, .int .i64 f.state, .slice A2 f.rules.length c2] 25)).alloc (Obj.cells #[.int .i64 g.id, .int .i64 g.kind, .slice A3 g.name.length c3, .int .i64 g.short, .int .i64 g.size, .int .i64 g.len, .int .i64 g.recs, .int .i64 g.state, .slice A4 g.rules.length c4] 25)) W → Calls Tryd.prog 10 #[.agg #[.int .i64 g.id, .int .i64 g.kind, .slice A3 g.name.length c3, .int .i64 g.short, .int .i64 g.size, .int .i64 g.len, .int .i64 g.recs, .int .i64 g.state, .slice A4 g.rules.length c4]] W fun e w' => e = .returned (.bool (fewF g)) ∧ Below W.heap.size W w') := fun W hW => pfewf_any g A3 c3 A4 c4 W hl2 (hk2.on (hb.trans (hW.mono (by omega))))
  have HE1 : Hid (fewF f = true → ∀ W, Below (w.heap.size + 2) ((w.alloc (Obj.cells #[.int .i64 f.id, .int .i64 f.kind, .slice A1 f.name.length c1, .int .i64 f.short, .int .i64 f.size, .int .i64 f.len, .int .i64 f.recs, .int .i64 f.state, .slice A2 f.rules.length c2] 25)).alloc (Obj.cells #[.int .i64 g.id, .int .i64 g.kind, .slice A3 g.name.length c3, .int .i64 g.short, .int .i64 g.size, .int .i64 g.len, .int .i64 g.recs, .int .i64 g.state, .slice A4 g.rules.length c4] 25)) W → Calls Tryd.prog 14 #[.agg #[.int .i64 f.id, .int .i64 f.kind, .slice A1 f.name.length c1, .int .i64 f.short, .int .i64 f.size, .int .i64 f.len, .int .i64 f.recs, .int .i64 f.state, .slice A2 f.rules.length c2]] W fun e w' => ∃ v', e = .returned (.tuple #[v', .int .i64 (encfE f)]) ∧ FS w' W.heap.size v' (encfM f) ∧ Below W.heap.size W w') := fun hf W hW => pencf_any f A1 c1 A2 c2 W (hn1.on (hb.trans (hW.mono (by omega)))) (hk1.on (hb.trans (hW.mono (by omega)))) (hT.on (hb.trans (hW.mono (by omega)))) (fewF_hc hf hm1)
  have HE2 : Hid (fewF g = true → ∀ W, Below (w.heap.size + 2) ((w.alloc (Obj.cells #[.int .i64 f.id, .int .i64 f.kind, .slice A1 f.name.length c1, .int .i64 f.short, .int .i64 f.size, .int .i64 f.len, .int .i64 f.recs, .int .i64 f.state, .slice A2 f.rules.length c2] 25)).alloc (Obj.cells #[.int .i64 g.id, .int .i64 g.kind, .slice A3 g.name.length c3, .int .i64 g.short, .int .i64 g.size, .int .i64 g.len, .int .i64 g.recs, .int .i64 g.state, .slice A4 g.rules.length c4] 25)) W → Calls Tryd.prog 14 #[.agg #[.int .i64 g.id, .int .i64 g.kind, .slice A3 g.name.length c3, .int .i64 g.short, .int .i64 g.size, .int .i64 g.len, .int .i64 g.recs, .int .i64 g.state, .slice A4 g.rules.length c4]] W fun e w' => ∃ v', e = .returned (.tuple #[v', .int .i64 (encfE g)]) ∧ FS w' W.heap.size v' (encfM g) ∧ Below W.heap.size W w') := fun hf W hW => pencf_any g A3 c3 A4 c4 W (hn2.on (hb.trans (hW.mono (by omega)))) (hk2.on (hb.trans (hW.mono (by omega)))) (hT.on (hb.trans (hW.mono (by omega)))) (fewF_hc hf hm2)
  have HNS : Hid (∀ W, Below (w.heap.size + 2) ((w.alloc (Obj.cells #[.int .i64 f.id, .int .i64 f.kind, .slice A1 f.name.length c1, .int .i64 f.short, .int .i64 f.size, .int .i64 f.len, .int .i64 f.recs, .int .i64 f.state, .slice A2 f.rules.length c2] 25)).alloc (Obj.cells #[.int .i64 g.id, .int .i64 g.kind, .slice A3 g.name.length c3, .int .i64 g.short, .int .i64 g.size, .int .i64 g.len, .int .i64 g.recs, .int .i64 g.state, .slice A4 g.rules.length c4] 25)) W → Calls Tryd.prog 16 #[.slice A1 f.name.length c1, .slice A3 g.name.length c3] W fun e w' => e = .returned (.bool (decide (f.name = g.name))) ∧ Below W.heap.size W w') := fun W hW => rsame1_any f.name g.name _ _ W (hn1.on (hb.trans (hW.mono (by omega)))) (hn2.on (hb.trans (hW.mono (by omega))))
  have HRS : Hid (∀ W, Below (w.heap.size + 2) ((w.alloc (Obj.cells #[.int .i64 f.id, .int .i64 f.kind, .slice A1 f.name.length c1, .int .i64 f.short, .int .i64 f.size, .int .i64 f.len, .int .i64 f.recs, .int .i64 f.state, .slice A2 f.rules.length c2] 25)).alloc (Obj.cells #[.int .i64 g.id, .int .i64 g.kind, .slice A3 g.name.length c3, .int .i64 g.short, .int .i64 g.size, .int .i64 g.len, .int .i64 g.recs, .int .i64 g.state, .slice A4 g.rules.length c4] 25)) W → Calls Tryd.prog 25 #[.slice A2 f.rules.length c2, .slice A4 g.rules.length c4] W fun e w' => e = .returned (.bool (samR f.rules g.rules)) ∧ Below W.heap.size W w') := fun W hW => rsmr_any f.rules g.rules _ _ W (hk1.on (hb.trans (hW.mono (by omega)))) (hk2.on (hb.trans (hW.mono (by omega))))
  have HA : Hid (∀ W, Below (w.heap.size + 2) ((w.alloc (Obj.cells #[.int .i64 f.id, .int .i64 f.kind, .slice A1 f.name.length c1, .int .i64 f.short, .int .i64 f.size, .int .i64 f.len, .int .i64 f.recs, .int .i64 f.state, .slice A2 f.rules.length c2] 25)).alloc (Obj.cells #[.int .i64 g.id, .int .i64 g.kind, .slice A3 g.name.length c3, .int .i64 g.short, .int .i64 g.size, .int .i64 g.len, .int .i64 g.recs, .int .i64 g.state, .slice A4 g.rules.length c4] 25)) W → Calls Tryd.prog 13 #[] W fun e w' => e = .returned (.bool true) ∧ Below W.heap.size W w') := fun W hW => awake_any W (hT.on (hb.trans (hW.mono (by omega))))
  have HKI := Lib.hid (keeps_iff f g)
  have ht0 := Below.refl (w.heap.size + 2) ((w.alloc (Obj.cells #[.int .i64 f.id, .int .i64 f.kind, .slice A1 f.name.length c1, .int .i64 f.short, .int .i64 f.size, .int .i64 f.len, .int .i64 f.recs, .int .i64 f.state, .slice A2 f.rules.length c2] 25)).alloc (Obj.cells #[.int .i64 g.id, .int .i64 g.kind, .slice A3 g.name.length c3, .int .i64 g.short, .int .i64 g.size, .int .i64 g.len, .int .i64 g.recs, .int .i64 g.state, .slice A4 g.rules.length c4] 25))
  have HB := Lib.hid hb
  have HZ := Lib.hid hz
  have HCC : Hid (∀ W W', Below (w.heap.size + 2) ((w.alloc (Obj.cells #[.int .i64 f.id, .int .i64 f.kind, .slice A1 f.name.length c1, .int .i64 f.short, .int .i64 f.size, .int .i64 f.len, .int .i64 f.recs, .int .i64 f.state, .slice A2 f.rules.length c2] 25)).alloc (Obj.cells #[.int .i64 g.id, .int .i64 g.kind, .slice A3 g.name.length c3, .int .i64 g.short, .int .i64 g.size, .int .i64 g.len, .int .i64 g.recs, .int .i64 g.state, .slice A4 g.rules.length c4] 25)) W → Below W.heap.size W W' → Below (w.heap.size + 2) ((w.alloc (Obj.cells #[.int .i64 f.id, .int .i64 f.kind, .slice A1 f.name.length c1, .int .i64 f.short, .int .i64 f.size, .int .i64 f.len, .int .i64 f.recs, .int .i64 f.state, .slice A2 f.rules.length c2] 25)).alloc (Obj.cells #[.int .i64 g.id, .int .i64 g.kind, .slice A3 g.name.length c3, .int .i64 g.short, .int .i64 g.size, .int .i64 g.len, .int .i64 g.recs, .int .i64 g.state, .slice A4 g.rules.length c4] 25)) W') := fun W W' h1 h2 => h1.trans (h2.mono (by have := h1.size; rw [hz] at this; exact this))
  clear hb1 hb2 hb hnf hng hnf2 hz hn1 hn2 hk1 hk2 hl1 hl2 hm1 hm2 hT
  unfold flV
  have HT0 := Lib.hid ht0
  clear ht0
  generalize encfE f = E1 at *
  generalize encfE g = E2 at *
  generalize encfM f = M1 at *
  generalize encfM g = M2 at *
  have HFG : Hid (f = g ↔ (f.id = g.id ∧ f.kind = g.kind ∧ f.short = g.short ∧ f.size = g.size ∧ f.len = g.len ∧ f.recs = g.recs ∧ f.state = g.state) ∧ f.name = g.name ∧ samR f.rules g.rules = true) := by
    show _ ↔ _
    rw [samR_eq]
    obtain ⟨a1, a2, a3, a4, a5, a6, a7, a8, a9⟩ := f
    obtain ⟨b1, b2, b3, b4, b5, b6, b7, b8, b9⟩ := g
    simp only [Fl.mk.injEq]
    constructor
    · rintro ⟨h1, h2, h3, h4, h5, h6, h7, h8, h9⟩; exact ⟨⟨h1, h2, h3, h4, h5, h6, h7⟩, h8, h9⟩
    · rintro ⟨⟨h1, h2, h3, h4, h5, h6, h7⟩, h8, h9⟩; exact ⟨h1, h2, h3, h4, h5, h6, h7, h8, h9⟩
  generalize fewF f = F1 at *
  generalize fewF g = F2 at *
  generalize hSR : samR f.rules g.rules = SR at *
  generalize hNQ : decide (f.name = g.name) = NQ at *
  have HNQ := Lib.hid hNQ
  clear hSR hNQ
  generalize f.rules.length = n2 at *
  generalize g.rules.length = n4 at *
  generalize hnm1 : f.name = nm1 at *
  generalize hnm2 : g.name = nm2 at *
  clear hnm1 hnm2
  generalize hf1 : f.id = fid at *
  generalize hf2 : f.kind = fkind at *
  generalize hf3 : f.short = fshort at *
  generalize hf4 : f.size = fsize at *
  generalize hf5 : f.len = flen at *
  generalize hf6 : f.recs = frecs at *
  generalize hf7 : f.state = fstate at *
  generalize hg1 : g.id = gid at *
  generalize hg2 : g.kind = gkind at *
  generalize hg3 : g.short = gshort at *
  generalize hg4 : g.size = gsize at *
  generalize hg5 : g.len = glen at *
  generalize hg6 : g.recs = grecs at *
  generalize hg7 : g.state = gstate at *
  clear hf1 hf2 hf3 hf4 hf5 hf6 hf7 hg1 hg2 hg3 hg4 hg5 hg6 hg7
  generalize nm1.length = n1 at *
  generalize nm2.length = n3 at *
  cases F1
  · skip
    go_enter Tryd.func9, Tryd.ntmps9
    go_wp2_with fail
    refine (HF1.out _ HT0.out).mono ?_
    rintro e w1 ⟨rfl, hb1⟩
    have HT1 := Lib.hid (HCC.out _ _ HT0.out hb1)
    clear hb1
    obtain ⟨x0, x1, x2, x3, x4, x5, x6, x7, x8, x9, x10, x11, x12, x13, x14, x15, x16, x17⟩ := HS.out _ HT1.out
    go_wp2_with fail
    go_ret
    exact ⟨rfl, HB.out.trans (HT1.out.mono (by omega))⟩
  · replace HE1 := Lib.hid (HE1.out rfl)
    cases F2
    · skip
      go_enter Tryd.func9, Tryd.ntmps9
      go_wp2_with fail
      refine (HF1.out _ HT0.out).mono ?_
      rintro e w1 ⟨rfl, hb1⟩
      have HT1 := Lib.hid (HCC.out _ _ HT0.out hb1)
      clear hb1
      obtain ⟨x0, x1, x2, x3, x4, x5, x6, x7, x8, x9, x10, x11, x12, x13, x14, x15, x16, x17⟩ := HS.out _ HT1.out
      go_wp2_with fail
      refine (HF2.out _ HT1.out).mono ?_
      rintro e w2 ⟨rfl, hb2⟩
      have HT2 := Lib.hid (HCC.out _ _ HT1.out hb2)
      clear hb2
      clear x0 x1 x2 x3 x4 x5 x6 x7 x8 x9 x10 x11 x12 x13 x14 x15 x16 x17
      obtain ⟨x0, x1, x2, x3, x4, x5, x6, x7, x8, x9, x10, x11, x12, x13, x14, x15, x16, x17⟩ := HS.out _ HT2.out
      go_wp2_with fail
      go_ret
      exact ⟨rfl, HB.out.trans (HT2.out.mono (by omega))⟩
    · replace HE2 := Lib.hid (HE2.out rfl)
      by_cases z1 : E1 = 0
      · subst z1
        by_cases z2 : E2 = 0
        · subst z2
          have HKI2 := Lib.hid ((HKI.out rfl rfl).trans HFG.out)
          clear HKI HFG
          by_cases e_id : fid = gid
          · subst e_id
            by_cases e_kind : fkind = gkind
            · subst e_kind
              by_cases e_short : fshort = gshort
              · subst e_short
                by_cases e_size : fsize = gsize
                · subst e_size
                  by_cases e_len : flen = glen
                  · subst e_len
                    by_cases e_recs : frecs = grecs
                    · subst e_recs
                      by_cases e_state : fstate = gstate
                      · subst e_state
                        have hb_all : True := trivial
                        cases NQ
                        · skip
                          have HD : Hid (decide (M1 = M2) = false) := decide_eq_false fun h => (of_decide_eq_false HNQ.out) (HKI2.out.1 h).2.1
                          clear HKI2 HNQ
                          go_enter Tryd.func9, Tryd.ntmps9
                          go_wp2_with fail
                          refine (HF1.out _ HT0.out).mono ?_
                          rintro e w1 ⟨rfl, hb1⟩
                          have HT1 := Lib.hid (HCC.out _ _ HT0.out hb1)
                          clear hb1
                          obtain ⟨x0, x1, x2, x3, x4, x5, x6, x7, x8, x9, x10, x11, x12, x13, x14, x15, x16, x17⟩ := HS.out _ HT1.out
                          go_wp2_with fail
                          refine (HF2.out _ HT1.out).mono ?_
                          rintro e w2 ⟨rfl, hb2⟩
                          have HT2 := Lib.hid (HCC.out _ _ HT1.out hb2)
                          clear hb2
                          clear x0 x1 x2 x3 x4 x5 x6 x7 x8 x9 x10 x11 x12 x13 x14 x15 x16 x17
                          obtain ⟨x0, x1, x2, x3, x4, x5, x6, x7, x8, x9, x10, x11, x12, x13, x14, x15, x16, x17⟩ := HS.out _ HT2.out
                          go_wp2_with fail
                          refine (HE1.out _ HT2.out).mono ?_
                          rintro e w3 ⟨v3, rfl, hf, hb3⟩
                          have hfs := hf.1
                          obtain ⟨Av3, cv3, rfl, _⟩ := id hfs
                          have HT3 := Lib.hid (HCC.out _ _ HT2.out hb3)
                          have HV3 := Lib.hid hfs
                          clear hb3 hf hfs x0 x1 x2 x3 x4 x5 x6 x7 x8 x9 x10 x11 x12 x13 x14 x15 x16 x17
                          obtain ⟨x0, x1, x2, x3, x4, x5, x6, x7, x8, x9, x10, x11, x12, x13, x14, x15, x16, x17⟩ := HS.out _ HT3.out
                          go_wp2_with fail
                          refine (HE2.out _ HT3.out).mono ?_
                          rintro e w4 ⟨v4, rfl, hf, hb4⟩
                          have hfs := hf.1
                          obtain ⟨Av4, cv4, rfl, _⟩ := id hfs
                          have HT4 := Lib.hid (HCC.out _ _ HT3.out hb4)
                          have HV3 := Lib.hid (HV3.out.on hb4)
                          have HV4 := Lib.hid hfs
                          clear hb4 hf hfs x0 x1 x2 x3 x4 x5 x6 x7 x8 x9 x10 x11 x12 x13 x14 x15 x16 x17
                          obtain ⟨x0, x1, x2, x3, x4, x5, x6, x7, x8, x9, x10, x11, x12, x13, x14, x15, x16, x17⟩ := HS.out _ HT4.out
                          go_wp2_with fail
                          refine (HNS.out _ HT4.out).mono ?_
                          rintro e w5 ⟨rfl, hb5⟩
                          have HT5 := Lib.hid (HCC.out _ _ HT4.out hb5)
                          have HBX5 := Lib.hid hb5
                          clear hb5
                          clear x0 x1 x2 x3 x4 x5 x6 x7 x8 x9 x10 x11 x12 x13 x14 x15 x16 x17
                          obtain ⟨x0, x1, x2, x3, x4, x5, x6, x7, x8, x9, x10, x11, x12, x13, x14, x15, x16, x17⟩ := HS.out _ HT5.out
                          have HVX : Hid (SL w5 w5.heap.size (.slice Av3 M1.length cv3) M1) := HV3.out.on HBX5.out
                          have HVY : Hid (SL w5 w5.heap.size (.slice Av4 M2.length cv4) M2) := HV4.out.on HBX5.out
                          have HXY : Hid (Calls Tryd.prog 16 #[.slice Av3 M1.length cv3, .slice Av4 M2.length cv4] w5 fun e w' => e = .returned (.bool (false)) ∧ Below w5.heap.size w5 w') := by
                            have h := rsame1_any M1 M2 _ _ w5 (HVX.out) (HVY.out)
                            rw [HD.out] at h
                            exact h
                          go_wp2_with fail
                          refine HXY.out.mono ?_
                          rintro e w6 ⟨rfl, hb6⟩
                          have HT6 := Lib.hid (HCC.out _ _ HT5.out hb6)
                          have HBX6 := Lib.hid hb6
                          clear hb6 HXY
                          go_wp2_with fail
                          refine (HA.out _ HT6.out).mono ?_
                          rintro e w7 ⟨rfl, hb7⟩
                          have HT7 := Lib.hid (HCC.out _ _ HT6.out hb7)
                          clear hb7
                          go_wp2_with fail
                          go_ret
                          exact ⟨rfl, HB.out.trans (HT7.out.mono (by omega))⟩
                        · skip
                          have HD : Hid (decide (M1 = M2) = SR) := by
                            show _ = _
                            have hn := of_decide_eq_true HNQ.out
                            cases SR
                            · exact decide_eq_false fun h => by have := (HKI2.out.1 h).2.2; cases this
                            · exact decide_eq_true (HKI2.out.2 ⟨⟨rfl, rfl, rfl, rfl, rfl, rfl, rfl⟩, hn, rfl⟩)
                          clear HKI2 HNQ
                          cases SR
                          · skip
                            go_enter Tryd.func9, Tryd.ntmps9
                            go_wp2_with fail
                            refine (HF1.out _ HT0.out).mono ?_
                            rintro e w1 ⟨rfl, hb1⟩
                            have HT1 := Lib.hid (HCC.out _ _ HT0.out hb1)
                            clear hb1
                            obtain ⟨x0, x1, x2, x3, x4, x5, x6, x7, x8, x9, x10, x11, x12, x13, x14, x15, x16, x17⟩ := HS.out _ HT1.out
                            go_wp2_with fail
                            refine (HF2.out _ HT1.out).mono ?_
                            rintro e w2 ⟨rfl, hb2⟩
                            have HT2 := Lib.hid (HCC.out _ _ HT1.out hb2)
                            clear hb2
                            clear x0 x1 x2 x3 x4 x5 x6 x7 x8 x9 x10 x11 x12 x13 x14 x15 x16 x17
                            obtain ⟨x0, x1, x2, x3, x4, x5, x6, x7, x8, x9, x10, x11, x12, x13, x14, x15, x16, x17⟩ := HS.out _ HT2.out
                            go_wp2_with fail
                            refine (HE1.out _ HT2.out).mono ?_
                            rintro e w3 ⟨v3, rfl, hf, hb3⟩
                            have hfs := hf.1
                            obtain ⟨Av3, cv3, rfl, _⟩ := id hfs
                            have HT3 := Lib.hid (HCC.out _ _ HT2.out hb3)
                            have HV3 := Lib.hid hfs
                            clear hb3 hf hfs x0 x1 x2 x3 x4 x5 x6 x7 x8 x9 x10 x11 x12 x13 x14 x15 x16 x17
                            obtain ⟨x0, x1, x2, x3, x4, x5, x6, x7, x8, x9, x10, x11, x12, x13, x14, x15, x16, x17⟩ := HS.out _ HT3.out
                            go_wp2_with fail
                            refine (HE2.out _ HT3.out).mono ?_
                            rintro e w4 ⟨v4, rfl, hf, hb4⟩
                            have hfs := hf.1
                            obtain ⟨Av4, cv4, rfl, _⟩ := id hfs
                            have HT4 := Lib.hid (HCC.out _ _ HT3.out hb4)
                            have HV3 := Lib.hid (HV3.out.on hb4)
                            have HV4 := Lib.hid hfs
                            clear hb4 hf hfs x0 x1 x2 x3 x4 x5 x6 x7 x8 x9 x10 x11 x12 x13 x14 x15 x16 x17
                            obtain ⟨x0, x1, x2, x3, x4, x5, x6, x7, x8, x9, x10, x11, x12, x13, x14, x15, x16, x17⟩ := HS.out _ HT4.out
                            go_wp2_with fail
                            refine (HNS.out _ HT4.out).mono ?_
                            rintro e w5 ⟨rfl, hb5⟩
                            have HT5 := Lib.hid (HCC.out _ _ HT4.out hb5)
                            have HBX5 := Lib.hid hb5
                            clear hb5
                            clear x0 x1 x2 x3 x4 x5 x6 x7 x8 x9 x10 x11 x12 x13 x14 x15 x16 x17
                            obtain ⟨x0, x1, x2, x3, x4, x5, x6, x7, x8, x9, x10, x11, x12, x13, x14, x15, x16, x17⟩ := HS.out _ HT5.out
                            go_wp2_with fail
                            refine (HRS.out _ HT5.out).mono ?_
                            rintro e w6 ⟨rfl, hb6⟩
                            have HT6 := Lib.hid (HCC.out _ _ HT5.out hb6)
                            have HBX6 := Lib.hid hb6
                            clear hb6
                            clear x0 x1 x2 x3 x4 x5 x6 x7 x8 x9 x10 x11 x12 x13 x14 x15 x16 x17
                            obtain ⟨x0, x1, x2, x3, x4, x5, x6, x7, x8, x9, x10, x11, x12, x13, x14, x15, x16, x17⟩ := HS.out _ HT6.out
                            have HVX : Hid (SL w6 w6.heap.size (.slice Av3 M1.length cv3) M1) := (HV3.out.on HBX5.out).on HBX6.out
                            have HVY : Hid (SL w6 w6.heap.size (.slice Av4 M2.length cv4) M2) := (HV4.out.on HBX5.out).on HBX6.out
                            have HXY : Hid (Calls Tryd.prog 16 #[.slice Av3 M1.length cv3, .slice Av4 M2.length cv4] w6 fun e w' => e = .returned (.bool (false)) ∧ Below w6.heap.size w6 w') := by
                              have h := rsame1_any M1 M2 _ _ w6 (HVX.out) (HVY.out)
                              rw [HD.out] at h
                              exact h
                            go_wp2_with fail
                            refine HXY.out.mono ?_
                            rintro e w7 ⟨rfl, hb7⟩
                            have HT7 := Lib.hid (HCC.out _ _ HT6.out hb7)
                            clear hb7 HXY
                            go_wp2_with fail
                            refine (HA.out _ HT7.out).mono ?_
                            rintro e w8 ⟨rfl, hb8⟩
                            have HT8 := Lib.hid (HCC.out _ _ HT7.out hb8)
                            clear hb8
                            go_wp2_with fail
                            go_ret
                            exact ⟨rfl, HB.out.trans (HT8.out.mono (by omega))⟩
                          · skip
                            go_enter Tryd.func9, Tryd.ntmps9
                            go_wp2_with fail
                            refine (HF1.out _ HT0.out).mono ?_
                            rintro e w1 ⟨rfl, hb1⟩
                            have HT1 := Lib.hid (HCC.out _ _ HT0.out hb1)
                            clear hb1
                            obtain ⟨x0, x1, x2, x3, x4, x5, x6, x7, x8, x9, x10, x11, x12, x13, x14, x15, x16, x17⟩ := HS.out _ HT1.out
                            go_wp2_with fail
                            refine (HF2.out _ HT1.out).mono ?_
                            rintro e w2 ⟨rfl, hb2⟩
                            have HT2 := Lib.hid (HCC.out _ _ HT1.out hb2)
                            clear hb2
                            clear x0 x1 x2 x3 x4 x5 x6 x7 x8 x9 x10 x11 x12 x13 x14 x15 x16 x17
                            obtain ⟨x0, x1, x2, x3, x4, x5, x6, x7, x8, x9, x10, x11, x12, x13, x14, x15, x16, x17⟩ := HS.out _ HT2.out
                            go_wp2_with fail
                            refine (HE1.out _ HT2.out).mono ?_
                            rintro e w3 ⟨v3, rfl, hf, hb3⟩
                            have hfs := hf.1
                            obtain ⟨Av3, cv3, rfl, _⟩ := id hfs
                            have HT3 := Lib.hid (HCC.out _ _ HT2.out hb3)
                            have HV3 := Lib.hid hfs
                            clear hb3 hf hfs x0 x1 x2 x3 x4 x5 x6 x7 x8 x9 x10 x11 x12 x13 x14 x15 x16 x17
                            obtain ⟨x0, x1, x2, x3, x4, x5, x6, x7, x8, x9, x10, x11, x12, x13, x14, x15, x16, x17⟩ := HS.out _ HT3.out
                            go_wp2_with fail
                            refine (HE2.out _ HT3.out).mono ?_
                            rintro e w4 ⟨v4, rfl, hf, hb4⟩
                            have hfs := hf.1
                            obtain ⟨Av4, cv4, rfl, _⟩ := id hfs
                            have HT4 := Lib.hid (HCC.out _ _ HT3.out hb4)
                            have HV3 := Lib.hid (HV3.out.on hb4)
                            have HV4 := Lib.hid hfs
                            clear hb4 hf hfs x0 x1 x2 x3 x4 x5 x6 x7 x8 x9 x10 x11 x12 x13 x14 x15 x16 x17
                            obtain ⟨x0, x1, x2, x3, x4, x5, x6, x7, x8, x9, x10, x11, x12, x13, x14, x15, x16, x17⟩ := HS.out _ HT4.out
                            go_wp2_with fail
                            refine (HNS.out _ HT4.out).mono ?_
                            rintro e w5 ⟨rfl, hb5⟩
                            have HT5 := Lib.hid (HCC.out _ _ HT4.out hb5)
                            have HBX5 := Lib.hid hb5
                            clear hb5
                            clear x0 x1 x2 x3 x4 x5 x6 x7 x8 x9 x10 x11 x12 x13 x14 x15 x16 x17
                            obtain ⟨x0, x1, x2, x3, x4, x5, x6, x7, x8, x9, x10, x11, x12, x13, x14, x15, x16, x17⟩ := HS.out _ HT5.out
                            go_wp2_with fail
                            refine (HRS.out _ HT5.out).mono ?_
                            rintro e w6 ⟨rfl, hb6⟩
                            have HT6 := Lib.hid (HCC.out _ _ HT5.out hb6)
                            have HBX6 := Lib.hid hb6
                            clear hb6
                            clear x0 x1 x2 x3 x4 x5 x6 x7 x8 x9 x10 x11 x12 x13 x14 x15 x16 x17
                            obtain ⟨x0, x1, x2, x3, x4, x5, x6, x7, x8, x9, x10, x11, x12, x13, x14, x15, x16, x17⟩ := HS.out _ HT6.out
                            have HVX : Hid (SL w6 w6.heap.size (.slice Av3 M1.length cv3) M1) := (HV3.out.on HBX5.out).on HBX6.out
                            have HVY : Hid (SL w6 w6.heap.size (.slice Av4 M2.length cv4) M2) := (HV4.out.on HBX5.out).on HBX6.out
                            have HXY : Hid (Calls Tryd.prog 16 #[.slice Av3 M1.length cv3, .slice Av4 M2.length cv4] w6 fun e w' => e = .returned (.bool (true)) ∧ Below w6.heap.size w6 w') := by
                              have h := rsame1_any M1 M2 _ _ w6 (HVX.out) (HVY.out)
                              rw [HD.out] at h
                              exact h
                            go_wp2_with fail
                            refine HXY.out.mono ?_
                            rintro e w7 ⟨rfl, hb7⟩
                            have HT7 := Lib.hid (HCC.out _ _ HT6.out hb7)
                            clear hb7 HXY
                            go_wp2_with fail
                            refine (HA.out _ HT7.out).mono ?_
                            rintro e w8 ⟨rfl, hb8⟩
                            have HT8 := Lib.hid (HCC.out _ _ HT7.out hb8)
                            clear hb8
                            go_wp2_with fail
                            go_ret
                            exact ⟨rfl, HB.out.trans (HT8.out.mono (by omega))⟩
                      · have HD : Hid (decide (M1 = M2) = false) := decide_eq_false fun h => e_state (HKI2.out.1 h).1.2.2.2.2.2.2
                        clear HKI2 HNQ HNS HRS
                        have y1 : (fstate == gstate) = false := beq_eq_false_iff_ne.2 e_state
                        have y2 : decide (fstate = gstate) = false := decide_eq_false e_state
                        go_enter Tryd.func9, Tryd.ntmps9
                        go_wp2_with fail
                        refine (HF1.out _ HT0.out).mono ?_
                        rintro e w1 ⟨rfl, hb1⟩
                        have HT1 := Lib.hid (HCC.out _ _ HT0.out hb1)
                        clear hb1
                        obtain ⟨x0, x1, x2, x3, x4, x5, x6, x7, x8, x9, x10, x11, x12, x13, x14, x15, x16, x17⟩ := HS.out _ HT1.out
                        go_wp2_with fail
                        refine (HF2.out _ HT1.out).mono ?_
                        rintro e w2 ⟨rfl, hb2⟩
                        have HT2 := Lib.hid (HCC.out _ _ HT1.out hb2)
                        clear hb2
                        clear x0 x1 x2 x3 x4 x5 x6 x7 x8 x9 x10 x11 x12 x13 x14 x15 x16 x17
                        obtain ⟨x0, x1, x2, x3, x4, x5, x6, x7, x8, x9, x10, x11, x12, x13, x14, x15, x16, x17⟩ := HS.out _ HT2.out
                        go_wp2_with fail
                        refine (HE1.out _ HT2.out).mono ?_
                        rintro e w3 ⟨v3, rfl, hf, hb3⟩
                        have hfs := hf.1
                        obtain ⟨Av3, cv3, rfl, _⟩ := id hfs
                        have HT3 := Lib.hid (HCC.out _ _ HT2.out hb3)
                        have HV3 := Lib.hid hfs
                        clear hb3 hf hfs x0 x1 x2 x3 x4 x5 x6 x7 x8 x9 x10 x11 x12 x13 x14 x15 x16 x17
                        obtain ⟨x0, x1, x2, x3, x4, x5, x6, x7, x8, x9, x10, x11, x12, x13, x14, x15, x16, x17⟩ := HS.out _ HT3.out
                        go_wp2_with fail
                        refine (HE2.out _ HT3.out).mono ?_
                        rintro e w4 ⟨v4, rfl, hf, hb4⟩
                        have hfs := hf.1
                        obtain ⟨Av4, cv4, rfl, _⟩ := id hfs
                        have HT4 := Lib.hid (HCC.out _ _ HT3.out hb4)
                        have HV3 := Lib.hid (HV3.out.on hb4)
                        have HV4 := Lib.hid hfs
                        clear hb4 hf hfs x0 x1 x2 x3 x4 x5 x6 x7 x8 x9 x10 x11 x12 x13 x14 x15 x16 x17
                        obtain ⟨x0, x1, x2, x3, x4, x5, x6, x7, x8, x9, x10, x11, x12, x13, x14, x15, x16, x17⟩ := HS.out _ HT4.out
                        have HVX := HV3
                        have HVY := HV4
                        have HXY : Hid (Calls Tryd.prog 16 #[.slice Av3 M1.length cv3, .slice Av4 M2.length cv4] w4 fun e w' => e = .returned (.bool (false)) ∧ Below w4.heap.size w4 w') := by
                          have h := rsame1_any M1 M2 _ _ w4 (HVX.out) (HVY.out)
                          rw [HD.out] at h
                          exact h
                        go_wp2_with fail
                        refine HXY.out.mono ?_
                        rintro e w5 ⟨rfl, hb5⟩
                        have HT5 := Lib.hid (HCC.out _ _ HT4.out hb5)
                        have HBX5 := Lib.hid hb5
                        clear hb5 HXY
                        go_wp2_with fail
                        refine (HA.out _ HT5.out).mono ?_
                        rintro e w6 ⟨rfl, hb6⟩
                        have HT6 := Lib.hid (HCC.out _ _ HT5.out hb6)
                        have HBX6 := Lib.hid hb6
                        clear hb6
                        go_wp2_with fail
                        go_ret
                        exact ⟨rfl, HB.out.trans (HT6.out.mono (by omega))⟩
                    · have HD : Hid (decide (M1 = M2) = false) := decide_eq_false fun h => e_recs (HKI2.out.1 h).1.2.2.2.2.2.1
                      clear HKI2 HNQ HNS HRS
                      have y1 : (frecs == grecs) = false := beq_eq_false_iff_ne.2 e_recs
                      have y2 : decide (frecs = grecs) = false := decide_eq_false e_recs
                      go_enter Tryd.func9, Tryd.ntmps9
                      go_wp2_with fail
                      refine (HF1.out _ HT0.out).mono ?_
                      rintro e w1 ⟨rfl, hb1⟩
                      have HT1 := Lib.hid (HCC.out _ _ HT0.out hb1)
                      clear hb1
                      obtain ⟨x0, x1, x2, x3, x4, x5, x6, x7, x8, x9, x10, x11, x12, x13, x14, x15, x16, x17⟩ := HS.out _ HT1.out
                      go_wp2_with fail
                      refine (HF2.out _ HT1.out).mono ?_
                      rintro e w2 ⟨rfl, hb2⟩
                      have HT2 := Lib.hid (HCC.out _ _ HT1.out hb2)
                      clear hb2
                      clear x0 x1 x2 x3 x4 x5 x6 x7 x8 x9 x10 x11 x12 x13 x14 x15 x16 x17
                      obtain ⟨x0, x1, x2, x3, x4, x5, x6, x7, x8, x9, x10, x11, x12, x13, x14, x15, x16, x17⟩ := HS.out _ HT2.out
                      go_wp2_with fail
                      refine (HE1.out _ HT2.out).mono ?_
                      rintro e w3 ⟨v3, rfl, hf, hb3⟩
                      have hfs := hf.1
                      obtain ⟨Av3, cv3, rfl, _⟩ := id hfs
                      have HT3 := Lib.hid (HCC.out _ _ HT2.out hb3)
                      have HV3 := Lib.hid hfs
                      clear hb3 hf hfs x0 x1 x2 x3 x4 x5 x6 x7 x8 x9 x10 x11 x12 x13 x14 x15 x16 x17
                      obtain ⟨x0, x1, x2, x3, x4, x5, x6, x7, x8, x9, x10, x11, x12, x13, x14, x15, x16, x17⟩ := HS.out _ HT3.out
                      go_wp2_with fail
                      refine (HE2.out _ HT3.out).mono ?_
                      rintro e w4 ⟨v4, rfl, hf, hb4⟩
                      have hfs := hf.1
                      obtain ⟨Av4, cv4, rfl, _⟩ := id hfs
                      have HT4 := Lib.hid (HCC.out _ _ HT3.out hb4)
                      have HV3 := Lib.hid (HV3.out.on hb4)
                      have HV4 := Lib.hid hfs
                      clear hb4 hf hfs x0 x1 x2 x3 x4 x5 x6 x7 x8 x9 x10 x11 x12 x13 x14 x15 x16 x17
                      obtain ⟨x0, x1, x2, x3, x4, x5, x6, x7, x8, x9, x10, x11, x12, x13, x14, x15, x16, x17⟩ := HS.out _ HT4.out
                      have HVX := HV3
                      have HVY := HV4
                      have HXY : Hid (Calls Tryd.prog 16 #[.slice Av3 M1.length cv3, .slice Av4 M2.length cv4] w4 fun e w' => e = .returned (.bool (false)) ∧ Below w4.heap.size w4 w') := by
                        have h := rsame1_any M1 M2 _ _ w4 (HVX.out) (HVY.out)
                        rw [HD.out] at h
                        exact h
                      go_wp2_with fail
                      refine HXY.out.mono ?_
                      rintro e w5 ⟨rfl, hb5⟩
                      have HT5 := Lib.hid (HCC.out _ _ HT4.out hb5)
                      have HBX5 := Lib.hid hb5
                      clear hb5 HXY
                      go_wp2_with fail
                      refine (HA.out _ HT5.out).mono ?_
                      rintro e w6 ⟨rfl, hb6⟩
                      have HT6 := Lib.hid (HCC.out _ _ HT5.out hb6)
                      have HBX6 := Lib.hid hb6
                      clear hb6
                      go_wp2_with fail
                      go_ret
                      exact ⟨rfl, HB.out.trans (HT6.out.mono (by omega))⟩
                  · have HD : Hid (decide (M1 = M2) = false) := decide_eq_false fun h => e_len (HKI2.out.1 h).1.2.2.2.2.1
                    clear HKI2 HNQ HNS HRS
                    have y1 : (flen == glen) = false := beq_eq_false_iff_ne.2 e_len
                    have y2 : decide (flen = glen) = false := decide_eq_false e_len
                    go_enter Tryd.func9, Tryd.ntmps9
                    go_wp2_with fail
                    refine (HF1.out _ HT0.out).mono ?_
                    rintro e w1 ⟨rfl, hb1⟩
                    have HT1 := Lib.hid (HCC.out _ _ HT0.out hb1)
                    clear hb1
                    obtain ⟨x0, x1, x2, x3, x4, x5, x6, x7, x8, x9, x10, x11, x12, x13, x14, x15, x16, x17⟩ := HS.out _ HT1.out
                    go_wp2_with fail
                    refine (HF2.out _ HT1.out).mono ?_
                    rintro e w2 ⟨rfl, hb2⟩
                    have HT2 := Lib.hid (HCC.out _ _ HT1.out hb2)
                    clear hb2
                    clear x0 x1 x2 x3 x4 x5 x6 x7 x8 x9 x10 x11 x12 x13 x14 x15 x16 x17
                    obtain ⟨x0, x1, x2, x3, x4, x5, x6, x7, x8, x9, x10, x11, x12, x13, x14, x15, x16, x17⟩ := HS.out _ HT2.out
                    go_wp2_with fail
                    refine (HE1.out _ HT2.out).mono ?_
                    rintro e w3 ⟨v3, rfl, hf, hb3⟩
                    have hfs := hf.1
                    obtain ⟨Av3, cv3, rfl, _⟩ := id hfs
                    have HT3 := Lib.hid (HCC.out _ _ HT2.out hb3)
                    have HV3 := Lib.hid hfs
                    clear hb3 hf hfs x0 x1 x2 x3 x4 x5 x6 x7 x8 x9 x10 x11 x12 x13 x14 x15 x16 x17
                    obtain ⟨x0, x1, x2, x3, x4, x5, x6, x7, x8, x9, x10, x11, x12, x13, x14, x15, x16, x17⟩ := HS.out _ HT3.out
                    go_wp2_with fail
                    refine (HE2.out _ HT3.out).mono ?_
                    rintro e w4 ⟨v4, rfl, hf, hb4⟩
                    have hfs := hf.1
                    obtain ⟨Av4, cv4, rfl, _⟩ := id hfs
                    have HT4 := Lib.hid (HCC.out _ _ HT3.out hb4)
                    have HV3 := Lib.hid (HV3.out.on hb4)
                    have HV4 := Lib.hid hfs
                    clear hb4 hf hfs x0 x1 x2 x3 x4 x5 x6 x7 x8 x9 x10 x11 x12 x13 x14 x15 x16 x17
                    obtain ⟨x0, x1, x2, x3, x4, x5, x6, x7, x8, x9, x10, x11, x12, x13, x14, x15, x16, x17⟩ := HS.out _ HT4.out
                    have HVX := HV3
                    have HVY := HV4
                    have HXY : Hid (Calls Tryd.prog 16 #[.slice Av3 M1.length cv3, .slice Av4 M2.length cv4] w4 fun e w' => e = .returned (.bool (false)) ∧ Below w4.heap.size w4 w') := by
                      have h := rsame1_any M1 M2 _ _ w4 (HVX.out) (HVY.out)
                      rw [HD.out] at h
                      exact h
                    go_wp2_with fail
                    refine HXY.out.mono ?_
                    rintro e w5 ⟨rfl, hb5⟩
                    have HT5 := Lib.hid (HCC.out _ _ HT4.out hb5)
                    have HBX5 := Lib.hid hb5
                    clear hb5 HXY
                    go_wp2_with fail
                    refine (HA.out _ HT5.out).mono ?_
                    rintro e w6 ⟨rfl, hb6⟩
                    have HT6 := Lib.hid (HCC.out _ _ HT5.out hb6)
                    have HBX6 := Lib.hid hb6
                    clear hb6
                    go_wp2_with fail
                    go_ret
                    exact ⟨rfl, HB.out.trans (HT6.out.mono (by omega))⟩
                · have HD : Hid (decide (M1 = M2) = false) := decide_eq_false fun h => e_size (HKI2.out.1 h).1.2.2.2.1
                  clear HKI2 HNQ HNS HRS
                  have y1 : (fsize == gsize) = false := beq_eq_false_iff_ne.2 e_size
                  have y2 : decide (fsize = gsize) = false := decide_eq_false e_size
                  go_enter Tryd.func9, Tryd.ntmps9
                  go_wp2_with fail
                  refine (HF1.out _ HT0.out).mono ?_
                  rintro e w1 ⟨rfl, hb1⟩
                  have HT1 := Lib.hid (HCC.out _ _ HT0.out hb1)
                  clear hb1
                  obtain ⟨x0, x1, x2, x3, x4, x5, x6, x7, x8, x9, x10, x11, x12, x13, x14, x15, x16, x17⟩ := HS.out _ HT1.out
                  go_wp2_with fail
                  refine (HF2.out _ HT1.out).mono ?_
                  rintro e w2 ⟨rfl, hb2⟩
                  have HT2 := Lib.hid (HCC.out _ _ HT1.out hb2)
                  clear hb2
                  clear x0 x1 x2 x3 x4 x5 x6 x7 x8 x9 x10 x11 x12 x13 x14 x15 x16 x17
                  obtain ⟨x0, x1, x2, x3, x4, x5, x6, x7, x8, x9, x10, x11, x12, x13, x14, x15, x16, x17⟩ := HS.out _ HT2.out
                  go_wp2_with fail
                  refine (HE1.out _ HT2.out).mono ?_
                  rintro e w3 ⟨v3, rfl, hf, hb3⟩
                  have hfs := hf.1
                  obtain ⟨Av3, cv3, rfl, _⟩ := id hfs
                  have HT3 := Lib.hid (HCC.out _ _ HT2.out hb3)
                  have HV3 := Lib.hid hfs
                  clear hb3 hf hfs x0 x1 x2 x3 x4 x5 x6 x7 x8 x9 x10 x11 x12 x13 x14 x15 x16 x17
                  obtain ⟨x0, x1, x2, x3, x4, x5, x6, x7, x8, x9, x10, x11, x12, x13, x14, x15, x16, x17⟩ := HS.out _ HT3.out
                  go_wp2_with fail
                  refine (HE2.out _ HT3.out).mono ?_
                  rintro e w4 ⟨v4, rfl, hf, hb4⟩
                  have hfs := hf.1
                  obtain ⟨Av4, cv4, rfl, _⟩ := id hfs
                  have HT4 := Lib.hid (HCC.out _ _ HT3.out hb4)
                  have HV3 := Lib.hid (HV3.out.on hb4)
                  have HV4 := Lib.hid hfs
                  clear hb4 hf hfs x0 x1 x2 x3 x4 x5 x6 x7 x8 x9 x10 x11 x12 x13 x14 x15 x16 x17
                  obtain ⟨x0, x1, x2, x3, x4, x5, x6, x7, x8, x9, x10, x11, x12, x13, x14, x15, x16, x17⟩ := HS.out _ HT4.out
                  have HVX := HV3
                  have HVY := HV4
                  have HXY : Hid (Calls Tryd.prog 16 #[.slice Av3 M1.length cv3, .slice Av4 M2.length cv4] w4 fun e w' => e = .returned (.bool (false)) ∧ Below w4.heap.size w4 w') := by
                    have h := rsame1_any M1 M2 _ _ w4 (HVX.out) (HVY.out)
                    rw [HD.out] at h
                    exact h
                  go_wp2_with fail
                  refine HXY.out.mono ?_
                  rintro e w5 ⟨rfl, hb5⟩
                  have HT5 := Lib.hid (HCC.out _ _ HT4.out hb5)
                  have HBX5 := Lib.hid hb5
                  clear hb5 HXY
                  go_wp2_with fail
                  refine (HA.out _ HT5.out).mono ?_
                  rintro e w6 ⟨rfl, hb6⟩
                  have HT6 := Lib.hid (HCC.out _ _ HT5.out hb6)
                  have HBX6 := Lib.hid hb6
                  clear hb6
                  go_wp2_with fail
                  go_ret
                  exact ⟨rfl, HB.out.trans (HT6.out.mono (by omega))⟩
              · have HD : Hid (decide (M1 = M2) = false) := decide_eq_false fun h => e_short (HKI2.out.1 h).1.2.2.1
                clear HKI2 HNQ HNS HRS
                have y1 : (fshort == gshort) = false := beq_eq_false_iff_ne.2 e_short
                have y2 : decide (fshort = gshort) = false := decide_eq_false e_short
                go_enter Tryd.func9, Tryd.ntmps9
                go_wp2_with fail
                refine (HF1.out _ HT0.out).mono ?_
                rintro e w1 ⟨rfl, hb1⟩
                have HT1 := Lib.hid (HCC.out _ _ HT0.out hb1)
                clear hb1
                obtain ⟨x0, x1, x2, x3, x4, x5, x6, x7, x8, x9, x10, x11, x12, x13, x14, x15, x16, x17⟩ := HS.out _ HT1.out
                go_wp2_with fail
                refine (HF2.out _ HT1.out).mono ?_
                rintro e w2 ⟨rfl, hb2⟩
                have HT2 := Lib.hid (HCC.out _ _ HT1.out hb2)
                clear hb2
                clear x0 x1 x2 x3 x4 x5 x6 x7 x8 x9 x10 x11 x12 x13 x14 x15 x16 x17
                obtain ⟨x0, x1, x2, x3, x4, x5, x6, x7, x8, x9, x10, x11, x12, x13, x14, x15, x16, x17⟩ := HS.out _ HT2.out
                go_wp2_with fail
                refine (HE1.out _ HT2.out).mono ?_
                rintro e w3 ⟨v3, rfl, hf, hb3⟩
                have hfs := hf.1
                obtain ⟨Av3, cv3, rfl, _⟩ := id hfs
                have HT3 := Lib.hid (HCC.out _ _ HT2.out hb3)
                have HV3 := Lib.hid hfs
                clear hb3 hf hfs x0 x1 x2 x3 x4 x5 x6 x7 x8 x9 x10 x11 x12 x13 x14 x15 x16 x17
                obtain ⟨x0, x1, x2, x3, x4, x5, x6, x7, x8, x9, x10, x11, x12, x13, x14, x15, x16, x17⟩ := HS.out _ HT3.out
                go_wp2_with fail
                refine (HE2.out _ HT3.out).mono ?_
                rintro e w4 ⟨v4, rfl, hf, hb4⟩
                have hfs := hf.1
                obtain ⟨Av4, cv4, rfl, _⟩ := id hfs
                have HT4 := Lib.hid (HCC.out _ _ HT3.out hb4)
                have HV3 := Lib.hid (HV3.out.on hb4)
                have HV4 := Lib.hid hfs
                clear hb4 hf hfs x0 x1 x2 x3 x4 x5 x6 x7 x8 x9 x10 x11 x12 x13 x14 x15 x16 x17
                obtain ⟨x0, x1, x2, x3, x4, x5, x6, x7, x8, x9, x10, x11, x12, x13, x14, x15, x16, x17⟩ := HS.out _ HT4.out
                have HVX := HV3
                have HVY := HV4
                have HXY : Hid (Calls Tryd.prog 16 #[.slice Av3 M1.length cv3, .slice Av4 M2.length cv4] w4 fun e w' => e = .returned (.bool (false)) ∧ Below w4.heap.size w4 w') := by
                  have h := rsame1_any M1 M2 _ _ w4 (HVX.out) (HVY.out)
                  rw [HD.out] at h
                  exact h
                go_wp2_with fail
                refine HXY.out.mono ?_
                rintro e w5 ⟨rfl, hb5⟩
                have HT5 := Lib.hid (HCC.out _ _ HT4.out hb5)
                have HBX5 := Lib.hid hb5
                clear hb5 HXY
                go_wp2_with fail
                refine (HA.out _ HT5.out).mono ?_
                rintro e w6 ⟨rfl, hb6⟩
                have HT6 := Lib.hid (HCC.out _ _ HT5.out hb6)
                have HBX6 := Lib.hid hb6
                clear hb6
                go_wp2_with fail
                go_ret
                exact ⟨rfl, HB.out.trans (HT6.out.mono (by omega))⟩
            · have HD : Hid (decide (M1 = M2) = false) := decide_eq_false fun h => e_kind (HKI2.out.1 h).1.2.1
              clear HKI2 HNQ HNS HRS
              have y1 : (fkind == gkind) = false := beq_eq_false_iff_ne.2 e_kind
              have y2 : decide (fkind = gkind) = false := decide_eq_false e_kind
              go_enter Tryd.func9, Tryd.ntmps9
              go_wp2_with fail
              refine (HF1.out _ HT0.out).mono ?_
              rintro e w1 ⟨rfl, hb1⟩
              have HT1 := Lib.hid (HCC.out _ _ HT0.out hb1)
              clear hb1
              obtain ⟨x0, x1, x2, x3, x4, x5, x6, x7, x8, x9, x10, x11, x12, x13, x14, x15, x16, x17⟩ := HS.out _ HT1.out
              go_wp2_with fail
              refine (HF2.out _ HT1.out).mono ?_
              rintro e w2 ⟨rfl, hb2⟩
              have HT2 := Lib.hid (HCC.out _ _ HT1.out hb2)
              clear hb2
              clear x0 x1 x2 x3 x4 x5 x6 x7 x8 x9 x10 x11 x12 x13 x14 x15 x16 x17
              obtain ⟨x0, x1, x2, x3, x4, x5, x6, x7, x8, x9, x10, x11, x12, x13, x14, x15, x16, x17⟩ := HS.out _ HT2.out
              go_wp2_with fail
              refine (HE1.out _ HT2.out).mono ?_
              rintro e w3 ⟨v3, rfl, hf, hb3⟩
              have hfs := hf.1
              obtain ⟨Av3, cv3, rfl, _⟩ := id hfs
              have HT3 := Lib.hid (HCC.out _ _ HT2.out hb3)
              have HV3 := Lib.hid hfs
              clear hb3 hf hfs x0 x1 x2 x3 x4 x5 x6 x7 x8 x9 x10 x11 x12 x13 x14 x15 x16 x17
              obtain ⟨x0, x1, x2, x3, x4, x5, x6, x7, x8, x9, x10, x11, x12, x13, x14, x15, x16, x17⟩ := HS.out _ HT3.out
              go_wp2_with fail
              refine (HE2.out _ HT3.out).mono ?_
              rintro e w4 ⟨v4, rfl, hf, hb4⟩
              have hfs := hf.1
              obtain ⟨Av4, cv4, rfl, _⟩ := id hfs
              have HT4 := Lib.hid (HCC.out _ _ HT3.out hb4)
              have HV3 := Lib.hid (HV3.out.on hb4)
              have HV4 := Lib.hid hfs
              clear hb4 hf hfs x0 x1 x2 x3 x4 x5 x6 x7 x8 x9 x10 x11 x12 x13 x14 x15 x16 x17
              obtain ⟨x0, x1, x2, x3, x4, x5, x6, x7, x8, x9, x10, x11, x12, x13, x14, x15, x16, x17⟩ := HS.out _ HT4.out
              have HVX := HV3
              have HVY := HV4
              have HXY : Hid (Calls Tryd.prog 16 #[.slice Av3 M1.length cv3, .slice Av4 M2.length cv4] w4 fun e w' => e = .returned (.bool (false)) ∧ Below w4.heap.size w4 w') := by
                have h := rsame1_any M1 M2 _ _ w4 (HVX.out) (HVY.out)
                rw [HD.out] at h
                exact h
              go_wp2_with fail
              refine HXY.out.mono ?_
              rintro e w5 ⟨rfl, hb5⟩
              have HT5 := Lib.hid (HCC.out _ _ HT4.out hb5)
              have HBX5 := Lib.hid hb5
              clear hb5 HXY
              go_wp2_with fail
              refine (HA.out _ HT5.out).mono ?_
              rintro e w6 ⟨rfl, hb6⟩
              have HT6 := Lib.hid (HCC.out _ _ HT5.out hb6)
              have HBX6 := Lib.hid hb6
              clear hb6
              go_wp2_with fail
              go_ret
              exact ⟨rfl, HB.out.trans (HT6.out.mono (by omega))⟩
          · have HD : Hid (decide (M1 = M2) = false) := decide_eq_false fun h => e_id (HKI2.out.1 h).1.1
            clear HKI2 HNQ HNS HRS
            have y1 : (fid == gid) = false := beq_eq_false_iff_ne.2 e_id
            have y2 : decide (fid = gid) = false := decide_eq_false e_id
            go_enter Tryd.func9, Tryd.ntmps9
            go_wp2_with fail
            refine (HF1.out _ HT0.out).mono ?_
            rintro e w1 ⟨rfl, hb1⟩
            have HT1 := Lib.hid (HCC.out _ _ HT0.out hb1)
            clear hb1
            obtain ⟨x0, x1, x2, x3, x4, x5, x6, x7, x8, x9, x10, x11, x12, x13, x14, x15, x16, x17⟩ := HS.out _ HT1.out
            go_wp2_with fail
            refine (HF2.out _ HT1.out).mono ?_
            rintro e w2 ⟨rfl, hb2⟩
            have HT2 := Lib.hid (HCC.out _ _ HT1.out hb2)
            clear hb2
            clear x0 x1 x2 x3 x4 x5 x6 x7 x8 x9 x10 x11 x12 x13 x14 x15 x16 x17
            obtain ⟨x0, x1, x2, x3, x4, x5, x6, x7, x8, x9, x10, x11, x12, x13, x14, x15, x16, x17⟩ := HS.out _ HT2.out
            go_wp2_with fail
            refine (HE1.out _ HT2.out).mono ?_
            rintro e w3 ⟨v3, rfl, hf, hb3⟩
            have hfs := hf.1
            obtain ⟨Av3, cv3, rfl, _⟩ := id hfs
            have HT3 := Lib.hid (HCC.out _ _ HT2.out hb3)
            have HV3 := Lib.hid hfs
            clear hb3 hf hfs x0 x1 x2 x3 x4 x5 x6 x7 x8 x9 x10 x11 x12 x13 x14 x15 x16 x17
            obtain ⟨x0, x1, x2, x3, x4, x5, x6, x7, x8, x9, x10, x11, x12, x13, x14, x15, x16, x17⟩ := HS.out _ HT3.out
            go_wp2_with fail
            refine (HE2.out _ HT3.out).mono ?_
            rintro e w4 ⟨v4, rfl, hf, hb4⟩
            have hfs := hf.1
            obtain ⟨Av4, cv4, rfl, _⟩ := id hfs
            have HT4 := Lib.hid (HCC.out _ _ HT3.out hb4)
            have HV3 := Lib.hid (HV3.out.on hb4)
            have HV4 := Lib.hid hfs
            clear hb4 hf hfs x0 x1 x2 x3 x4 x5 x6 x7 x8 x9 x10 x11 x12 x13 x14 x15 x16 x17
            obtain ⟨x0, x1, x2, x3, x4, x5, x6, x7, x8, x9, x10, x11, x12, x13, x14, x15, x16, x17⟩ := HS.out _ HT4.out
            have HVX := HV3
            have HVY := HV4
            have HXY : Hid (Calls Tryd.prog 16 #[.slice Av3 M1.length cv3, .slice Av4 M2.length cv4] w4 fun e w' => e = .returned (.bool (false)) ∧ Below w4.heap.size w4 w') := by
              have h := rsame1_any M1 M2 _ _ w4 (HVX.out) (HVY.out)
              rw [HD.out] at h
              exact h
            go_wp2_with fail
            refine HXY.out.mono ?_
            rintro e w5 ⟨rfl, hb5⟩
            have HT5 := Lib.hid (HCC.out _ _ HT4.out hb5)
            have HBX5 := Lib.hid hb5
            clear hb5 HXY
            go_wp2_with fail
            refine (HA.out _ HT5.out).mono ?_
            rintro e w6 ⟨rfl, hb6⟩
            have HT6 := Lib.hid (HCC.out _ _ HT5.out hb6)
            have HBX6 := Lib.hid hb6
            clear hb6
            go_wp2_with fail
            go_ret
            exact ⟨rfl, HB.out.trans (HT6.out.mono (by omega))⟩
        · skip
          have q1 : (E2 == 0) = false := by simpa using z2
          have q2 : (E2 != 0) = true := by simpa using z2
          have q3 : decide (E2 = 0) = false := decide_eq_false z2
          go_enter Tryd.func9, Tryd.ntmps9
          go_wp2_with fail
          refine (HF1.out _ HT0.out).mono ?_
          rintro e w1 ⟨rfl, hb1⟩
          have HT1 := Lib.hid (HCC.out _ _ HT0.out hb1)
          clear hb1
          obtain ⟨x0, x1, x2, x3, x4, x5, x6, x7, x8, x9, x10, x11, x12, x13, x14, x15, x16, x17⟩ := HS.out _ HT1.out
          go_wp2_with fail
          refine (HF2.out _ HT1.out).mono ?_
          rintro e w2 ⟨rfl, hb2⟩
          have HT2 := Lib.hid (HCC.out _ _ HT1.out hb2)
          clear hb2
          clear x0 x1 x2 x3 x4 x5 x6 x7 x8 x9 x10 x11 x12 x13 x14 x15 x16 x17
          obtain ⟨x0, x1, x2, x3, x4, x5, x6, x7, x8, x9, x10, x11, x12, x13, x14, x15, x16, x17⟩ := HS.out _ HT2.out
          go_wp2_with fail
          refine (HE1.out _ HT2.out).mono ?_
          rintro e w3 ⟨v3, rfl, hf, hb3⟩
          have hfs := hf.1
          obtain ⟨Av3, cv3, rfl, _⟩ := id hfs
          have HT3 := Lib.hid (HCC.out _ _ HT2.out hb3)
          have HV3 := Lib.hid hfs
          clear hb3 hf hfs x0 x1 x2 x3 x4 x5 x6 x7 x8 x9 x10 x11 x12 x13 x14 x15 x16 x17
          obtain ⟨x0, x1, x2, x3, x4, x5, x6, x7, x8, x9, x10, x11, x12, x13, x14, x15, x16, x17⟩ := HS.out _ HT3.out
          go_wp2_with fail
          refine (HE2.out _ HT3.out).mono ?_
          rintro e w4 ⟨v4, rfl, hf, hb4⟩
          have hfs := hf.1
          obtain ⟨Av4, cv4, rfl, _⟩ := id hfs
          have HT4 := Lib.hid (HCC.out _ _ HT3.out hb4)
          have HV3 := Lib.hid (HV3.out.on hb4)
          have HV4 := Lib.hid hfs
          clear hb4 hf hfs x0 x1 x2 x3 x4 x5 x6 x7 x8 x9 x10 x11 x12 x13 x14 x15 x16 x17
          obtain ⟨x0, x1, x2, x3, x4, x5, x6, x7, x8, x9, x10, x11, x12, x13, x14, x15, x16, x17⟩ := HS.out _ HT4.out
          go_wp2_with fail
          refine (HA.out _ HT4.out).mono ?_
          rintro e w5 ⟨rfl, hb5⟩
          have HT5 := Lib.hid (HCC.out _ _ HT4.out hb5)
          have HBX5 := Lib.hid hb5
          clear hb5
          clear x0 x1 x2 x3 x4 x5 x6 x7 x8 x9 x10 x11 x12 x13 x14 x15 x16 x17
          obtain ⟨x0, x1, x2, x3, x4, x5, x6, x7, x8, x9, x10, x11, x12, x13, x14, x15, x16, x17⟩ := HS.out _ HT5.out
          go_wp2_with fail
          go_ret
          exact ⟨rfl, HB.out.trans (HT5.out.mono (by omega))⟩
      · skip
        have q1 : (E1 == 0) = false := by simpa using z1
        have q2 : (E1 != 0) = true := by simpa using z1
        have q3 : decide (E1 = 0) = false := decide_eq_false z1
        go_enter Tryd.func9, Tryd.ntmps9
        go_wp2_with fail
        refine (HF1.out _ HT0.out).mono ?_
        rintro e w1 ⟨rfl, hb1⟩
        have HT1 := Lib.hid (HCC.out _ _ HT0.out hb1)
        clear hb1
        obtain ⟨x0, x1, x2, x3, x4, x5, x6, x7, x8, x9, x10, x11, x12, x13, x14, x15, x16, x17⟩ := HS.out _ HT1.out
        go_wp2_with fail
        refine (HF2.out _ HT1.out).mono ?_
        rintro e w2 ⟨rfl, hb2⟩
        have HT2 := Lib.hid (HCC.out _ _ HT1.out hb2)
        clear hb2
        clear x0 x1 x2 x3 x4 x5 x6 x7 x8 x9 x10 x11 x12 x13 x14 x15 x16 x17
        obtain ⟨x0, x1, x2, x3, x4, x5, x6, x7, x8, x9, x10, x11, x12, x13, x14, x15, x16, x17⟩ := HS.out _ HT2.out
        go_wp2_with fail
        refine (HE1.out _ HT2.out).mono ?_
        rintro e w3 ⟨v3, rfl, hf, hb3⟩
        have hfs := hf.1
        obtain ⟨Av3, cv3, rfl, _⟩ := id hfs
        have HT3 := Lib.hid (HCC.out _ _ HT2.out hb3)
        have HV3 := Lib.hid hfs
        clear hb3 hf hfs x0 x1 x2 x3 x4 x5 x6 x7 x8 x9 x10 x11 x12 x13 x14 x15 x16 x17
        obtain ⟨x0, x1, x2, x3, x4, x5, x6, x7, x8, x9, x10, x11, x12, x13, x14, x15, x16, x17⟩ := HS.out _ HT3.out
        go_wp2_with fail
        refine (HE2.out _ HT3.out).mono ?_
        rintro e w4 ⟨v4, rfl, hf, hb4⟩
        have hfs := hf.1
        obtain ⟨Av4, cv4, rfl, _⟩ := id hfs
        have HT4 := Lib.hid (HCC.out _ _ HT3.out hb4)
        have HV3 := Lib.hid (HV3.out.on hb4)
        have HV4 := Lib.hid hfs
        clear hb4 hf hfs x0 x1 x2 x3 x4 x5 x6 x7 x8 x9 x10 x11 x12 x13 x14 x15 x16 x17
        obtain ⟨x0, x1, x2, x3, x4, x5, x6, x7, x8, x9, x10, x11, x12, x13, x14, x15, x16, x17⟩ := HS.out _ HT4.out
        go_wp2_with fail
        refine (HA.out _ HT4.out).mono ?_
        rintro e w5 ⟨rfl, hb5⟩
        have HT5 := Lib.hid (HCC.out _ _ HT4.out hb5)
        have HBX5 := Lib.hid hb5
        clear hb5
        clear x0 x1 x2 x3 x4 x5 x6 x7 x8 x9 x10 x11 x12 x13 x14 x15 x16 x17
        obtain ⟨x0, x1, x2, x3, x4, x5, x6, x7, x8, x9, x10, x11, x12, x13, x14, x15, x16, x17⟩ := HS.out _ HT5.out
        go_wp2_with fail
        go_ret
        exact ⟨rfl, HB.out.trans (HT5.out.mono (by omega))⟩
end Go.Proofs.YtkjcafhaenkpbaaDoor
