/-
  Equal headers: mathematics; the walk of the law FileheadSame.
-/
import Derived.Test.YtkjcafhaenkpbaaDoorSna
namespace Go.Proofs.YtkjcafhaenkpbaaDoor
set_option linter.unusedVariables false
set_option linter.unusedSimpArgs false
open Go.RowKit

theorem Rl.sam_eq (r q : Rl) : r.sam q = true ↔ r = q := by
  obtain ⟨a, b⟩ := r
  obtain ⟨c, d⟩ := q
  rw [Rl.sam, Bool.and_eq_true, decide_eq_true_eq, Cn.sam_eq, Rl.mk.injEq]
theorem samL_eq : ∀ rs us : List Rl, rs.length = us.length → (samL rs us = true ↔ rs = us)
  | [], us, hl => by
    rw [samL]
    cases us with
    | nil => simp
    | cons u us => simp at hl
  | r :: rs, us, hl => by
    cases us with
    | nil => simp at hl
    | cons u us =>
      have h2 := samL_eq rs us (by simpa using hl)
      rw [samL, Bool.and_eq_true]
      simp only [List.getD, List.getElem?_cons_zero, Option.getD_some, List.drop_succ_cons, List.drop_zero, List.cons.injEq]
      rw [Rl.sam_eq, h2]
theorem samR_eq (rs us : List Rl) : samR rs us = true ↔ rs = us := by
  rw [samR, Bool.and_eq_true, decide_eq_true_eq]
  constructor
  · rintro ⟨h1, h2⟩; exact (samL_eq rs us h1).1 h2
  · rintro rfl; exact ⟨rfl, (samL_eq rs rs rfl).2 rfl⟩
theorem samF_eq (f g : Fl) : samF f g = true ↔ f = g := by
  obtain ⟨a1, a2, a3, a4, a5, a6, a7, a8, a9⟩ := f
  obtain ⟨b1, b2, b3, b4, b5, b6, b7, b8, b9⟩ := g
  rw [samF, Bool.and_eq_true, Bool.and_eq_true, decide_eq_true_eq, decide_eq_true_eq, samR_eq]
  simp only [Fl.nums, List.cons.injEq, and_true, Fl.mk.injEq]
  constructor
  · rintro ⟨⟨h1, h2, h3, h4, h5, h6, h7⟩, h8, h9⟩; exact ⟨h1, h2, h3, h4, h5, h6, h7, h8, h9⟩
  · rintro ⟨h1, h2, h3, h4, h5, h6, h7, h8, h9⟩; exact ⟨⟨h1, h2, h3, h4, h5, h6, h7⟩, h8, h9⟩
theorem samF_self (f : Fl) : samF f f = true := (samF_eq f f).2 rfl
theorem samF_comm (f g : Fl) : samF f g = samF g f := by
  rw [Bool.eq_iff_iff, samF_eq, samF_eq]
  exact ⟨Eq.symm, Eq.symm⟩

set_option maxRecDepth 100000 in
set_option maxHeartbeats 6400000 in
theorem law_same (f g : Fl) (A1 : Option Addr) (c1 : Nat) (A2 : Option Addr) (c2 : Nat) (A3 : Option Addr) (c3 : Nat) (A4 : Option Addr) (c4 : Nat) (w : World)
    (hn1 : SL w w.heap.size (.slice A1 f.name.length c1) f.name) (hk1 : RL w w.heap.size (.slice A2 f.rules.length c2) f.rules)
    (hn2 : SL w w.heap.size (.slice A3 g.name.length c3) g.name) (hk2 : RL w w.heap.size (.slice A4 g.rules.length c4) g.rules)
    (hm1 : cntR f.rules ≤ 2900000) (hm2 : cntR g.rules ≤ 2900000) (hT : Tb w) :
    Calls Tryd.prog 7 #[flV f A1 c1 A2 c2, flV g A3 c3 A4 c4] w fun e w' => e = .returned (.bool true) ∧ Below w.heap.size w w' := by
  have h0 : 0 < w.heap.size := hT.size
  have hl1 : (f.name.length : Int) ≤ 9223372036854775807 := by obtain ⟨A, c, _, h1, h2, _⟩ := id hn1; unfold maxLen at h2; omega
  have hl2 : (g.name.length : Int) ≤ 9223372036854775807 := by obtain ⟨A, c, _, h1, h2, _⟩ := id hn2; unfold maxLen at h2; omega
  have hb1 := alloc_below w (Obj.cells #[.int .i64 f.id, .int .i64 f.kind, .slice A1 f.name.length c1, .int .i64 f.short, .int .i64 f.size, .int .i64 f.len, .int .i64 f.recs, .int .i64 f.state, .slice A2 f.rules.length c2] 25)
  have hb2 := alloc_below (w.alloc (Obj.cells #[.int .i64 f.id, .int .i64 f.kind, .slice A1 f.name.length c1, .int .i64 f.short, .int .i64 f.size, .int .i64 f.len, .int .i64 f.recs, .int .i64 f.state, .slice A2 f.rules.length c2] 25)) (Obj.cells #[.int .i64 g.id, .int .i64 g.kind, .slice A3 g.name.length c3, .int .i64 g.short, .int .i64 g.size, .int .i64 g.len, .int .i64 g.recs, .int .i64 g.state, .slice A4 g.rules.length c4] 25)
  have hb := hb1.trans (hb2.mono hb1.size)
  have hnf := heap_alloc_new w (Obj.cells #[.int .i64 f.id, .int .i64 f.kind, .slice A1 f.name.length c1, .int .i64 f.short, .int .i64 f.size, .int .i64 f.len, .int .i64 f.recs, .int .i64 f.state, .slice A2 f.rules.length c2] 25)
  have hng := heap_alloc_new (w.alloc (Obj.cells #[.int .i64 f.id, .int .i64 f.kind, .slice A1 f.name.length c1, .int .i64 f.short, .int .i64 f.size, .int .i64 f.len, .int .i64 f.recs, .int .i64 f.state, .slice A2 f.rules.length c2] 25)) (Obj.cells #[.int .i64 g.id, .int .i64 g.kind, .slice A3 g.name.length c3, .int .i64 g.short, .int .i64 g.size, .int .i64 g.len, .int .i64 g.recs, .int .i64 g.state, .slice A4 g.rules.length c4] 25)
  have hz : ((w.alloc (Obj.cells #[.int .i64 f.id, .int .i64 f.kind, .slice A1 f.name.length c1, .int .i64 f.short, .int .i64 f.size, .int .i64 f.len, .int .i64 f.recs, .int .i64 f.state, .slice A2 f.rules.length c2] 25)).alloc (Obj.cells #[.int .i64 g.id, .int .i64 g.kind, .slice A3 g.name.length c3, .int .i64 g.short, .int .i64 g.size, .int .i64 g.len, .int .i64 g.recs, .int .i64 g.state, .slice A4 g.rules.length c4] 25)).heap.size = w.heap.size + 2 := by rw [alloc_size, alloc_size]
  have hnf2 := (hb2.block w.heap.size (by rw [alloc_size]; omega)).trans hnf
  rw [alloc_size] at hng
  have HS : Hid (∀ W, Below (w.heap.size + 2) ((w.alloc (Obj.cells #[.int .i64 f.id, .int .i64 f.kind, .slice A1 f.name.length c1, .int .i64 f.short, .int .i64 f.size, .int .i64 f.len, .int .i64 f.recs, .int .i64 f.state, .slice A2 f.rules.length c2] 25)).alloc (Obj.cells #[.int .i64 g.id, .int .i64 g.kind, .slice A3 g.name.length c3, .int .i64 g.short, .int .i64 g.size, .int .i64 g.len, .int .i64 g.recs, .int .i64 g.state, .slice A4 g.rules.length c4] 25)) W → W.cell? ⟨w.heap.size, 0, none⟩ = some (.int .i64 f.id) ∧ W.cell? ⟨w.heap.size, 1, none⟩ = some (.int .i64 f.kind) ∧ W.cell? ⟨w.heap.size, 2, none⟩ = some (.slice A1 f.name.length c1) ∧ W.cell? ⟨w.heap.size, 3, none⟩ = some (.int .i64 f.short) ∧ W.cell? ⟨w.heap.size, 4, none⟩ = some (.int .i64 f.size) ∧ W.cell? ⟨w.heap.size, 5, none⟩ = some (.int .i64 f.len) ∧ W.cell? ⟨w.heap.size, 6, none⟩ = some (.int .i64 f.recs) ∧ W.cell? ⟨w.heap.size, 7, none⟩ = some (.int .i64 f.state) ∧ W.cell? ⟨w.heap.size, 8, none⟩ = some (.slice A2 f.rules.length c2) ∧ W.cell? ⟨w.heap.size + 1, 0, none⟩ = some (.int .i64 g.id) ∧ W.cell? ⟨w.heap.size + 1, 1, none⟩ = some (.int .i64 g.kind) ∧ W.cell? ⟨w.heap.size + 1, 2, none⟩ = some (.slice A3 g.name.length c3) ∧ W.cell? ⟨w.heap.size + 1, 3, none⟩ = some (.int .i64 g.short) ∧ W.cell? ⟨w.heap.size + 1, 4, none⟩ = some (.int .i64 g.size) ∧ W.cell? ⟨w.heap.size + 1, 5, none⟩ = some (.int .i64 g.len) ∧ W.cell? ⟨w.heap.size + 1, 6, none⟩ = some (.int .i64 g.recs) ∧ W.cell? ⟨w.heap.size + 1, 7, none⟩ = some (.int .i64 g.state) ∧ W.cell? ⟨w.heap.size + 1, 8, none⟩ = some (.slice A4 g.rules.length c4)) := fun W hW => by
    have k0 := (hW.block w.heap.size (by omega)).trans hnf2
    have k1 := (hW.block (w.heap.size + 1) (by omega)).trans hng
    exact ⟨cell_of_row _ _ 0 _ _ _ k0, cell_of_row _ _ 1 _ _ _ k0, cell_of_row _ _ 2 _ _ _ k0, cell_of_row _ _ 3 _ _ _ k0, cell_of_row _ _ 4 _ _ _ k0, cell_of_row _ _ 5 _ _ _ k0, cell_of_row _ _ 6 _ _ _ k0, cell_of_row _ _ 7 _ _ _ k0, cell_of_row _ _ 8 _ _ _ k0, cell_of_row _ _ 0 _ _ _ k1, cell_of_row _ _ 1 _ _ _ k1, cell_of_row _ _ 2 _ _ _ k1, cell_of_row _ _ 3 _ _ _ k1, cell_of_row _ _ 4 _ _ _ k1, cell_of_row _ _ 5 _ _ _ k1, cell_of_row _ _ 6 _ _ _ k1, cell_of_row _ _ 7 _ _ _ k1, cell_of_row _ _ 8 _ _ _ k1⟩
  have HF1 : Hid (∀ W, Below (w.heap.size + 2) ((w.alloc (Obj.cells #[.int .i64 f.id, .int .i64 f.kind, .slice A1 f.name.length c1, .int .i64 f.short, .int .i64 f.size, .int .i64 f.len, .int .i64 f.recs, .int .i64 f.state, .slice A2 f.rules.length c2] 25)).alloc (Obj.cells #[.int .i64 g.id, .int .i64 g.kind, .slice A3 g.name.length c3, .int .i64 g.short, .int .i64 g.size, .int .i64 g.len, .int .i64 g.recs, .int .i64 g.state, .slice A4 g.rules.length c4] 25)) W → Calls Tryd.prog 10 #[.agg #[.int .i64 f.id, .int .i64 f.kind, .slice A1 f.name.length c1, .int .i64 f.short, .int .i64 f.size, .int .i64 f.len, .int .i64 f.recs, .int .i64 f.state, .slice A2 f.rules.length c2]] W fun e w' => e = .returned (.bool (fewF f)) ∧ Below W.heap.size W w') := fun W hW => pfewf_any f A1 c1 A2 c2 W hl1 (hk1.on (hb.trans (hW.mono (by omega))))
  have HF2 : Hid (∀ W, Below (w.heap.size + 2) ((w.alloc (Obj.cells #[.int .i64 f.id, .int .i64 f.kind, .slice A1 f.name.length c1, .int .i64 f.short, .int .i64 f.size, .int .i64 f.len, .int .i64 f.recs, .int .i64 f.state, .slice A2 f.rules.length c2] 25)).alloc (Obj.cells #[.int .i64 g.id, .int .i64 g.kind, .slice A3 g.name.length c3, .int .i64 g.short, .int .i64 g.size, .int .i64 g.len, .int .i64 g.recs, .int .i64 g.state, .slice A4 g.rules.length c4] 25)) W → Calls Tryd.prog 10 #[.agg #[.int .i64 g.id, .int .i64 g.kind, .slice A3 g.name.length c3, .int .i64 g.short, .int .i64 g.size, .int .i64 g.len, .int .i64 g.recs, .int .i64 g.state, .slice A4 g.rules.length c4]] W fun e w' => e = .returned (.bool (fewF g)) ∧ Below W.heap.size W w') := fun W hW => pfewf_any g A3 c3 A4 c4 W hl2 (hk2.on (hb.trans (hW.mono (by omega))))
  have HP1 : Hid (fewF f = true → ∀ W, Below (w.heap.size + 2) ((w.alloc (Obj.cells #[.int .i64 f.id, .int .i64 f.kind, .slice A1 f.name.length c1, .int .i64 f.short, .int .i64 f.size, .int .i64 f.len, .int .i64 f.recs, .int .i64 f.state, .slice A2 f.rules.length c2] 25)).alloc (Obj.cells #[.int .i64 g.id, .int .i64 g.kind, .slice A3 g.name.length c3, .int .i64 g.short, .int .i64 g.size, .int .i64 g.len, .int .i64 g.recs, .int .i64 g.state, .slice A4 g.rules.length c4] 25)) W → Calls Tryd.prog 24 #[.agg #[.int .i64 f.id, .int .i64 f.kind, .slice A1 f.name.length c1, .int .i64 f.short, .int .i64 f.size, .int .i64 f.len, .int .i64 f.recs, .int .i64 f.state, .slice A2 f.rules.length c2], .agg #[.int .i64 g.id, .int .i64 g.kind, .slice A3 g.name.length c3, .int .i64 g.short, .int .i64 g.size, .int .i64 g.len, .int .i64 g.recs, .int .i64 g.state, .slice A4 g.rules.length c4]] W fun e w' => e = .returned (.bool (samF f g)) ∧ Below W.heap.size W w') := fun hf W hW => psamf_any f g A1 c1 A2 c2 A3 c3 A4 c4 W (hn1.on (hb.trans (hW.mono (by omega)))) (hk1.on (hb.trans (hW.mono (by omega)))) (hn2.on (hb.trans (hW.mono (by omega)))) (hk2.on (hb.trans (hW.mono (by omega)))) hm1 (fewF_dep hf) (Nat.lt_of_lt_of_le (by omega) hW.size)
  have HP2 : Hid (fewF g = true → ∀ W, Below (w.heap.size + 2) ((w.alloc (Obj.cells #[.int .i64 f.id, .int .i64 f.kind, .slice A1 f.name.length c1, .int .i64 f.short, .int .i64 f.size, .int .i64 f.len, .int .i64 f.recs, .int .i64 f.state, .slice A2 f.rules.length c2] 25)).alloc (Obj.cells #[.int .i64 g.id, .int .i64 g.kind, .slice A3 g.name.length c3, .int .i64 g.short, .int .i64 g.size, .int .i64 g.len, .int .i64 g.recs, .int .i64 g.state, .slice A4 g.rules.length c4] 25)) W → Calls Tryd.prog 24 #[.agg #[.int .i64 g.id, .int .i64 g.kind, .slice A3 g.name.length c3, .int .i64 g.short, .int .i64 g.size, .int .i64 g.len, .int .i64 g.recs, .int .i64 g.state, .slice A4 g.rules.length c4], .agg #[.int .i64 f.id, .int .i64 f.kind, .slice A1 f.name.length c1, .int .i64 f.short, .int .i64 f.size, .int .i64 f.len, .int .i64 f.recs, .int .i64 f.state, .slice A2 f.rules.length c2]] W fun e w' => e = .returned (.bool (samF g f)) ∧ Below W.heap.size W w') := fun hf W hW => psamf_any g f A3 c3 A4 c4 A1 c1 A2 c2 W (hn2.on (hb.trans (hW.mono (by omega)))) (hk2.on (hb.trans (hW.mono (by omega)))) (hn1.on (hb.trans (hW.mono (by omega)))) (hk1.on (hb.trans (hW.mono (by omega)))) hm2 (fewF_dep hf) (Nat.lt_of_lt_of_le (by omega) hW.size)
  have HP3 : Hid (fewF f = true → ∀ W, Below (w.heap.size + 2) ((w.alloc (Obj.cells #[.int .i64 f.id, .int .i64 f.kind, .slice A1 f.name.length c1, .int .i64 f.short, .int .i64 f.size, .int .i64 f.len, .int .i64 f.recs, .int .i64 f.state, .slice A2 f.rules.length c2] 25)).alloc (Obj.cells #[.int .i64 g.id, .int .i64 g.kind, .slice A3 g.name.length c3, .int .i64 g.short, .int .i64 g.size, .int .i64 g.len, .int .i64 g.recs, .int .i64 g.state, .slice A4 g.rules.length c4] 25)) W → Calls Tryd.prog 24 #[.agg #[.int .i64 f.id, .int .i64 f.kind, .slice A1 f.name.length c1, .int .i64 f.short, .int .i64 f.size, .int .i64 f.len, .int .i64 f.recs, .int .i64 f.state, .slice A2 f.rules.length c2], .agg #[.int .i64 f.id, .int .i64 f.kind, .slice A1 f.name.length c1, .int .i64 f.short, .int .i64 f.size, .int .i64 f.len, .int .i64 f.recs, .int .i64 f.state, .slice A2 f.rules.length c2]] W fun e w' => e = .returned (.bool (samF f f)) ∧ Below W.heap.size W w') := fun hf W hW => psamf_any f f A1 c1 A2 c2 A1 c1 A2 c2 W (hn1.on (hb.trans (hW.mono (by omega)))) (hk1.on (hb.trans (hW.mono (by omega)))) (hn1.on (hb.trans (hW.mono (by omega)))) (hk1.on (hb.trans (hW.mono (by omega)))) hm1 (fewF_dep hf) (Nat.lt_of_lt_of_le (by omega) hW.size)
  have HR : Hid (∀ W, Below (w.heap.size + 2) ((w.alloc (Obj.cells #[.int .i64 f.id, .int .i64 f.kind, .slice A1 f.name.length c1, .int .i64 f.short, .int .i64 f.size, .int .i64 f.len, .int .i64 f.recs, .int .i64 f.state, .slice A2 f.rules.length c2] 25)).alloc (Obj.cells #[.int .i64 g.id, .int .i64 g.kind, .slice A3 g.name.length c3, .int .i64 g.short, .int .i64 g.size, .int .i64 g.len, .int .i64 g.recs, .int .i64 g.state, .slice A4 g.rules.length c4] 25)) W → Calls Tryd.prog 21 #[.agg #[.int .i64 f.id, .int .i64 f.kind, .slice A1 f.name.length c1, .int .i64 f.short, .int .i64 f.size, .int .i64 f.len, .int .i64 f.recs, .int .i64 f.state, .slice A2 f.rules.length c2], .agg #[.int .i64 g.id, .int .i64 g.kind, .slice A3 g.name.length c3, .int .i64 g.short, .int .i64 g.size, .int .i64 g.len, .int .i64 g.recs, .int .i64 g.state, .slice A4 g.rules.length c4]] W fun e w' => e = .returned (.bool (samF f g)) ∧ Below W.heap.size W w') := fun W hW => rsamf_any f g A1 c1 A2 c2 A3 c3 A4 c4 W (hn1.on (hb.trans (hW.mono (by omega)))) (hk1.on (hb.trans (hW.mono (by omega)))) (hn2.on (hb.trans (hW.mono (by omega)))) (hk2.on (hb.trans (hW.mono (by omega))))
  have HA : Hid (∀ W, Below (w.heap.size + 2) ((w.alloc (Obj.cells #[.int .i64 f.id, .int .i64 f.kind, .slice A1 f.name.length c1, .int .i64 f.short, .int .i64 f.size, .int .i64 f.len, .int .i64 f.recs, .int .i64 f.state, .slice A2 f.rules.length c2] 25)).alloc (Obj.cells #[.int .i64 g.id, .int .i64 g.kind, .slice A3 g.name.length c3, .int .i64 g.short, .int .i64 g.size, .int .i64 g.len, .int .i64 g.recs, .int .i64 g.state, .slice A4 g.rules.length c4] 25)) W → Calls Tryd.prog 13 #[] W fun e w' => e = .returned (.bool (true)) ∧ Below W.heap.size W w') := fun W hW => awake_any W (hT.on (hb.trans (hW.mono (by omega))))
  have ht0 := Below.refl (w.heap.size + 2) ((w.alloc (Obj.cells #[.int .i64 f.id, .int .i64 f.kind, .slice A1 f.name.length c1, .int .i64 f.short, .int .i64 f.size, .int .i64 f.len, .int .i64 f.recs, .int .i64 f.state, .slice A2 f.rules.length c2] 25)).alloc (Obj.cells #[.int .i64 g.id, .int .i64 g.kind, .slice A3 g.name.length c3, .int .i64 g.short, .int .i64 g.size, .int .i64 g.len, .int .i64 g.recs, .int .i64 g.state, .slice A4 g.rules.length c4] 25))
  have HB := Lib.hid hb
  have HZ := Lib.hid hz
  have HCC : Hid (∀ W W', Below (w.heap.size + 2) ((w.alloc (Obj.cells #[.int .i64 f.id, .int .i64 f.kind, .slice A1 f.name.length c1, .int .i64 f.short, .int .i64 f.size, .int .i64 f.len, .int .i64 f.recs, .int .i64 f.state, .slice A2 f.rules.length c2] 25)).alloc (Obj.cells #[.int .i64 g.id, .int .i64 g.kind, .slice A3 g.name.length c3, .int .i64 g.short, .int .i64 g.size, .int .i64 g.len, .int .i64 g.recs, .int .i64 g.state, .slice A4 g.rules.length c4] 25)) W → Below W.heap.size W W' → Below (w.heap.size + 2) ((w.alloc (Obj.cells #[.int .i64 f.id, .int .i64 f.kind, .slice A1 f.name.length c1, .int .i64 f.short, .int .i64 f.size, .int .i64 f.len, .int .i64 f.recs, .int .i64 f.state, .slice A2 f.rules.length c2] 25)).alloc (Obj.cells #[.int .i64 g.id, .int .i64 g.kind, .slice A3 g.name.length c3, .int .i64 g.short, .int .i64 g.size, .int .i64 g.len, .int .i64 g.recs, .int .i64 g.state, .slice A4 g.rules.length c4] 25)) W') := fun W W' h1 h2 => h1.trans (h2.mono (by have := h1.size; rw [hz] at this; exact this))
  clear hb1 hb2 hb hnf hng hnf2 hz hn1 hn2 hk1 hk2 hl1 hl2 hm1 hm2 hT h0
  rw [samF_comm g f] at HP2
  rw [samF_self f] at HP3
  unfold flV
  generalize samF f g = X at *
  have HT0 := Lib.hid ht0
  clear ht0
  generalize fewF f = F1 at *
  generalize fewF g = F2 at *
  generalize f.name.length = n1 at *
  generalize f.rules.length = n2 at *
  generalize g.name.length = n3 at *
  generalize g.rules.length = n4 at *
  go_enter Tryd.func7, Tryd.ntmps7
  cases F1
  · clear HP1 HP2 HP3
    go_wp2_with fail
    refine (HF1.out _ HT0.out).mono ?_
    rintro e w1 ⟨rfl, hb1⟩
    have HT1 := Lib.hid (HT0.out.trans (hb1.mono (Nat.le_trans (Nat.le_of_eq HZ.out.symm) HT0.out.size)))
    clear hb1
    obtain ⟨x0, x1, x2, x3, x4, x5, x6, x7, x8, x9, x10, x11, x12, x13, x14, x15, x16, x17⟩ := HS.out _ HT1.out
    go_wp2_with fail
    go_ret
    exact ⟨rfl, HB.out.trans (HT1.out.mono (by omega))⟩
  · replace HP1 := Lib.hid (HP1.out rfl)
    replace HP3 := Lib.hid (HP3.out rfl)
    cases F2
    · clear HP1 HP2 HP3
      go_wp2_with fail
      refine (HF1.out _ HT0.out).mono ?_
      rintro e w1 ⟨rfl, hb1⟩
      have HT1 := Lib.hid (HT0.out.trans (hb1.mono (Nat.le_trans (Nat.le_of_eq HZ.out.symm) HT0.out.size)))
      clear hb1
      obtain ⟨x0, x1, x2, x3, x4, x5, x6, x7, x8, x9, x10, x11, x12, x13, x14, x15, x16, x17⟩ := HS.out _ HT1.out
      go_wp2_with fail
      refine (HF2.out _ HT1.out).mono ?_
      rintro e w2 ⟨rfl, hb2⟩
      have HT2 := Lib.hid (HT1.out.trans (hb2.mono (Nat.le_trans (Nat.le_of_eq HZ.out.symm) HT1.out.size)))
      clear hb2
      clear x0 x1 x2 x3 x4 x5 x6 x7 x8 x9 x10 x11 x12 x13 x14 x15 x16 x17
      obtain ⟨x0, x1, x2, x3, x4, x5, x6, x7, x8, x9, x10, x11, x12, x13, x14, x15, x16, x17⟩ := HS.out _ HT2.out
      go_wp2_with fail
      go_ret
      exact ⟨rfl, HB.out.trans (HT2.out.mono (by omega))⟩
    · replace HP2 := Lib.hid (HP2.out rfl)
      cases X
      all_goals
        go_wp2_with fail
        refine (HF1.out _ HT0.out).mono ?_
        rintro e w1 ⟨rfl, hb1⟩
        have HT1 := Lib.hid (HT0.out.trans (hb1.mono (Nat.le_trans (Nat.le_of_eq HZ.out.symm) HT0.out.size)))
        clear hb1
        obtain ⟨x0, x1, x2, x3, x4, x5, x6, x7, x8, x9, x10, x11, x12, x13, x14, x15, x16, x17⟩ := HS.out _ HT1.out
        go_wp2_with fail
        refine (HF2.out _ HT1.out).mono ?_
        rintro e w2 ⟨rfl, hb2⟩
        have HT2 := Lib.hid (HT1.out.trans (hb2.mono (Nat.le_trans (Nat.le_of_eq HZ.out.symm) HT1.out.size)))
        clear hb2
        clear x0 x1 x2 x3 x4 x5 x6 x7 x8 x9 x10 x11 x12 x13 x14 x15 x16 x17
        obtain ⟨x0, x1, x2, x3, x4, x5, x6, x7, x8, x9, x10, x11, x12, x13, x14, x15, x16, x17⟩ := HS.out _ HT2.out
        have hc2 := HT2.out.drew
        clear x0 x1 x2 x3 x4 x5 x6 x7 x8 x9 x10 x11 x12 x13 x14 x15 x16 x17
        obtain ⟨x0, x1, x2, x3, x4, x5, x6, x7, x8, x9, x10, x11, x12, x13, x14, x15, x16, x17⟩ := HS.out _ HT2.out
        go_wp2_with fail
        go_region_held3 (fun W => W.cell? ⟨w.heap.size, 0, none⟩ = some (.int .i64 f.id) ∧ W.cell? ⟨w.heap.size, 1, none⟩ = some (.int .i64 f.kind) ∧ W.cell? ⟨w.heap.size, 2, none⟩ = some (.slice A1 n1 c1) ∧ W.cell? ⟨w.heap.size, 3, none⟩ = some (.int .i64 f.short) ∧ W.cell? ⟨w.heap.size, 4, none⟩ = some (.int .i64 f.size) ∧ W.cell? ⟨w.heap.size, 5, none⟩ = some (.int .i64 f.len) ∧ W.cell? ⟨w.heap.size, 6, none⟩ = some (.int .i64 f.recs) ∧ W.cell? ⟨w.heap.size, 7, none⟩ = some (.int .i64 f.state) ∧ W.cell? ⟨w.heap.size, 8, none⟩ = some (.slice A2 n2 c2) ∧ W.cell? ⟨w.heap.size + 1, 0, none⟩ = some (.int .i64 g.id) ∧ W.cell? ⟨w.heap.size + 1, 1, none⟩ = some (.int .i64 g.kind) ∧ W.cell? ⟨w.heap.size + 1, 2, none⟩ = some (.slice A3 n3 c3) ∧ W.cell? ⟨w.heap.size + 1, 3, none⟩ = some (.int .i64 g.short) ∧ W.cell? ⟨w.heap.size + 1, 4, none⟩ = some (.int .i64 g.size) ∧ W.cell? ⟨w.heap.size + 1, 5, none⟩ = some (.int .i64 g.len) ∧ W.cell? ⟨w.heap.size + 1, 6, none⟩ = some (.int .i64 g.recs) ∧ W.cell? ⟨w.heap.size + 1, 7, none⟩ = some (.int .i64 g.state) ∧ W.cell? ⟨w.heap.size + 1, 8, none⟩ = some (.slice A4 n4 c4))
          (first
            | (go_keep; done)
            | exact HS.out _ hc2
            | exact HS.out _ hc3
            | exact HS.out _ hc4
            | exact HS.out _ hc5
            | exact HS.out _ hc6
            | exact HS.out _ hc7
            | exact HS.out _ hc8)
          (first
            | (go_at_call 24; (with_reducible refine (HP1.out _ hc5).mono ?_); rintro e w6 ⟨rfl, hx6⟩; have hc6 := HCC.out _ _ hc5 hx6; clear hx6)
            | (go_at_call 24; (with_reducible refine (HP1.out _ hc2).mono ?_); rintro e w3 ⟨rfl, hx3⟩; have hc3 := HCC.out _ _ hc2 hx3; clear hx3)
            | (go_at_call 21; (with_reducible refine (HR.out _ hc3).mono ?_); rintro e w4 ⟨rfl, hx4⟩; have hc4 := HCC.out _ _ hc3 hx4; clear hx4)
            | (go_at_call 24; (with_reducible refine (HP2.out _ hc4).mono ?_); rintro e w5 ⟨rfl, hx5⟩; have hc5 := HCC.out _ _ hc4 hx5; clear hx5)
            | (go_at_call 24; (with_reducible refine (HP3.out _ hc6).mono ?_); rintro e w7 ⟨rfl, hx7⟩; have hc7 := HCC.out _ _ hc6 hx7; clear hx7)
            | (go_at_call 13; (with_reducible refine (HA.out _ hc7).mono ?_); rintro e w8 ⟨rfl, hx8⟩; have hc8 := HCC.out _ _ hc7 hx8; clear hx8))
        go_wp2_with fail
        go_ret
        exact ⟨rfl, HB.out.trans (hc8.mono (by omega))⟩
end Go.Proofs.YtkjcafhaenkpbaaDoor
