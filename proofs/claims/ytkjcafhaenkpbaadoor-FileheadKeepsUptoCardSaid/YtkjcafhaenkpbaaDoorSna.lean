/-
  The walk of Same of headers, of the reference.
-/
import Derived.Test.YtkjcafhaenkpbaaDoorSmz
namespace Go.Proofs.YtkjcafhaenkpbaaDoor
set_option linter.unusedVariables false
set_option linter.unusedSimpArgs false
open Go.RowKit

set_option maxRecDepth 100000 in
set_option maxHeartbeats 6400000 in
theorem rsamf_any (f g : Fl) (A1 : Option Addr) (c1 : Nat) (A2 : Option Addr) (c2 : Nat) (A3 : Option Addr) (c3 : Nat) (A4 : Option Addr) (c4 : Nat) (w : World)
    (hn1 : SL w w.heap.size (.slice A1 f.name.length c1) f.name) (hk1 : RL w w.heap.size (.slice A2 f.rules.length c2) f.rules)
    (hn2 : SL w w.heap.size (.slice A3 g.name.length c3) g.name) (hk2 : RL w w.heap.size (.slice A4 g.rules.length c4) g.rules)
    :
    Calls Tryd.prog 21 #[flV f A1 c1 A2 c2, flV g A3 c3 A4 c4] w fun e w' => e = .returned (.bool (samF f g)) ∧ Below w.heap.size w w' := by
  have HSF : Hid (samF f g = (decide (f.nums = g.nums) && (decide (f.name = g.name) && samR f.rules g.rules))) := rfl
  have hb1 := alloc_below w (Obj.cells #[.int .i64 f.id, .int .i64 f.kind, .slice A1 f.name.length c1, .int .i64 f.short, .int .i64 f.size, .int .i64 f.len, .int .i64 f.recs, .int .i64 f.state, .slice A2 f.rules.length c2] 25)
  have hb2 := alloc_below (w.alloc (Obj.cells #[.int .i64 f.id, .int .i64 f.kind, .slice A1 f.name.length c1, .int .i64 f.short, .int .i64 f.size, .int .i64 f.len, .int .i64 f.recs, .int .i64 f.state, .slice A2 f.rules.length c2] 25)) (Obj.cells #[.int .i64 g.id, .int .i64 g.kind, .slice A3 g.name.length c3, .int .i64 g.short, .int .i64 g.size, .int .i64 g.len, .int .i64 g.recs, .int .i64 g.state, .slice A4 g.rules.length c4] 25)
  have hb := hb1.trans (hb2.mono hb1.size)
  have hnf := heap_alloc_new w (Obj.cells #[.int .i64 f.id, .int .i64 f.kind, .slice A1 f.name.length c1, .int .i64 f.short, .int .i64 f.size, .int .i64 f.len, .int .i64 f.recs, .int .i64 f.state, .slice A2 f.rules.length c2] 25)
  have hng := heap_alloc_new (w.alloc (Obj.cells #[.int .i64 f.id, .int .i64 f.kind, .slice A1 f.name.length c1, .int .i64 f.short, .int .i64 f.size, .int .i64 f.len, .int .i64 f.recs, .int .i64 f.state, .slice A2 f.rules.length c2] 25)) (Obj.cells #[.int .i64 g.id, .int .i64 g.kind, .slice A3 g.name.length c3, .int .i64 g.short, .int .i64 g.size, .int .i64 g.len, .int .i64 g.recs, .int .i64 g.state, .slice A4 g.rules.length c4] 25)
  have hz : ((w.alloc (Obj.cells #[.int .i64 f.id, .int .i64 f.kind, .slice A1 f.name.length c1, .int .i64 f.short, .int .i64 f.size, .int .i64 f.len, .int .i64 f.recs, .int .i64 f.state, .slice A2 f.rules.length c2] 25)).alloc (Obj.cells #[.int .i64 g.id, .int .i64 g.kind, .slice A3 g.name.length c3, .int .i64 g.short, .int .i64 g.size, .int .i64 g.len, .int .i64 g.recs, .int .i64 g.state, .slice A4 g.rules.length c4] 25)).heap.size = w.heap.size + 2 := by rw [alloc_size, alloc_size]
  have hnf2 := (hb2.block w.heap.size (by rw [alloc_size]; omega)).trans hnf
  rw [alloc_size] at hng
  have HS : Hid (∀ W, Below (w.heap.size + 2) ((w.alloc (Obj.cells #[.int .i64 f.id, .int .i64 f.kind, .slice A1 f.name.length c1, .int .i64 f.short, .int .i64 f.size, .int .i64 f.len, .int .i64 f.recs, .int .i64 f.state, .slice A2 f.rules.length c2] 25)).alloc (Obj.cells #[.int .i64 g.id, .int .i64 g.kind, .slice A3 g.name.length c3, .int .i64 g.short, .int .i64 g.size, .int .i64 g.len, .int .i64 g.recs, .int .i64 g.state, .slice A4 g.rules.length c4] 25)) W → W.cell? ⟨w.heap.size, 0, none⟩ = some (.int .i64 f.id) ∧ W.cell? ⟨w.heap.size, 1, none⟩ = some (.int .i64 f.kind) ∧ W.cell? ⟨w.heap.size, 2, none⟩ = some (.slice A1 f.name.length c1) ∧ W.cell? ⟨w.heap.size, 3, none⟩ = some (.int .i64 f.short) ∧ W.cell? ⟨w.heap.size, 4, none⟩ = some (.int .i64 f.size) ∧ W.cell? ⟨w.heap.size, 5, none⟩ = some (.int .i64 f.len) ∧ W.cell? ⟨w.heap.size, 6, none⟩ = some (.int .i64 f.recs) ∧ W.cell? ⟨w.heap.size, 7, none⟩ = some (.int .i64 f.state) ∧ W.cell? ⟨w.heap.size, 8, none⟩ = some (.slice A2 f.rules.length c2) ∧ W.cell? ⟨w.heap.size + 1, 0, none⟩ = some (.int .i64 g.id) ∧ W.cell? ⟨w.heap.size + 1, 1, none⟩ = some (.int .i64 g.kind) ∧ W.cell? ⟨w.heap.size + 1, 2, none⟩ = some (.slice A3 g.name.length c3) ∧ W.cell? ⟨w.heap.size + 1, 3, none⟩ = some (.int .i64 g.short) ∧ W.cell? ⟨w.heap.size + 1, 4, none⟩ = some (.int .i64 g.size) ∧ W.cell? ⟨w.heap.size + 1, 5, none⟩ = some (.int .i64 g.len) ∧ W.cell? ⟨w.heap.size + 1, 6, none⟩ = some (.int .i64 g.recs) ∧ W.cell? ⟨w.heap.size + 1, 7, none⟩ = some (.int .i64 g.state) ∧ W.cell? ⟨w.heap.size + 1, 8, none⟩ = some (.slice A4 g.rules.length c4)) := fun W hW => by
    have k0 := (hW.block w.heap.size (by omega)).trans hnf2
    have k1 := (hW.block (w.heap.size + 1) (by omega)).trans hng
    exact ⟨cell_of_row _ _ 0 _ _ _ k0, cell_of_row _ _ 1 _ _ _ k0, cell_of_row _ _ 2 _ _ _ k0, cell_of_row _ _ 3 _ _ _ k0, cell_of_row _ _ 4 _ _ _ k0, cell_of_row _ _ 5 _ _ _ k0, cell_of_row _ _ 6 _ _ _ k0, cell_of_row _ _ 7 _ _ _ k0, cell_of_row _ _ 8 _ _ _ k0, cell_of_row _ _ 0 _ _ _ k1, cell_of_row _ _ 1 _ _ _ k1, cell_of_row _ _ 2 _ _ _ k1, cell_of_row _ _ 3 _ _ _ k1, cell_of_row _ _ 4 _ _ _ k1, cell_of_row _ _ 5 _ _ _ k1, cell_of_row _ _ 6 _ _ _ k1, cell_of_row _ _ 7 _ _ _ k1, cell_of_row _ _ 8 _ _ _ k1⟩
  have HBE : Hid (∀ W, Below (w.heap.size + 2) ((w.alloc (Obj.cells #[.int .i64 f.id, .int .i64 f.kind, .slice A1 f.name.length c1, .int .i64 f.short, .int .i64 f.size, .int .i64 f.len, .int .i64 f.recs, .int .i64 f.state, .slice A2 f.rules.length c2] 25)).alloc (Obj.cells #[.int .i64 g.id, .int .i64 g.kind, .slice A3 g.name.length c3, .int .i64 g.short, .int .i64 g.size, .int .i64 g.len, .int .i64 g.recs, .int .i64 g.state, .slice A4 g.rules.length c4] 25)) W → Calls Tryd.prog 16 #[.slice A1 f.name.length c1, .slice A3 g.name.length c3] W fun e w' => e = .returned (.bool (decide (f.name = g.name))) ∧ Below W.heap.size W w') := fun W hW => rsame1_any f.name g.name _ _ W (hn1.on (hb.trans (hW.mono (by omega)))) (hn2.on (hb.trans (hW.mono (by omega))))
  have HRS : Hid (∀ W, Below (w.heap.size + 2) ((w.alloc (Obj.cells #[.int .i64 f.id, .int .i64 f.kind, .slice A1 f.name.length c1, .int .i64 f.short, .int .i64 f.size, .int .i64 f.len, .int .i64 f.recs, .int .i64 f.state, .slice A2 f.rules.length c2] 25)).alloc (Obj.cells #[.int .i64 g.id, .int .i64 g.kind, .slice A3 g.name.length c3, .int .i64 g.short, .int .i64 g.size, .int .i64 g.len, .int .i64 g.recs, .int .i64 g.state, .slice A4 g.rules.length c4] 25)) W → Calls Tryd.prog 25 #[.slice A2 f.rules.length c2, .slice A4 g.rules.length c4] W fun e w' => e = .returned (.bool (samR f.rules g.rules)) ∧ Below W.heap.size W w') := fun W hW => rsmr_any f.rules g.rules _ _ W (hk1.on (hb.trans (hW.mono (by omega)))) (hk2.on (hb.trans (hW.mono (by omega))))
  have hbd := Lib.hid ((Below.refl (w.heap.size + 2) ((w.alloc (Obj.cells #[.int .i64 f.id, .int .i64 f.kind, .slice A1 f.name.length c1, .int .i64 f.short, .int .i64 f.size, .int .i64 f.len, .int .i64 f.recs, .int .i64 f.state, .slice A2 f.rules.length c2] 25)).alloc (Obj.cells #[.int .i64 g.id, .int .i64 g.kind, .slice A3 g.name.length c3, .int .i64 g.short, .int .i64 g.size, .int .i64 g.len, .int .i64 g.recs, .int .i64 g.state, .slice A4 g.rules.length c4] 25))).drew)
  have HB := Lib.hid hb
  have HZ := Lib.hid hz
  clear hb1 hb2 hb hnf hng hnf2 hz hn1 hn2 hk1 hk2
  unfold flV at *
  generalize samR f.rules g.rules = X at *
  have hbd0 := Lib.hid (Below.refl (w.heap.size + 2) ((w.alloc (Obj.cells #[.int .i64 f.id, .int .i64 f.kind, .slice A1 f.name.length c1, .int .i64 f.short, .int .i64 f.size, .int .i64 f.len, .int .i64 f.recs, .int .i64 f.state, .slice A2 f.rules.length c2] 25)).alloc (Obj.cells #[.int .i64 g.id, .int .i64 g.kind, .slice A3 g.name.length c3, .int .i64 g.short, .int .i64 g.size, .int .i64 g.len, .int .i64 g.recs, .int .i64 g.state, .slice A4 g.rules.length c4] 25)))
  by_cases e_id : f.id = g.id
  · have E_id := Lib.hid e_id
    have y_id : (f.id == g.id) = true := beq_iff_eq.2 e_id
    have z_id : decide (f.id = g.id) = true := decide_eq_true e_id
    clear e_id
    by_cases e_kind : f.kind = g.kind
    · have E_kind := Lib.hid e_kind
      have y_kind : (f.kind == g.kind) = true := beq_iff_eq.2 e_kind
      have z_kind : decide (f.kind = g.kind) = true := decide_eq_true e_kind
      clear e_kind
      by_cases e_name : f.name = g.name
      · have E_name := Lib.hid e_name
        clear e_name
        by_cases e_short : f.short = g.short
        · have E_short := Lib.hid e_short
          have y_short : (f.short == g.short) = true := beq_iff_eq.2 e_short
          have z_short : decide (f.short = g.short) = true := decide_eq_true e_short
          clear e_short
          by_cases e_size : f.size = g.size
          · have E_size := Lib.hid e_size
            have y_size : (f.size == g.size) = true := beq_iff_eq.2 e_size
            have z_size : decide (f.size = g.size) = true := decide_eq_true e_size
            clear e_size
            by_cases e_len : f.len = g.len
            · have E_len := Lib.hid e_len
              have y_len : (f.len == g.len) = true := beq_iff_eq.2 e_len
              have z_len : decide (f.len = g.len) = true := decide_eq_true e_len
              clear e_len
              by_cases e_recs : f.recs = g.recs
              · have E_recs := Lib.hid e_recs
                have y_recs : (f.recs == g.recs) = true := beq_iff_eq.2 e_recs
                have z_recs : decide (f.recs = g.recs) = true := decide_eq_true e_recs
                clear e_recs
                by_cases e_state : f.state = g.state
                · have E_state := Lib.hid e_state
                  have y_state : (f.state == g.state) = true := beq_iff_eq.2 e_state
                  have z_state : decide (f.state = g.state) = true := decide_eq_true e_state
                  clear e_state
                  have HSM : Hid (samF f g = X) := by
                    show _ = _
                    rw [HSF.out, decide_eq_true (show f.nums = g.nums by unfold Fl.nums; rw [E_id.out, E_kind.out, E_short.out, E_size.out, E_len.out, E_recs.out, E_state.out]), decide_eq_true E_name.out]
                    rfl
                  rw [decide_eq_true E_name.out] at HBE
                  clear E_id E_kind E_short E_size E_len E_recs E_state E_name HSF
                  go_enter Tryd.func21, Tryd.ntmps21
                  go_wp2_with fail
                  refine (HBE.out _ hbd0.out).mono ?_
                  rintro e9 wx ⟨rfl, hbx⟩
                  have ht3 := hbd0.out.trans (hbx.mono (Nat.le_of_eq HZ.out.symm))
                  have HT3 := Lib.hid ht3
                  obtain ⟨x0, x1, x2, x3, x4, x5, x6, x7, x8, x9, x10, x11, x12, x13, x14, x15, x16, x17⟩ := HS.out _ ht3
                  clear ht3 hbx
                  go_wp2_with fail
                  refine (HRS.out _ HT3.out).mono ?_
                  rintro e8 wz ⟨rfl, hbz⟩
                  have HT4 := Lib.hid (HT3.out.trans (hbz.mono (Nat.le_trans (Nat.le_of_eq HZ.out.symm) HT3.out.size)))
                  clear hbz
                  go_wp2_with fail
                  go_ret
                  exact ⟨ret_bool (HSM.out.symm), HB.out.trans (HT4.out.mono (by omega))⟩
                · have HSM : Hid (samF f g = false) := by
                    show _ = _
                    rw [HSF.out, decide_eq_false (show ¬ f.nums = g.nums by unfold Fl.nums; intro h; simp only [List.cons.injEq, and_true] at h; exact e_state (by first | exact h.1 | exact h.2.1 | exact h.2.2.1 | exact h.2.2.2.1 | exact h.2.2.2.2.1 | exact h.2.2.2.2.2.1 | exact h.2.2.2.2.2.2)), Bool.false_and]
                  have y_state : (f.state == g.state) = false := beq_eq_false_iff_ne.2 e_state
                  have z_state : decide (f.state = g.state) = false := decide_eq_false e_state
                  rw [decide_eq_true E_name.out] at HBE
                  clear e_state HSF
                  go_enter Tryd.func21, Tryd.ntmps21
                  go_wp2_with fail
                  refine (HBE.out _ hbd0.out).mono ?_
                  rintro e9 wx ⟨rfl, hbx⟩
                  have ht3 := hbd0.out.trans (hbx.mono (Nat.le_of_eq HZ.out.symm))
                  have HT3 := Lib.hid ht3
                  obtain ⟨x0, x1, x2, x3, x4, x5, x6, x7, x8, x9, x10, x11, x12, x13, x14, x15, x16, x17⟩ := HS.out _ ht3
                  clear ht3 hbx
                  go_wp2_with fail
                  go_ret
                  exact ⟨ret_bool (HSM.out.symm), HB.out.trans (HT3.out.mono (by omega))⟩
              · have HSM : Hid (samF f g = false) := by
                  show _ = _
                  rw [HSF.out, decide_eq_false (show ¬ f.nums = g.nums by unfold Fl.nums; intro h; simp only [List.cons.injEq, and_true] at h; exact e_recs (by first | exact h.1 | exact h.2.1 | exact h.2.2.1 | exact h.2.2.2.1 | exact h.2.2.2.2.1 | exact h.2.2.2.2.2.1 | exact h.2.2.2.2.2.2)), Bool.false_and]
                have y_recs : (f.recs == g.recs) = false := beq_eq_false_iff_ne.2 e_recs
                have z_recs : decide (f.recs = g.recs) = false := decide_eq_false e_recs
                rw [decide_eq_true E_name.out] at HBE
                clear e_recs HSF
                go_enter Tryd.func21, Tryd.ntmps21
                go_wp2_with fail
                refine (HBE.out _ hbd0.out).mono ?_
                rintro e9 wx ⟨rfl, hbx⟩
                have ht3 := hbd0.out.trans (hbx.mono (Nat.le_of_eq HZ.out.symm))
                have HT3 := Lib.hid ht3
                obtain ⟨x0, x1, x2, x3, x4, x5, x6, x7, x8, x9, x10, x11, x12, x13, x14, x15, x16, x17⟩ := HS.out _ ht3
                clear ht3 hbx
                go_wp2_with fail
                go_ret
                exact ⟨ret_bool (HSM.out.symm), HB.out.trans (HT3.out.mono (by omega))⟩
            · have HSM : Hid (samF f g = false) := by
                show _ = _
                rw [HSF.out, decide_eq_false (show ¬ f.nums = g.nums by unfold Fl.nums; intro h; simp only [List.cons.injEq, and_true] at h; exact e_len (by first | exact h.1 | exact h.2.1 | exact h.2.2.1 | exact h.2.2.2.1 | exact h.2.2.2.2.1 | exact h.2.2.2.2.2.1 | exact h.2.2.2.2.2.2)), Bool.false_and]
              have y_len : (f.len == g.len) = false := beq_eq_false_iff_ne.2 e_len
              have z_len : decide (f.len = g.len) = false := decide_eq_false e_len
              rw [decide_eq_true E_name.out] at HBE
              clear e_len HSF
              go_enter Tryd.func21, Tryd.ntmps21
              go_wp2_with fail
              refine (HBE.out _ hbd0.out).mono ?_
              rintro e9 wx ⟨rfl, hbx⟩
              have ht3 := hbd0.out.trans (hbx.mono (Nat.le_of_eq HZ.out.symm))
              have HT3 := Lib.hid ht3
              obtain ⟨x0, x1, x2, x3, x4, x5, x6, x7, x8, x9, x10, x11, x12, x13, x14, x15, x16, x17⟩ := HS.out _ ht3
              clear ht3 hbx
              go_wp2_with fail
              go_ret
              exact ⟨ret_bool (HSM.out.symm), HB.out.trans (HT3.out.mono (by omega))⟩
          · have HSM : Hid (samF f g = false) := by
              show _ = _
              rw [HSF.out, decide_eq_false (show ¬ f.nums = g.nums by unfold Fl.nums; intro h; simp only [List.cons.injEq, and_true] at h; exact e_size (by first | exact h.1 | exact h.2.1 | exact h.2.2.1 | exact h.2.2.2.1 | exact h.2.2.2.2.1 | exact h.2.2.2.2.2.1 | exact h.2.2.2.2.2.2)), Bool.false_and]
            have y_size : (f.size == g.size) = false := beq_eq_false_iff_ne.2 e_size
            have z_size : decide (f.size = g.size) = false := decide_eq_false e_size
            rw [decide_eq_true E_name.out] at HBE
            clear e_size HSF
            go_enter Tryd.func21, Tryd.ntmps21
            go_wp2_with fail
            refine (HBE.out _ hbd0.out).mono ?_
            rintro e9 wx ⟨rfl, hbx⟩
            have ht3 := hbd0.out.trans (hbx.mono (Nat.le_of_eq HZ.out.symm))
            have HT3 := Lib.hid ht3
            obtain ⟨x0, x1, x2, x3, x4, x5, x6, x7, x8, x9, x10, x11, x12, x13, x14, x15, x16, x17⟩ := HS.out _ ht3
            clear ht3 hbx
            go_wp2_with fail
            go_ret
            exact ⟨ret_bool (HSM.out.symm), HB.out.trans (HT3.out.mono (by omega))⟩
        · have HSM : Hid (samF f g = false) := by
            show _ = _
            rw [HSF.out, decide_eq_false (show ¬ f.nums = g.nums by unfold Fl.nums; intro h; simp only [List.cons.injEq, and_true] at h; exact e_short (by first | exact h.1 | exact h.2.1 | exact h.2.2.1 | exact h.2.2.2.1 | exact h.2.2.2.2.1 | exact h.2.2.2.2.2.1 | exact h.2.2.2.2.2.2)), Bool.false_and]
          have y_short : (f.short == g.short) = false := beq_eq_false_iff_ne.2 e_short
          have z_short : decide (f.short = g.short) = false := decide_eq_false e_short
          rw [decide_eq_true E_name.out] at HBE
          clear e_short HSF
          go_enter Tryd.func21, Tryd.ntmps21
          go_wp2_with fail
          refine (HBE.out _ hbd0.out).mono ?_
          rintro e9 wx ⟨rfl, hbx⟩
          have ht3 := hbd0.out.trans (hbx.mono (Nat.le_of_eq HZ.out.symm))
          have HT3 := Lib.hid ht3
          obtain ⟨x0, x1, x2, x3, x4, x5, x6, x7, x8, x9, x10, x11, x12, x13, x14, x15, x16, x17⟩ := HS.out _ ht3
          clear ht3 hbx
          go_wp2_with fail
          go_ret
          exact ⟨ret_bool (HSM.out.symm), HB.out.trans (HT3.out.mono (by omega))⟩
      · have HSM : Hid (samF f g = false) := by show _ = _; rw [HSF.out, decide_eq_false e_name, Bool.false_and, Bool.and_false]
        rw [decide_eq_false e_name] at HBE
        clear e_name HSF
        go_enter Tryd.func21, Tryd.ntmps21
        go_wp2_with fail
        refine (HBE.out _ hbd0.out).mono ?_
        rintro e9 wx ⟨rfl, hbx⟩
        have ht3 := hbd0.out.trans (hbx.mono (Nat.le_of_eq HZ.out.symm))
        have HT3 := Lib.hid ht3
        obtain ⟨x0, x1, x2, x3, x4, x5, x6, x7, x8, x9, x10, x11, x12, x13, x14, x15, x16, x17⟩ := HS.out _ ht3
        clear ht3 hbx
        go_wp2_with fail
        go_ret
        exact ⟨ret_bool (HSM.out.symm), HB.out.trans (HT3.out.mono (by omega))⟩
    · have HSM : Hid (samF f g = false) := by
        show _ = _
        rw [HSF.out, decide_eq_false (show ¬ f.nums = g.nums by unfold Fl.nums; intro h; simp only [List.cons.injEq, and_true] at h; exact e_kind (by first | exact h.1 | exact h.2.1 | exact h.2.2.1 | exact h.2.2.2.1 | exact h.2.2.2.2.1 | exact h.2.2.2.2.2.1 | exact h.2.2.2.2.2.2)), Bool.false_and]
      have y_kind : (f.kind == g.kind) = false := beq_eq_false_iff_ne.2 e_kind
      have z_kind : decide (f.kind = g.kind) = false := decide_eq_false e_kind
      clear e_kind HSF
      go_enter Tryd.func21, Tryd.ntmps21
      go_wp2_with fail
      go_ret
      exact ⟨ret_bool (HSM.out.symm), HB.out⟩
  · have HSM : Hid (samF f g = false) := by
      show _ = _
      rw [HSF.out, decide_eq_false (show ¬ f.nums = g.nums by unfold Fl.nums; intro h; simp only [List.cons.injEq, and_true] at h; exact e_id (by first | exact h.1 | exact h.2.1 | exact h.2.2.1 | exact h.2.2.2.1 | exact h.2.2.2.2.1 | exact h.2.2.2.2.2.1 | exact h.2.2.2.2.2.2)), Bool.false_and]
    have y_id : (f.id == g.id) = false := beq_eq_false_iff_ne.2 e_id
    have z_id : decide (f.id = g.id) = false := decide_eq_false e_id
    clear e_id HSF
    go_enter Tryd.func21, Tryd.ntmps21
    go_wp2_with fail
    go_ret
    exact ⟨ret_bool (HSM.out.symm), HB.out⟩
end Go.Proofs.YtkjcafhaenkpbaaDoor
