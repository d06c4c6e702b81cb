/-
  The walk of Same of headers, of the program.
-/
import Derived.Test.YtkjcafhaenkpbaaDoorSmy
namespace Go.Proofs.YtkjcafhaenkpbaaDoor
set_option linter.unusedVariables false
set_option linter.unusedSimpArgs false
open Go.RowKit

section
variable {P : Program} {ops : Array Oper} {md : Region.Mode} {Q : Exit → Act → World → Prop}
/-- An operation taken first, its guard decided. -/
theorem wpAnyH_takeG {S : World → Prop} (i d : Nat) (v : Value) {oi : Oper} {fuel : Nat} {listed : Array Bool} {T : Array Value} {ds : List Deferred} {w : World} (hi : ops[i]? = some oi) (hdst : oi.dst = some d)
    (hs : Region.noSelect ops = true) (hf : Region.free md ops listed i = true) (hr : (Region.ready md ops listed).contains i = true)
    (hQ : ∀ c a w, Q (.panic c) (Act.put a oi.dst v) w → Q (.panic c) a w) (hg : Region.wanted oi (yielded ops T) = true) (hy : ∀ w, S w → (execOp ({ tmps := T, defers := ds } : Act).eval oi).run P w = .ok (.value v) w) (hS : S w)
    (h : wpAnyH P md ops Q S fuel (listed.setIfInBounds i true) { tmps := T.setIfInBounds d v, defers := ds } w) : wpAnyH P md ops Q S (fuel + 1) listed { tmps := T, defers := ds } w := by
  refine wpAnyH_take (v := v) hi hs hf hr (fun c a w => hQ c a w) (.inl ⟨hg, hy⟩) hS ?_
  rw [hdst]
  exact h
/-- The one operation that may come up, its guard decided. -/
theorem wpAnyH_oneG {S : World → Prop} {i fuel : Nat} {o : Oper} {listed : Array Bool} {a : Act} {w : World} (hr : Region.ready md ops listed = [i]) (hi : ops[i]? = some o) (hg : Region.wanted o (yielded ops a.tmps) = true)
    (h : ∀ K : Act → World → Prop, (∀ a' w', S w' → wpAnyH P md ops Q S fuel (listed.setIfInBounds i true) a' w' → K a' w') → o.wp P a w K Q) : wpAnyH P md ops Q S (fuel + 1) listed a w := by
  refine wpAnyH_all hr (by simp) fun j hj => ?_
  obtain rfl : j = i := by simpa using hj
  unfold wpOp
  simp only [hi, hg, if_true]
  exact .inl (h _ fun a' w' h1 h2 => ⟨h1, h2⟩)
/-- An operation taken first that its guard does not want. -/
theorem wpAnyH_takeU {S : World → Prop} (i d : Nat) {oi : Oper} {fuel : Nat} {listed : Array Bool} {T : Array Value} {ds : List Deferred} {w : World} (hi : ops[i]? = some oi) (hdst : oi.dst = some d)
    (hs : Region.noSelect ops = true) (hf : Region.free md ops listed i = true) (hr : (Region.ready md ops listed).contains i = true)
    (hQ : ∀ c a w, Q (.panic c) (Act.put a oi.dst undef) w → Q (.panic c) a w) (hg : Region.wanted oi (yielded ops T) = false) (hS : S w)
    (h : wpAnyH P md ops Q S fuel (listed.setIfInBounds i true) { tmps := T.setIfInBounds d undef, defers := ds } w) : wpAnyH P md ops Q S (fuel + 1) listed { tmps := T, defers := ds } w := by
  refine wpAnyH_take (v := undef) hi hs hf hr (fun c a w => hQ c a w) (.inr ⟨hg, rfl⟩) hS ?_
  rw [hdst]
  exact h
end
theorem eqG73 : Tryd.prog.eqGuardType Tryd.prog.depth 73 = false := by kernel_rfl
theorem eqG_run (f g : Fl) (x y : Operand) (W : World) : Sem.run Tryd.prog (eqGuard BinOp.eql 73 x y (nmV f) (nmV g)) W = .ok () W := by
  have z1 := eqG73
  unfold nmV eqGuard
  first
    | (go_simp; done)
    | (simp [z1, Sem.run_bind]; done)
    | (simp [z1, Sem.run_bind]; rfl)

set_option maxRecDepth 100000 in
set_option maxHeartbeats 6400000 in
theorem psamf_any (f g : Fl) (A1 : Option Addr) (c1 : Nat) (A2 : Option Addr) (c2 : Nat) (A3 : Option Addr) (c3 : Nat) (A4 : Option Addr) (c4 : Nat) (w : World)
    (hn1 : SL w w.heap.size (.slice A1 f.name.length c1) f.name) (hk1 : RL w w.heap.size (.slice A2 f.rules.length c2) f.rules)
    (hn2 : SL w w.heap.size (.slice A3 g.name.length c3) g.name) (hk2 : RL w w.heap.size (.slice A4 g.rules.length c4) g.rules)
    (hm : cntR f.rules ≤ 2900000) (hc : ∀ (k : Nat) (h : k < f.rules.length), f.rules[k].cond.dep ≤ 900) (h0 : 0 < w.heap.size) :
    Calls Tryd.prog 24 #[flV f A1 c1 A2 c2, flV g A3 c3 A4 c4] w fun e w' => e = .returned (.bool (samF f g)) ∧ Below w.heap.size w w' := by
  have HSF : Hid (samF f g = (decide (f.nums = g.nums) && (decide (f.name = g.name) && samR f.rules g.rules))) := rfl
  have hb1 := alloc_below w (Obj.cells #[.int .i64 f.id, .int .i64 f.kind, .slice A1 f.name.length c1, .int .i64 f.short, .int .i64 f.size, .int .i64 f.len, .int .i64 f.recs, .int .i64 f.state, .slice A2 f.rules.length c2] 25)
  have hb2 := alloc_below (w.alloc (Obj.cells #[.int .i64 f.id, .int .i64 f.kind, .slice A1 f.name.length c1, .int .i64 f.short, .int .i64 f.size, .int .i64 f.len, .int .i64 f.recs, .int .i64 f.state, .slice A2 f.rules.length c2] 25)) (Obj.cells #[.int .i64 g.id, .int .i64 g.kind, .slice A3 g.name.length c3, .int .i64 g.short, .int .i64 g.size, .int .i64 g.len, .int .i64 g.recs, .int .i64 g.state, .slice A4 g.rules.length c4] 25)
  have hb := hb1.trans (hb2.mono hb1.size)
  have hnf := heap_alloc_new w (Obj.cells #[.int .i64 f.id, .int .i64 f.kind, .slice A1 f.name.length c1, .int .i64 f.short, .int .i64 f.size, .int .i64 f.len, .int .i64 f.recs, .int .i64 f.state, .slice A2 f.rules.length c2] 25)
  have hng := heap_alloc_new (w.alloc (Obj.cells #[.int .i64 f.id, .int .i64 f.kind, .slice A1 f.name.length c1, .int .i64 f.short, .int .i64 f.size, .int .i64 f.len, .int .i64 f.recs, .int .i64 f.state, .slice A2 f.rules.length c2] 25)) (Obj.cells #[.int .i64 g.id, .int .i64 g.kind, .slice A3 g.name.length c3, .int .i64 g.short, .int .i64 g.size, .int .i64 g.len, .int .i64 g.recs, .int .i64 g.state, .slice A4 g.rules.length c4] 25)
  have hz : ((w.alloc (Obj.cells #[.int .i64 f.id, .int .i64 f.kind, .slice A1 f.name.length c1, .int .i64 f.short, .int .i64 f.size, .int .i64 f.len, .int .i64 f.recs, .int .i64 f.state, .slice A2 f.rules.length c2] 25)).alloc (Obj.cells #[.int .i64 g.id, .int .i64 g.kind, .slice A3 g.name.length c3, .int .i64 g.short, .int .i64 g.size, .int .i64 g.len, .int .i64 g.recs, .int .i64 g.state, .slice A4 g.rules.length c4] 25)).heap.size = w.heap.size + 2 := by rw [alloc_size, alloc_size]
  have hnf2 := (hb2.block w.heap.size (by rw [alloc_size]; omega)).trans hnf
  rw [alloc_size] at hng
  have HS : Hid (∀ W, Below (w.heap.size + 2) ((w.alloc (Obj.cells #[.int .i64 f.id, .int .i64 f.kind, .slice A1 f.name.length c1, .int .i64 f.short, .int .i64 f.size, .int .i64 f.len, .int .i64 f.recs, .int .i64 f.state, .slice A2 f.rules.length c2] 25)).alloc (Obj.cells #[.int .i64 g.id, .int .i64 g.kind, .slice A3 g.name.length c3, .int .i64 g.short, .int .i64 g.size, .int .i64 g.len, .int .i64 g.recs, .int .i64 g.state, .slice A4 g.rules.length c4] 25)) W → W.cell? ⟨w.heap.size, 0, none⟩ = some (.int .i64 f.id) ∧ W.cell? ⟨w.heap.size, 1, none⟩ = some (.int .i64 f.kind) ∧ W.cell? ⟨w.heap.size, 2, none⟩ = some (.slice A1 f.name.length c1) ∧ W.cell? ⟨w.heap.size, 3, none⟩ = some (.int .i64 f.short) ∧ W.cell? ⟨w.heap.size, 4, none⟩ = some (.int .i64 f.size) ∧ W.cell? ⟨w.heap.size, 5, none⟩ = some (.int .i64 f.len) ∧ W.cell? ⟨w.heap.size, 6, none⟩ = some (.int .i64 f.recs) ∧ W.cell? ⟨w.heap.size, 7, none⟩ = some (.int .i64 f.state) ∧ W.cell? ⟨w.heap.size, 8, none⟩ = some (.slice A2 f.rules.length c2) ∧ W.cell? ⟨w.heap.size + 1, 0, none⟩ = some (.int .i64 g.id) ∧ W.cell? ⟨w.heap.size + 1, 1, none⟩ = some (.int .i64 g.kind) ∧ W.cell? ⟨w.heap.size + 1, 2, none⟩ = some (.slice A3 g.name.length c3) ∧ W.cell? ⟨w.heap.size + 1, 3, none⟩ = some (.int .i64 g.short) ∧ W.cell? ⟨w.heap.size + 1, 4, none⟩ = some (.int .i64 g.size) ∧ W.cell? ⟨w.heap.size + 1, 5, none⟩ = some (.int .i64 g.len) ∧ W.cell? ⟨w.heap.size + 1, 6, none⟩ = some (.int .i64 g.recs) ∧ W.cell? ⟨w.heap.size + 1, 7, none⟩ = some (.int .i64 g.state) ∧ W.cell? ⟨w.heap.size + 1, 8, none⟩ = some (.slice A4 g.rules.length c4)) := fun W hW => by
    have k0 := (hW.block w.heap.size (by omega)).trans hnf2
    have k1 := (hW.block (w.heap.size + 1) (by omega)).trans hng
    exact ⟨cell_of_row _ _ 0 _ _ _ k0, cell_of_row _ _ 1 _ _ _ k0, cell_of_row _ _ 2 _ _ _ k0, cell_of_row _ _ 3 _ _ _ k0, cell_of_row _ _ 4 _ _ _ k0, cell_of_row _ _ 5 _ _ _ k0, cell_of_row _ _ 6 _ _ _ k0, cell_of_row _ _ 7 _ _ _ k0, cell_of_row _ _ 8 _ _ _ k0, cell_of_row _ _ 0 _ _ _ k1, cell_of_row _ _ 1 _ _ _ k1, cell_of_row _ _ 2 _ _ _ k1, cell_of_row _ _ 3 _ _ _ k1, cell_of_row _ _ 4 _ _ _ k1, cell_of_row _ _ 5 _ _ _ k1, cell_of_row _ _ 6 _ _ _ k1, cell_of_row _ _ 7 _ _ _ k1, cell_of_row _ _ 8 _ _ _ k1⟩
  have HN1 : Hid (∀ W, Calls Tryd.prog 44 #[flV f A1 c1 A2 c2] W fun e w' => e = .returned (nmV f) ∧ Below W.heap.size W w') := fun W => pnums_any f A1 c1 A2 c2 W
  have HN2 : Hid (∀ W, Calls Tryd.prog 44 #[flV g A3 c3 A4 c4] W fun e w' => e = .returned (nmV g) ∧ Below W.heap.size W w') := fun W => pnums_any g A3 c3 A4 c4 W
  have HBE : Hid (∀ W, Below (w.heap.size + 2) ((w.alloc (Obj.cells #[.int .i64 f.id, .int .i64 f.kind, .slice A1 f.name.length c1, .int .i64 f.short, .int .i64 f.size, .int .i64 f.len, .int .i64 f.recs, .int .i64 f.state, .slice A2 f.rules.length c2] 25)).alloc (Obj.cells #[.int .i64 g.id, .int .i64 g.kind, .slice A3 g.name.length c3, .int .i64 g.short, .int .i64 g.size, .int .i64 g.len, .int .i64 g.recs, .int .i64 g.state, .slice A4 g.rules.length c4] 25)) W → Calls Tryd.prog 40 #[.slice A1 f.name.length c1, .slice A3 g.name.length c3] W fun e w' => e = .returned (.bool (decide (f.name = g.name))) ∧ w' = W) := fun W hW => pbeq_any f.name g.name _ _ W ⟨_, hn1.on (hb.trans (hW.mono (by omega)))⟩ ⟨_, hn2.on (hb.trans (hW.mono (by omega)))⟩
  have HRS : Hid (∀ W, Below (w.heap.size + 2) ((w.alloc (Obj.cells #[.int .i64 f.id, .int .i64 f.kind, .slice A1 f.name.length c1, .int .i64 f.short, .int .i64 f.size, .int .i64 f.len, .int .i64 f.recs, .int .i64 f.state, .slice A2 f.rules.length c2] 25)).alloc (Obj.cells #[.int .i64 g.id, .int .i64 g.kind, .slice A3 g.name.length c3, .int .i64 g.short, .int .i64 g.size, .int .i64 g.len, .int .i64 g.recs, .int .i64 g.state, .slice A4 g.rules.length c4] 25)) W → Calls Tryd.prog 45 #[.slice A2 f.rules.length c2, .slice A4 g.rules.length c4] W fun e w' => e = .returned (.bool (samR f.rules g.rules)) ∧ Below W.heap.size W w') := fun W hW => psmr_anyU f.rules g.rules _ _ W (hk1.on (hb.trans (hW.mono (by omega)))) (hk2.on (hb.trans (hW.mono (by omega)))) (by have := hW.size; omega) hm hc
  have hbd := Lib.hid ((Below.refl (w.heap.size + 2) ((w.alloc (Obj.cells #[.int .i64 f.id, .int .i64 f.kind, .slice A1 f.name.length c1, .int .i64 f.short, .int .i64 f.size, .int .i64 f.len, .int .i64 f.recs, .int .i64 f.state, .slice A2 f.rules.length c2] 25)).alloc (Obj.cells #[.int .i64 g.id, .int .i64 g.kind, .slice A3 g.name.length c3, .int .i64 g.short, .int .i64 g.size, .int .i64 g.len, .int .i64 g.recs, .int .i64 g.state, .slice A4 g.rules.length c4] 25))).drew)
  have HB := Lib.hid hb
  have HZ := Lib.hid hz
  have HEQ := Lib.hid (fun W => eq73_run f g W)
  clear hb1 hb2 hb hnf hng hnf2 hz hn1 hn2 hk1 hk2 hc hm
  unfold flV at *
  generalize samR f.rules g.rules = X at *
  by_cases e1 : f.nums = g.nums
  · rw [decide_eq_true e1] at HEQ HSF
    have hEQ := HEQ.out
    by_cases e2 : f.name = g.name
    · rw [decide_eq_true e2] at HBE HSF
      clear HEQ e1 e2
      go_enter Tryd.func24, Tryd.ntmps24
      go_wp2_with fail
      generalize ((w.alloc (Obj.cells #[.int .i64 f.id, .int .i64 f.kind, .slice A1 f.name.length c1, .int .i64 f.short, .int .i64 f.size, .int .i64 f.len, .int .i64 f.recs, .int .i64 f.state, .slice A2 f.rules.length c2] 25)).alloc (Obj.cells #[.int .i64 g.id, .int .i64 g.kind, .slice A3 g.name.length c3, .int .i64 g.short, .int .i64 g.size, .int .i64 g.len, .int .i64 g.recs, .int .i64 g.state, .slice A4 g.rules.length c4] 25)) = w1 at *
      have htd := hbd.out
      refine wp_region_held_drew (S := (fun w' => w'.cell? ⟨w.heap.size, 0, none⟩ = some (.int .i64 f.id) ∧ w'.cell? ⟨w.heap.size, 1, none⟩ = some (.int .i64 f.kind) ∧ w'.cell? ⟨w.heap.size, 2, none⟩ = some (.slice A1 f.name.length c1) ∧ w'.cell? ⟨w.heap.size, 3, none⟩ = some (.int .i64 f.short) ∧ w'.cell? ⟨w.heap.size, 4, none⟩ = some (.int .i64 f.size) ∧ w'.cell? ⟨w.heap.size, 5, none⟩ = some (.int .i64 f.len) ∧ w'.cell? ⟨w.heap.size, 6, none⟩ = some (.int .i64 f.recs) ∧ w'.cell? ⟨w.heap.size, 7, none⟩ = some (.int .i64 f.state) ∧ w'.cell? ⟨w.heap.size, 8, none⟩ = some (.slice A2 f.rules.length c2) ∧ w'.cell? ⟨w.heap.size + 1, 0, none⟩ = some (.int .i64 g.id) ∧ w'.cell? ⟨w.heap.size + 1, 1, none⟩ = some (.int .i64 g.kind) ∧ w'.cell? ⟨w.heap.size + 1, 2, none⟩ = some (.slice A3 g.name.length c3) ∧ w'.cell? ⟨w.heap.size + 1, 3, none⟩ = some (.int .i64 g.short) ∧ w'.cell? ⟨w.heap.size + 1, 4, none⟩ = some (.int .i64 g.size) ∧ w'.cell? ⟨w.heap.size + 1, 5, none⟩ = some (.int .i64 g.len) ∧ w'.cell? ⟨w.heap.size + 1, 6, none⟩ = some (.int .i64 g.recs) ∧ w'.cell? ⟨w.heap.size + 1, 7, none⟩ = some (.int .i64 g.state) ∧ w'.cell? ⟨w.heap.size + 1, 8, none⟩ = some (.slice A4 g.rules.length c4))) (by kernel_rfl) (HS.out _ htd) (fun hHeld => ?_)
      change wpAnyH _ _ _ _ _ 20 (Array.replicate 20 false) _ w1.drew
      refine wpAnyH_takeG 0 5 (.agg #[.int .i64 f.id, .int .i64 f.kind, .slice A1 f.name.length c1, .int .i64 f.short, .int .i64 f.size, .int .i64 f.len, .int .i64 f.recs, .int .i64 f.state, .slice A2 f.rules.length c2]) rfl rfl (by kernel_rfl) (by kernel_rfl) (by kernel_rfl) (fun _ _ _ h => h) rfl ?_ (HS.out _ htd) ?_
      · rintro w ⟨s0, s1, s2, s3, s4, s5, s6, s7, s8, s9, s10, s11, s12, s13, s14, s15, s16, s17⟩
        go_simp
        try with_reducible rfl
      try simp only [Act.put, List.setIfInBounds_toArray, List.set_cons_zero, List.set_cons_succ]
      refine wpAnyH_takeG 2 7 (.agg #[.int .i64 g.id, .int .i64 g.kind, .slice A3 g.name.length c3, .int .i64 g.short, .int .i64 g.size, .int .i64 g.len, .int .i64 g.recs, .int .i64 g.state, .slice A4 g.rules.length c4]) rfl rfl (by kernel_rfl) (by kernel_rfl) (by kernel_rfl) (fun _ _ _ h => h) rfl ?_ (HS.out _ htd) ?_
      · rintro w ⟨s0, s1, s2, s3, s4, s5, s6, s7, s8, s9, s10, s11, s12, s13, s14, s15, s16, s17⟩
        go_simp
        try with_reducible rfl
      try simp only [Act.put, List.setIfInBounds_toArray, List.set_cons_zero, List.set_cons_succ]
      refine wpAnyH_oneG (i := 1) (by kernel_rfl) rfl rfl ?_
      intro Kx hKx
      go_simp
      refine (HN1.out _).mono ?_
      rintro e w3 ⟨rfl, hb⟩
      have ht3 : Below (w.heap.size + 2) w1 w3 := htd.trans (hb.mono (Nat.le_trans (Nat.le_of_eq HZ.out.symm) htd.size))
      clear hb
      dsimp only
      refine hKx _ _ (HS.out _ ht3) ?_
      clear hKx Kx
      try simp only [Act.put, List.setIfInBounds_toArray, List.set_cons_zero, List.set_cons_succ]
      refine wpAnyH_oneG (i := 3) (by kernel_rfl) rfl rfl ?_
      intro Kx hKx
      go_simp
      refine (HN2.out _).mono ?_
      rintro e w4 ⟨rfl, hb⟩
      have ht4 : Below (w.heap.size + 2) w1 w4 := ht3.trans (hb.mono (Nat.le_trans (Nat.le_of_eq HZ.out.symm) ht3.size))
      clear hb
      dsimp only
      refine hKx _ _ (HS.out _ ht4) ?_
      clear hKx Kx
      try simp only [Act.put, List.setIfInBounds_toArray, List.set_cons_zero, List.set_cons_succ]
      refine wpAnyH_takeG 4 9 (.bool true) rfl rfl (by kernel_rfl) (by kernel_rfl) (by kernel_rfl) (fun _ _ _ h => h) rfl ?_ (HS.out _ ht4) ?_
      · rintro w ⟨s0, s1, s2, s3, s4, s5, s6, s7, s8, s9, s10, s11, s12, s13, s14, s15, s16, s17⟩
        go_simp
        try rw [eqG_run]
        try simp only [Result.andThen_ok]
        try rfl
        try with_reducible rfl
      try simp only [Act.put, List.setIfInBounds_toArray, List.set_cons_zero, List.set_cons_succ]
      refine wpAnyH_takeG 5 10 (.bool true) rfl rfl (by kernel_rfl) (by kernel_rfl) (by kernel_rfl) (fun _ _ _ h => h) rfl ?_ (HS.out _ ht4) ?_
      · rintro w ⟨s0, s1, s2, s3, s4, s5, s6, s7, s8, s9, s10, s11, s12, s13, s14, s15, s16, s17⟩
        go_simp
        try with_reducible rfl
      try simp only [Act.put, List.setIfInBounds_toArray, List.set_cons_zero, List.set_cons_succ]
      refine wpAnyH_takeG 6 11 (.pointer (some ⟨w.heap.size, 2, none⟩)) rfl rfl (by kernel_rfl) (by kernel_rfl) (by kernel_rfl) (fun _ _ _ h => h) rfl ?_ (HS.out _ ht4) ?_
      · rintro w ⟨s0, s1, s2, s3, s4, s5, s6, s7, s8, s9, s10, s11, s12, s13, s14, s15, s16, s17⟩
        go_simp
        try with_reducible rfl
      try simp only [Act.put, List.setIfInBounds_toArray, List.set_cons_zero, List.set_cons_succ]
      refine wpAnyH_takeG 7 12 (.slice A1 f.name.length c1) rfl rfl (by kernel_rfl) (by kernel_rfl) (by kernel_rfl) (fun _ _ _ h => h) rfl ?_ (HS.out _ ht4) ?_
      · rintro w ⟨s0, s1, s2, s3, s4, s5, s6, s7, s8, s9, s10, s11, s12, s13, s14, s15, s16, s17⟩
        go_simp
        try with_reducible rfl
      try simp only [Act.put, List.setIfInBounds_toArray, List.set_cons_zero, List.set_cons_succ]
      refine wpAnyH_takeG 8 13 (.pointer (some ⟨w.heap.size + 1, 2, none⟩)) rfl rfl (by kernel_rfl) (by kernel_rfl) (by kernel_rfl) (fun _ _ _ h => h) rfl ?_ (HS.out _ ht4) ?_
      · rintro w ⟨s0, s1, s2, s3, s4, s5, s6, s7, s8, s9, s10, s11, s12, s13, s14, s15, s16, s17⟩
        go_simp
        try with_reducible rfl
      try simp only [Act.put, List.setIfInBounds_toArray, List.set_cons_zero, List.set_cons_succ]
      refine wpAnyH_takeG 9 14 (.slice A3 g.name.length c3) rfl rfl (by kernel_rfl) (by kernel_rfl) (by kernel_rfl) (fun _ _ _ h => h) rfl ?_ (HS.out _ ht4) ?_
      · rintro w ⟨s0, s1, s2, s3, s4, s5, s6, s7, s8, s9, s10, s11, s12, s13, s14, s15, s16, s17⟩
        go_simp
        try with_reducible rfl
      try simp only [Act.put, List.setIfInBounds_toArray, List.set_cons_zero, List.set_cons_succ]
      refine wpAnyH_oneG (i := 10) (by kernel_rfl) rfl rfl ?_
      intro Kx hKx
      go_simp
      refine (HBE.out _ ht4).mono ?_
      rintro e w5 ⟨rfl, hb⟩
      have ht5 : Below (w.heap.size + 2) w1 w5 := by rw [hb]; exact ht4
      clear hb
      dsimp only
      refine hKx _ _ (HS.out _ ht5) ?_
      clear hKx Kx
      try simp only [Act.put, List.setIfInBounds_toArray, List.set_cons_zero, List.set_cons_succ]
      refine wpAnyH_takeG 11 16 (.bool true) rfl rfl (by kernel_rfl) (by kernel_rfl) (by kernel_rfl) (fun _ _ _ h => h) rfl ?_ (HS.out _ ht5) ?_
      · rintro w ⟨s0, s1, s2, s3, s4, s5, s6, s7, s8, s9, s10, s11, s12, s13, s14, s15, s16, s17⟩
        go_simp
        try with_reducible rfl
      try simp only [Act.put, List.setIfInBounds_toArray, List.set_cons_zero, List.set_cons_succ]
      refine wpAnyH_takeG 12 17 (.bool true) rfl rfl (by kernel_rfl) (by kernel_rfl) (by kernel_rfl) (fun _ _ _ h => h) rfl ?_ (HS.out _ ht5) ?_
      · rintro w ⟨s0, s1, s2, s3, s4, s5, s6, s7, s8, s9, s10, s11, s12, s13, s14, s15, s16, s17⟩
        go_simp
        try with_reducible rfl
      try simp only [Act.put, List.setIfInBounds_toArray, List.set_cons_zero, List.set_cons_succ]
      refine wpAnyH_takeG 13 18 (.pointer (some ⟨w.heap.size, 8, none⟩)) rfl rfl (by kernel_rfl) (by kernel_rfl) (by kernel_rfl) (fun _ _ _ h => h) rfl ?_ (HS.out _ ht5) ?_
      · rintro w ⟨s0, s1, s2, s3, s4, s5, s6, s7, s8, s9, s10, s11, s12, s13, s14, s15, s16, s17⟩
        go_simp
        try with_reducible rfl
      try simp only [Act.put, List.setIfInBounds_toArray, List.set_cons_zero, List.set_cons_succ]
      refine wpAnyH_takeG 14 19 (.slice A2 f.rules.length c2) rfl rfl (by kernel_rfl) (by kernel_rfl) (by kernel_rfl) (fun _ _ _ h => h) rfl ?_ (HS.out _ ht5) ?_
      · rintro w ⟨s0, s1, s2, s3, s4, s5, s6, s7, s8, s9, s10, s11, s12, s13, s14, s15, s16, s17⟩
        go_simp
        try with_reducible rfl
      try simp only [Act.put, List.setIfInBounds_toArray, List.set_cons_zero, List.set_cons_succ]
      refine wpAnyH_takeG 15 20 (.pointer (some ⟨w.heap.size + 1, 8, none⟩)) rfl rfl (by kernel_rfl) (by kernel_rfl) (by kernel_rfl) (fun _ _ _ h => h) rfl ?_ (HS.out _ ht5) ?_
      · rintro w ⟨s0, s1, s2, s3, s4, s5, s6, s7, s8, s9, s10, s11, s12, s13, s14, s15, s16, s17⟩
        go_simp
        try with_reducible rfl
      try simp only [Act.put, List.setIfInBounds_toArray, List.set_cons_zero, List.set_cons_succ]
      refine wpAnyH_takeG 16 21 (.slice A4 g.rules.length c4) rfl rfl (by kernel_rfl) (by kernel_rfl) (by kernel_rfl) (fun _ _ _ h => h) rfl ?_ (HS.out _ ht5) ?_
      · rintro w ⟨s0, s1, s2, s3, s4, s5, s6, s7, s8, s9, s10, s11, s12, s13, s14, s15, s16, s17⟩
        go_simp
        try with_reducible rfl
      try simp only [Act.put, List.setIfInBounds_toArray, List.set_cons_zero, List.set_cons_succ]
      refine wpAnyH_oneG (i := 17) (by kernel_rfl) rfl rfl ?_
      intro Kx hKx
      go_simp
      refine (HRS.out _ ht5).mono ?_
      rintro e w6 ⟨rfl, hb⟩
      have ht6 : Below (w.heap.size + 2) w1 w6 := ht5.trans (hb.mono (Nat.le_trans (Nat.le_of_eq HZ.out.symm) ht5.size))
      clear hb
      dsimp only
      refine hKx _ _ (HS.out _ ht6) ?_
      clear hKx Kx
      try simp only [Act.put, List.setIfInBounds_toArray, List.set_cons_zero, List.set_cons_succ]
      refine wpAnyH_takeG 18 23 (.bool X) rfl rfl (by kernel_rfl) (by kernel_rfl) (by kernel_rfl) (fun _ _ _ h => h) rfl ?_ (HS.out _ ht6) ?_
      · rintro w ⟨s0, s1, s2, s3, s4, s5, s6, s7, s8, s9, s10, s11, s12, s13, s14, s15, s16, s17⟩
        go_simp
        try with_reducible rfl
      try simp only [Act.put, List.setIfInBounds_toArray, List.set_cons_zero, List.set_cons_succ]
      refine wpAnyH_oneG (i := 19) (by kernel_rfl) rfl rfl ?_
      intro Kx hKx
      go_simp
      refine hKx _ _ (HS.out _ ht6) ?_
      clear hKx Kx
      try simp only [Act.put, List.setIfInBounds_toArray, List.set_cons_zero, List.set_cons_succ]
      refine wpAnyH_done (by kernel_rfl) ?_ _
      go_wp2_with fail
      go_ret
      exact ⟨ret_bool (by rw [HSF.out]; rfl), HB.out.trans (ht6.mono (by omega))⟩
    · rw [decide_eq_false e2] at HBE HSF
      clear HEQ e1 e2
      go_enter Tryd.func24, Tryd.ntmps24
      go_wp2_with fail
      generalize ((w.alloc (Obj.cells #[.int .i64 f.id, .int .i64 f.kind, .slice A1 f.name.length c1, .int .i64 f.short, .int .i64 f.size, .int .i64 f.len, .int .i64 f.recs, .int .i64 f.state, .slice A2 f.rules.length c2] 25)).alloc (Obj.cells #[.int .i64 g.id, .int .i64 g.kind, .slice A3 g.name.length c3, .int .i64 g.short, .int .i64 g.size, .int .i64 g.len, .int .i64 g.recs, .int .i64 g.state, .slice A4 g.rules.length c4] 25)) = w1 at *
      have htd := hbd.out
      refine wp_region_held_drew (S := (fun w' => w'.cell? ⟨w.heap.size, 0, none⟩ = some (.int .i64 f.id) ∧ w'.cell? ⟨w.heap.size, 1, none⟩ = some (.int .i64 f.kind) ∧ w'.cell? ⟨w.heap.size, 2, none⟩ = some (.slice A1 f.name.length c1) ∧ w'.cell? ⟨w.heap.size, 3, none⟩ = some (.int .i64 f.short) ∧ w'.cell? ⟨w.heap.size, 4, none⟩ = some (.int .i64 f.size) ∧ w'.cell? ⟨w.heap.size, 5, none⟩ = some (.int .i64 f.len) ∧ w'.cell? ⟨w.heap.size, 6, none⟩ = some (.int .i64 f.recs) ∧ w'.cell? ⟨w.heap.size, 7, none⟩ = some (.int .i64 f.state) ∧ w'.cell? ⟨w.heap.size, 8, none⟩ = some (.slice A2 f.rules.length c2) ∧ w'.cell? ⟨w.heap.size + 1, 0, none⟩ = some (.int .i64 g.id) ∧ w'.cell? ⟨w.heap.size + 1, 1, none⟩ = some (.int .i64 g.kind) ∧ w'.cell? ⟨w.heap.size + 1, 2, none⟩ = some (.slice A3 g.name.length c3) ∧ w'.cell? ⟨w.heap.size + 1, 3, none⟩ = some (.int .i64 g.short) ∧ w'.cell? ⟨w.heap.size + 1, 4, none⟩ = some (.int .i64 g.size) ∧ w'.cell? ⟨w.heap.size + 1, 5, none⟩ = some (.int .i64 g.len) ∧ w'.cell? ⟨w.heap.size + 1, 6, none⟩ = some (.int .i64 g.recs) ∧ w'.cell? ⟨w.heap.size + 1, 7, none⟩ = some (.int .i64 g.state) ∧ w'.cell? ⟨w.heap.size + 1, 8, none⟩ = some (.slice A4 g.rules.length c4))) (by kernel_rfl) (HS.out _ htd) (fun hHeld => ?_)
      change wpAnyH _ _ _ _ _ 20 (Array.replicate 20 false) _ w1.drew
      refine wpAnyH_takeG 0 5 (.agg #[.int .i64 f.id, .int .i64 f.kind, .slice A1 f.name.length c1, .int .i64 f.short, .int .i64 f.size, .int .i64 f.len, .int .i64 f.recs, .int .i64 f.state, .slice A2 f.rules.length c2]) rfl rfl (by kernel_rfl) (by kernel_rfl) (by kernel_rfl) (fun _ _ _ h => h) rfl ?_ (HS.out _ htd) ?_
      · rintro w ⟨s0, s1, s2, s3, s4, s5, s6, s7, s8, s9, s10, s11, s12, s13, s14, s15, s16, s17⟩
        go_simp
        try with_reducible rfl
      try simp only [Act.put, List.setIfInBounds_toArray, List.set_cons_zero, List.set_cons_succ]
      refine wpAnyH_takeG 2 7 (.agg #[.int .i64 g.id, .int .i64 g.kind, .slice A3 g.name.length c3, .int .i64 g.short, .int .i64 g.size, .int .i64 g.len, .int .i64 g.recs, .int .i64 g.state, .slice A4 g.rules.length c4]) rfl rfl (by kernel_rfl) (by kernel_rfl) (by kernel_rfl) (fun _ _ _ h => h) rfl ?_ (HS.out _ htd) ?_
      · rintro w ⟨s0, s1, s2, s3, s4, s5, s6, s7, s8, s9, s10, s11, s12, s13, s14, s15, s16, s17⟩
        go_simp
        try with_reducible rfl
      try simp only [Act.put, List.setIfInBounds_toArray, List.set_cons_zero, List.set_cons_succ]
      refine wpAnyH_oneG (i := 1) (by kernel_rfl) rfl rfl ?_
      intro Kx hKx
      go_simp
      refine (HN1.out _).mono ?_
      rintro e w3 ⟨rfl, hb⟩
      have ht3 : Below (w.heap.size + 2) w1 w3 := htd.trans (hb.mono (Nat.le_trans (Nat.le_of_eq HZ.out.symm) htd.size))
      clear hb
      dsimp only
      refine hKx _ _ (HS.out _ ht3) ?_
      clear hKx Kx
      try simp only [Act.put, List.setIfInBounds_toArray, List.set_cons_zero, List.set_cons_succ]
      refine wpAnyH_oneG (i := 3) (by kernel_rfl) rfl rfl ?_
      intro Kx hKx
      go_simp
      refine (HN2.out _).mono ?_
      rintro e w4 ⟨rfl, hb⟩
      have ht4 : Below (w.heap.size + 2) w1 w4 := ht3.trans (hb.mono (Nat.le_trans (Nat.le_of_eq HZ.out.symm) ht3.size))
      clear hb
      dsimp only
      refine hKx _ _ (HS.out _ ht4) ?_
      clear hKx Kx
      try simp only [Act.put, List.setIfInBounds_toArray, List.set_cons_zero, List.set_cons_succ]
      refine wpAnyH_takeG 4 9 (.bool true) rfl rfl (by kernel_rfl) (by kernel_rfl) (by kernel_rfl) (fun _ _ _ h => h) rfl ?_ (HS.out _ ht4) ?_
      · rintro w ⟨s0, s1, s2, s3, s4, s5, s6, s7, s8, s9, s10, s11, s12, s13, s14, s15, s16, s17⟩
        go_simp
        try rw [eqG_run]
        try simp only [Result.andThen_ok]
        try rfl
        try with_reducible rfl
      try simp only [Act.put, List.setIfInBounds_toArray, List.set_cons_zero, List.set_cons_succ]
      refine wpAnyH_takeG 5 10 (.bool true) rfl rfl (by kernel_rfl) (by kernel_rfl) (by kernel_rfl) (fun _ _ _ h => h) rfl ?_ (HS.out _ ht4) ?_
      · rintro w ⟨s0, s1, s2, s3, s4, s5, s6, s7, s8, s9, s10, s11, s12, s13, s14, s15, s16, s17⟩
        go_simp
        try with_reducible rfl
      try simp only [Act.put, List.setIfInBounds_toArray, List.set_cons_zero, List.set_cons_succ]
      refine wpAnyH_takeG 6 11 (.pointer (some ⟨w.heap.size, 2, none⟩)) rfl rfl (by kernel_rfl) (by kernel_rfl) (by kernel_rfl) (fun _ _ _ h => h) rfl ?_ (HS.out _ ht4) ?_
      · rintro w ⟨s0, s1, s2, s3, s4, s5, s6, s7, s8, s9, s10, s11, s12, s13, s14, s15, s16, s17⟩
        go_simp
        try with_reducible rfl
      try simp only [Act.put, List.setIfInBounds_toArray, List.set_cons_zero, List.set_cons_succ]
      refine wpAnyH_takeG 7 12 (.slice A1 f.name.length c1) rfl rfl (by kernel_rfl) (by kernel_rfl) (by kernel_rfl) (fun _ _ _ h => h) rfl ?_ (HS.out _ ht4) ?_
      · rintro w ⟨s0, s1, s2, s3, s4, s5, s6, s7, s8, s9, s10, s11, s12, s13, s14, s15, s16, s17⟩
        go_simp
        try with_reducible rfl
      try simp only [Act.put, List.setIfInBounds_toArray, List.set_cons_zero, List.set_cons_succ]
      refine wpAnyH_takeG 8 13 (.pointer (some ⟨w.heap.size + 1, 2, none⟩)) rfl rfl (by kernel_rfl) (by kernel_rfl) (by kernel_rfl) (fun _ _ _ h => h) rfl ?_ (HS.out _ ht4) ?_
      · rintro w ⟨s0, s1, s2, s3, s4, s5, s6, s7, s8, s9, s10, s11, s12, s13, s14, s15, s16, s17⟩
        go_simp
        try with_reducible rfl
      try simp only [Act.put, List.setIfInBounds_toArray, List.set_cons_zero, List.set_cons_succ]
      refine wpAnyH_takeG 9 14 (.slice A3 g.name.length c3) rfl rfl (by kernel_rfl) (by kernel_rfl) (by kernel_rfl) (fun _ _ _ h => h) rfl ?_ (HS.out _ ht4) ?_
      · rintro w ⟨s0, s1, s2, s3, s4, s5, s6, s7, s8, s9, s10, s11, s12, s13, s14, s15, s16, s17⟩
        go_simp
        try with_reducible rfl
      try simp only [Act.put, List.setIfInBounds_toArray, List.set_cons_zero, List.set_cons_succ]
      refine wpAnyH_oneG (i := 10) (by kernel_rfl) rfl rfl ?_
      intro Kx hKx
      go_simp
      refine (HBE.out _ ht4).mono ?_
      rintro e w5 ⟨rfl, hb⟩
      have ht5 : Below (w.heap.size + 2) w1 w5 := by rw [hb]; exact ht4
      clear hb
      dsimp only
      refine hKx _ _ (HS.out _ ht5) ?_
      clear hKx Kx
      try simp only [Act.put, List.setIfInBounds_toArray, List.set_cons_zero, List.set_cons_succ]
      refine wpAnyH_takeG 11 16 (.bool false) rfl rfl (by kernel_rfl) (by kernel_rfl) (by kernel_rfl) (fun _ _ _ h => h) rfl ?_ (HS.out _ ht5) ?_
      · rintro w ⟨s0, s1, s2, s3, s4, s5, s6, s7, s8, s9, s10, s11, s12, s13, s14, s15, s16, s17⟩
        go_simp
        try with_reducible rfl
      try simp only [Act.put, List.setIfInBounds_toArray, List.set_cons_zero, List.set_cons_succ]
      refine wpAnyH_takeG 12 17 (.bool false) rfl rfl (by kernel_rfl) (by kernel_rfl) (by kernel_rfl) (fun _ _ _ h => h) rfl ?_ (HS.out _ ht5) ?_
      · rintro w ⟨s0, s1, s2, s3, s4, s5, s6, s7, s8, s9, s10, s11, s12, s13, s14, s15, s16, s17⟩
        go_simp
        try with_reducible rfl
      try simp only [Act.put, List.setIfInBounds_toArray, List.set_cons_zero, List.set_cons_succ]
      refine wpAnyH_takeU 13 18 rfl rfl (by kernel_rfl) (by kernel_rfl) (by kernel_rfl) (fun _ _ _ h => h) rfl (HS.out _ ht5) ?_
      try simp only [Act.put, List.setIfInBounds_toArray, List.set_cons_zero, List.set_cons_succ]
      refine wpAnyH_takeU 14 19 rfl rfl (by kernel_rfl) (by kernel_rfl) (by kernel_rfl) (fun _ _ _ h => h) rfl (HS.out _ ht5) ?_
      try simp only [Act.put, List.setIfInBounds_toArray, List.set_cons_zero, List.set_cons_succ]
      refine wpAnyH_takeU 15 20 rfl rfl (by kernel_rfl) (by kernel_rfl) (by kernel_rfl) (fun _ _ _ h => h) rfl (HS.out _ ht5) ?_
      try simp only [Act.put, List.setIfInBounds_toArray, List.set_cons_zero, List.set_cons_succ]
      refine wpAnyH_takeU 16 21 rfl rfl (by kernel_rfl) (by kernel_rfl) (by kernel_rfl) (fun _ _ _ h => h) rfl (HS.out _ ht5) ?_
      try simp only [Act.put, List.setIfInBounds_toArray, List.set_cons_zero, List.set_cons_succ]
      refine wpAnyH_takeU 17 22 rfl rfl (by kernel_rfl) (by kernel_rfl) (by kernel_rfl) (fun _ _ _ h => h) rfl (HS.out _ ht5) ?_
      try simp only [Act.put, List.setIfInBounds_toArray, List.set_cons_zero, List.set_cons_succ]
      refine wpAnyH_takeG 18 23 (.bool false) rfl rfl (by kernel_rfl) (by kernel_rfl) (by kernel_rfl) (fun _ _ _ h => h) rfl ?_ (HS.out _ ht5) ?_
      · rintro w ⟨s0, s1, s2, s3, s4, s5, s6, s7, s8, s9, s10, s11, s12, s13, s14, s15, s16, s17⟩
        go_simp
        try with_reducible rfl
      try simp only [Act.put, List.setIfInBounds_toArray, List.set_cons_zero, List.set_cons_succ]
      refine wpAnyH_oneG (i := 19) (by kernel_rfl) rfl rfl ?_
      intro Kx hKx
      go_simp
      refine hKx _ _ (HS.out _ ht5) ?_
      clear hKx Kx
      try simp only [Act.put, List.setIfInBounds_toArray, List.set_cons_zero, List.set_cons_succ]
      refine wpAnyH_done (by kernel_rfl) ?_ _
      go_wp2_with fail
      go_ret
      exact ⟨ret_bool (by rw [HSF.out]; rfl), HB.out.trans (ht5.mono (by omega))⟩
  · rw [decide_eq_false e1] at HEQ HSF
    have hEQ := HEQ.out
    clear HEQ e1
    go_enter Tryd.func24, Tryd.ntmps24
    go_wp2_with fail
    generalize ((w.alloc (Obj.cells #[.int .i64 f.id, .int .i64 f.kind, .slice A1 f.name.length c1, .int .i64 f.short, .int .i64 f.size, .int .i64 f.len, .int .i64 f.recs, .int .i64 f.state, .slice A2 f.rules.length c2] 25)).alloc (Obj.cells #[.int .i64 g.id, .int .i64 g.kind, .slice A3 g.name.length c3, .int .i64 g.short, .int .i64 g.size, .int .i64 g.len, .int .i64 g.recs, .int .i64 g.state, .slice A4 g.rules.length c4] 25)) = w1 at *
    have htd := hbd.out
    refine wp_region_held_drew (S := (fun w' => w'.cell? ⟨w.heap.size, 0, none⟩ = some (.int .i64 f.id) ∧ w'.cell? ⟨w.heap.size, 1, none⟩ = some (.int .i64 f.kind) ∧ w'.cell? ⟨w.heap.size, 2, none⟩ = some (.slice A1 f.name.length c1) ∧ w'.cell? ⟨w.heap.size, 3, none⟩ = some (.int .i64 f.short) ∧ w'.cell? ⟨w.heap.size, 4, none⟩ = some (.int .i64 f.size) ∧ w'.cell? ⟨w.heap.size, 5, none⟩ = some (.int .i64 f.len) ∧ w'.cell? ⟨w.heap.size, 6, none⟩ = some (.int .i64 f.recs) ∧ w'.cell? ⟨w.heap.size, 7, none⟩ = some (.int .i64 f.state) ∧ w'.cell? ⟨w.heap.size, 8, none⟩ = some (.slice A2 f.rules.length c2) ∧ w'.cell? ⟨w.heap.size + 1, 0, none⟩ = some (.int .i64 g.id) ∧ w'.cell? ⟨w.heap.size + 1, 1, none⟩ = some (.int .i64 g.kind) ∧ w'.cell? ⟨w.heap.size + 1, 2, none⟩ = some (.slice A3 g.name.length c3) ∧ w'.cell? ⟨w.heap.size + 1, 3, none⟩ = some (.int .i64 g.short) ∧ w'.cell? ⟨w.heap.size + 1, 4, none⟩ = some (.int .i64 g.size) ∧ w'.cell? ⟨w.heap.size + 1, 5, none⟩ = some (.int .i64 g.len) ∧ w'.cell? ⟨w.heap.size + 1, 6, none⟩ = some (.int .i64 g.recs) ∧ w'.cell? ⟨w.heap.size + 1, 7, none⟩ = some (.int .i64 g.state) ∧ w'.cell? ⟨w.heap.size + 1, 8, none⟩ = some (.slice A4 g.rules.length c4))) (by kernel_rfl) (HS.out _ htd) (fun hHeld => ?_)
    change wpAnyH _ _ _ _ _ 20 (Array.replicate 20 false) _ w1.drew
    refine wpAnyH_takeG 0 5 (.agg #[.int .i64 f.id, .int .i64 f.kind, .slice A1 f.name.length c1, .int .i64 f.short, .int .i64 f.size, .int .i64 f.len, .int .i64 f.recs, .int .i64 f.state, .slice A2 f.rules.length c2]) rfl rfl (by kernel_rfl) (by kernel_rfl) (by kernel_rfl) (fun _ _ _ h => h) rfl ?_ (HS.out _ htd) ?_
    · rintro w ⟨s0, s1, s2, s3, s4, s5, s6, s7, s8, s9, s10, s11, s12, s13, s14, s15, s16, s17⟩
      go_simp
      try with_reducible rfl
    try simp only [Act.put, List.setIfInBounds_toArray, List.set_cons_zero, List.set_cons_succ]
    refine wpAnyH_takeG 2 7 (.agg #[.int .i64 g.id, .int .i64 g.kind, .slice A3 g.name.length c3, .int .i64 g.short, .int .i64 g.size, .int .i64 g.len, .int .i64 g.recs, .int .i64 g.state, .slice A4 g.rules.length c4]) rfl rfl (by kernel_rfl) (by kernel_rfl) (by kernel_rfl) (fun _ _ _ h => h) rfl ?_ (HS.out _ htd) ?_
    · rintro w ⟨s0, s1, s2, s3, s4, s5, s6, s7, s8, s9, s10, s11, s12, s13, s14, s15, s16, s17⟩
      go_simp
      try with_reducible rfl
    try simp only [Act.put, List.setIfInBounds_toArray, List.set_cons_zero, List.set_cons_succ]
    refine wpAnyH_oneG (i := 1) (by kernel_rfl) rfl rfl ?_
    intro Kx hKx
    go_simp
    refine (HN1.out _).mono ?_
    rintro e w3 ⟨rfl, hb⟩
    have ht3 : Below (w.heap.size + 2) w1 w3 := htd.trans (hb.mono (Nat.le_trans (Nat.le_of_eq HZ.out.symm) htd.size))
    clear hb
    dsimp only
    refine hKx _ _ (HS.out _ ht3) ?_
    clear hKx Kx
    try simp only [Act.put, List.setIfInBounds_toArray, List.set_cons_zero, List.set_cons_succ]
    refine wpAnyH_oneG (i := 3) (by kernel_rfl) rfl rfl ?_
    intro Kx hKx
    go_simp
    refine (HN2.out _).mono ?_
    rintro e w4 ⟨rfl, hb⟩
    have ht4 : Below (w.heap.size + 2) w1 w4 := ht3.trans (hb.mono (Nat.le_trans (Nat.le_of_eq HZ.out.symm) ht3.size))
    clear hb
    dsimp only
    refine hKx _ _ (HS.out _ ht4) ?_
    clear hKx Kx
    try simp only [Act.put, List.setIfInBounds_toArray, List.set_cons_zero, List.set_cons_succ]
    refine wpAnyH_takeG 4 9 (.bool false) rfl rfl (by kernel_rfl) (by kernel_rfl) (by kernel_rfl) (fun _ _ _ h => h) rfl ?_ (HS.out _ ht4) ?_
    · rintro w ⟨s0, s1, s2, s3, s4, s5, s6, s7, s8, s9, s10, s11, s12, s13, s14, s15, s16, s17⟩
      go_simp
      try rw [eqG_run]
      try simp only [Result.andThen_ok]
      try rfl
      try with_reducible rfl
    try simp only [Act.put, List.setIfInBounds_toArray, List.set_cons_zero, List.set_cons_succ]
    refine wpAnyH_takeG 5 10 (.bool false) rfl rfl (by kernel_rfl) (by kernel_rfl) (by kernel_rfl) (fun _ _ _ h => h) rfl ?_ (HS.out _ ht4) ?_
    · rintro w ⟨s0, s1, s2, s3, s4, s5, s6, s7, s8, s9, s10, s11, s12, s13, s14, s15, s16, s17⟩
      go_simp
      try with_reducible rfl
    try simp only [Act.put, List.setIfInBounds_toArray, List.set_cons_zero, List.set_cons_succ]
    refine wpAnyH_takeU 6 11 rfl rfl (by kernel_rfl) (by kernel_rfl) (by kernel_rfl) (fun _ _ _ h => h) rfl (HS.out _ ht4) ?_
    try simp only [Act.put, List.setIfInBounds_toArray, List.set_cons_zero, List.set_cons_succ]
    refine wpAnyH_takeU 7 12 rfl rfl (by kernel_rfl) (by kernel_rfl) (by kernel_rfl) (fun _ _ _ h => h) rfl (HS.out _ ht4) ?_
    try simp only [Act.put, List.setIfInBounds_toArray, List.set_cons_zero, List.set_cons_succ]
    refine wpAnyH_takeU 8 13 rfl rfl (by kernel_rfl) (by kernel_rfl) (by kernel_rfl) (fun _ _ _ h => h) rfl (HS.out _ ht4) ?_
    try simp only [Act.put, List.setIfInBounds_toArray, List.set_cons_zero, List.set_cons_succ]
    refine wpAnyH_takeU 9 14 rfl rfl (by kernel_rfl) (by kernel_rfl) (by kernel_rfl) (fun _ _ _ h => h) rfl (HS.out _ ht4) ?_
    try simp only [Act.put, List.setIfInBounds_toArray, List.set_cons_zero, List.set_cons_succ]
    refine wpAnyH_takeU 10 15 rfl rfl (by kernel_rfl) (by kernel_rfl) (by kernel_rfl) (fun _ _ _ h => h) rfl (HS.out _ ht4) ?_
    try simp only [Act.put, List.setIfInBounds_toArray, List.set_cons_zero, List.set_cons_succ]
    refine wpAnyH_takeG 11 16 (.bool false) rfl rfl (by kernel_rfl) (by kernel_rfl) (by kernel_rfl) (fun _ _ _ h => h) rfl ?_ (HS.out _ ht4) ?_
    · rintro w ⟨s0, s1, s2, s3, s4, s5, s6, s7, s8, s9, s10, s11, s12, s13, s14, s15, s16, s17⟩
      go_simp
      try with_reducible rfl
    try simp only [Act.put, List.setIfInBounds_toArray, List.set_cons_zero, List.set_cons_succ]
    refine wpAnyH_takeG 12 17 (.bool false) rfl rfl (by kernel_rfl) (by kernel_rfl) (by kernel_rfl) (fun _ _ _ h => h) rfl ?_ (HS.out _ ht4) ?_
    · rintro w ⟨s0, s1, s2, s3, s4, s5, s6, s7, s8, s9, s10, s11, s12, s13, s14, s15, s16, s17⟩
      go_simp
      try with_reducible rfl
    try simp only [Act.put, List.setIfInBounds_toArray, List.set_cons_zero, List.set_cons_succ]
    refine wpAnyH_takeU 13 18 rfl rfl (by kernel_rfl) (by kernel_rfl) (by kernel_rfl) (fun _ _ _ h => h) rfl (HS.out _ ht4) ?_
    try simp only [Act.put, List.setIfInBounds_toArray, List.set_cons_zero, List.set_cons_succ]
    refine wpAnyH_takeU 14 19 rfl rfl (by kernel_rfl) (by kernel_rfl) (by kernel_rfl) (fun _ _ _ h => h) rfl (HS.out _ ht4) ?_
    try simp only [Act.put, List.setIfInBounds_toArray, List.set_cons_zero, List.set_cons_succ]
    refine wpAnyH_takeU 15 20 rfl rfl (by kernel_rfl) (by kernel_rfl) (by kernel_rfl) (fun _ _ _ h => h) rfl (HS.out _ ht4) ?_
    try simp only [Act.put, List.setIfInBounds_toArray, List.set_cons_zero, List.set_cons_succ]
    refine wpAnyH_takeU 16 21 rfl rfl (by kernel_rfl) (by kernel_rfl) (by kernel_rfl) (fun _ _ _ h => h) rfl (HS.out _ ht4) ?_
    try simp only [Act.put, List.setIfInBounds_toArray, List.set_cons_zero, List.set_cons_succ]
    refine wpAnyH_takeU 17 22 rfl rfl (by kernel_rfl) (by kernel_rfl) (by kernel_rfl) (fun _ _ _ h => h) rfl (HS.out _ ht4) ?_
    try simp only [Act.put, List.setIfInBounds_toArray, List.set_cons_zero, List.set_cons_succ]
    refine wpAnyH_takeG 18 23 (.bool false) rfl rfl (by kernel_rfl) (by kernel_rfl) (by kernel_rfl) (fun _ _ _ h => h) rfl ?_ (HS.out _ ht4) ?_
    · rintro w ⟨s0, s1, s2, s3, s4, s5, s6, s7, s8, s9, s10, s11, s12, s13, s14, s15, s16, s17⟩
      go_simp
      try with_reducible rfl
    try simp only [Act.put, List.setIfInBounds_toArray, List.set_cons_zero, List.set_cons_succ]
    refine wpAnyH_oneG (i := 19) (by kernel_rfl) rfl rfl ?_
    intro Kx hKx
    go_simp
    refine hKx _ _ (HS.out _ ht4) ?_
    clear hKx Kx
    try simp only [Act.put, List.setIfInBounds_toArray, List.set_cons_zero, List.set_cons_succ]
    refine wpAnyH_done (by kernel_rfl) ?_ _
    go_wp2_with fail
    go_ret
    exact ⟨ret_bool (by rw [HSF.out]; rfl), HB.out.trans (ht4.mono (by omega))⟩
end Go.Proofs.YtkjcafhaenkpbaaDoor
