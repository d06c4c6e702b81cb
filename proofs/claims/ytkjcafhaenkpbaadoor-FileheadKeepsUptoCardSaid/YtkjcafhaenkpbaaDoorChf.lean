/-
  The walk of Check of headers, of the program.
  The walk of Check of headers, of the program.
  Check of headers, of the program, of any kind.
-/
import Derived.Test.YtkjcafhaenkpbaaDoorVau
namespace Go.Proofs.YtkjcafhaenkpbaaDoor
set_option linter.unusedVariables false
set_option linter.unusedSimpArgs false
open Go.RowKit


set_option maxRecDepth 100000 in
set_option maxHeartbeats 12800000 in
theorem pchf_one (f : Fl) (A1 : Option Addr) (c1 : Nat) (A2 : Option Addr) (c2 : Nat) (w : World) (hn1 : (f.name.length : Int) ≤ 9223372036854775807) (hk : RL w w.heap.size (.slice A2 f.rules.length c2) f.rules) (hT : Tb w) (hc : ∀ (k : Nat) (h : k < f.rules.length), f.rules[k].cond.cnt ≤ 2900000 ∧ f.rules[k].cond.dep ≤ 900) (kk : f.kind = 1) :
    Calls Tryd.prog 11 #[.agg #[.int .i64 f.id, .int .i64 f.kind, .slice A1 f.name.length c1, .int .i64 f.short, .int .i64 f.size, .int .i64 f.len, .int .i64 f.recs, .int .i64 f.state, .slice A2 f.rules.length c2]] w fun e w' => e = .returned (.int .i64 (chkF f)) ∧ Below w.heap.size w w' := by
  have HPC := Lib.hid fun (W : World) => pcont_any f A1 c1 A2 c2 W
  have HPR := Lib.hid fun (W : World) (hW : Below w.heap.size w W) => pchr_anyU f.rules _ W (hk.on hW) (hT.on hW) hc
  have HVS := Lib.hid fun (W : World) => vst_any f.state W
  have hcf : chkF f = if f.kind < 1 ∨ 5 < f.kind then 1 else if f.id < 1 ∨ 65534 < f.id ∨ f.id = 16383 then 2 else if 16 < f.name.length then 3 else if 0 < f.name.length ∧ ¬ f.kind = 1 then 4
    else if f.short < 0 ∨ 30 < f.short then 2 else if ¬ f.short = 0 ∧ f.kind = 1 then 4 else if ¬ sizE f = 0 then sizE f else if f.state < 1 ∨ 3 < f.state then 2 else chkR f.rules := rfl
  obtain ⟨RES, hRES⟩ : ∃ r : Int, r = chkF f := ⟨_, rfl⟩
  rw [← hRES]
  rw [hcf] at hRES
  clear hcf hk hc hT
  generalize sizE f = SE at *
  generalize chkR f.rules = CR at *
  generalize f.rules.length = n2 at *
  generalize f.name.length = n1 at *
  generalize f.id = id at *
  generalize f.kind = kind at *
  generalize f.short = short at *
  generalize f.size = size at *
  generalize f.len = len at *
  generalize f.recs = recs at *
  generalize f.state = state at *
  have HB := Lib.hid (alloc_below w (Obj.cells #[Value.int IntKind.i64 id, Value.int IntKind.i64 kind, Value.slice A1 n1 c1, Value.int IntKind.i64 short, Value.int IntKind.i64 size, Value.int IntKind.i64 len, Value.int IntKind.i64 recs, Value.int IntKind.i64 state, Value.slice A2 n2 c2] 25))
  have HN := Lib.hid (heap_alloc_new w (Obj.cells #[Value.int IntKind.i64 id, Value.int IntKind.i64 kind, Value.slice A1 n1 c1, Value.int IntKind.i64 short, Value.int IntKind.i64 size, Value.int IntKind.i64 len, Value.int IntKind.i64 recs, Value.int IntKind.i64 state, Value.slice A2 n2 c2] 25))
  have HZ := Lib.hid (alloc_size w (Obj.cells #[Value.int IntKind.i64 id, Value.int IntKind.i64 kind, Value.slice A1 n1 c1, Value.int IntKind.i64 short, Value.int IntKind.i64 size, Value.int IntKind.i64 len, Value.int IntKind.i64 recs, Value.int IntKind.i64 state, Value.slice A2 n2 c2] 25))
  have HRES := Lib.hid hRES
  clear hRES
  subst kk
  have HRES := Lib.hid (HRES.out.trans (if_neg (show ¬ ((1 : Int) < 1 ∨ (5 : Int) < 1) by omega)))
  have HKD : Hid (1 ≤ (1 : Int) ∧ (1 : Int) ≤ 5) := ⟨by omega, by omega⟩
  by_cases hi : id < 1 ∨ 65534 < id ∨ id = 16383
  · have HRES := Lib.hid (HRES.out.trans (if_pos hi))
    rcases hi with h0 | h1 | h2
    · skip
      have d_h0 : decide (id < 1) = true := decide_eq_true h0
      have HG := Lib.hid (HRES.out)
      go_enter Tryd.func11, Tryd.ntmps11
      go_wp2_with fail
      go_ret
      exact ⟨ret_int HG.out.symm, HB.out⟩
    · skip
      have hn : ¬ id < 1 := by omega
      have d_hn : decide (id < 1) = false := decide_eq_false hn
      have d_h1 : decide (65534 < id) = true := decide_eq_true h1
      have HG := Lib.hid (HRES.out)
      go_enter Tryd.func11, Tryd.ntmps11
      go_wp2_with fail
      go_ret
      exact ⟨ret_int HG.out.symm, HB.out⟩
    · skip
      have hn : ¬ id < 1 := by omega
      have hn2 : ¬ 65534 < id := by omega
      have d_hn : decide (id < 1) = false := decide_eq_false hn
      have d_hn2 : decide (65534 < id) = false := decide_eq_false hn2
      subst h2
      have HG := Lib.hid (HRES.out)
      go_enter Tryd.func11, Tryd.ntmps11
      go_wp2_with fail
      go_ret
      exact ⟨ret_int HG.out.symm, HB.out⟩
  · have HRES := Lib.hid (HRES.out.trans (if_neg hi))
    have i1 : ¬ id < 1 := by omega
    have i6 : ¬ 65534 < id := by omega
    have ie : ¬ id = 16383 := by omega
    have d_i1 : decide (id < 1) = false := decide_eq_false i1
    have d_i6 : decide (65534 < id) = false := decide_eq_false i6
    have b_ie : (id == 16383) = false := by simpa using ie
    have c_ie : (id != 16383) = true := by simpa using ie
    have d_ie : decide (id = 16383) = false := decide_eq_false ie
    clear hi
    by_cases hn : 16 < n1
    · have HRES := Lib.hid (HRES.out.trans (if_pos hn))
      have h9 : (16 : Int) < (n1 : Int) := by omega
      have d_h9 : decide ((16 : Int) < (n1 : Int)) = true := decide_eq_true h9
      have HG := Lib.hid (HRES.out)
      go_enter Tryd.func11, Tryd.ntmps11
      go_wp2_with fail
      go_ret
      exact ⟨ret_int HG.out.symm, HB.out⟩
    · have HRES := Lib.hid (HRES.out.trans (if_neg hn))
      have n9 : ¬ (16 : Int) < (n1 : Int) := by omega
      have d_n9 : decide ((16 : Int) < (n1 : Int)) = false := decide_eq_false n9
      have HRES := Lib.hid (HRES.out.trans (if_neg (fun h => h.2 rfl)))
      have HCN : Hid (n1 = n1) := rfl
      by_cases n0 : (0 : Int) < (n1 : Int)
      all_goals
        by_cases hs : short < 0 ∨ 30 < short
        · have HRES := Lib.hid (HRES.out.trans (if_pos hs))
          rcases hs with h0 | h1
          · skip
            have d_h0 : decide (short < 0) = true := decide_eq_true h0
            have HG := Lib.hid (HRES.out)
            go_enter Tryd.func11, Tryd.ntmps11
            go_wp2_with fail
            go_ret
            exact ⟨ret_int HG.out.symm, HB.out⟩
          · skip
            have hm : ¬ short < 0 := by omega
            have d_hm : decide (short < 0) = false := decide_eq_false hm
            have d_h1 : decide (30 < short) = true := decide_eq_true h1
            have HG := Lib.hid (HRES.out)
            go_enter Tryd.func11, Tryd.ntmps11
            go_wp2_with fail
            go_ret
            exact ⟨ret_int HG.out.symm, HB.out⟩
        · have HRES := Lib.hid (HRES.out.trans (if_neg hs))
          have s0 : ¬ short < 0 := by omega
          have s3 : ¬ 30 < short := by omega
          have d_s0 : decide (short < 0) = false := decide_eq_false s0
          have d_s3 : decide (30 < short) = false := decide_eq_false s3
          clear hs
          by_cases sz : short = 0
          · have HRES := Lib.hid (HRES.out.trans (if_neg (fun h => h.1 sz)))
            subst sz
            by_cases se : ¬ SE = 0
            · have HRES := Lib.hid (HRES.out.trans (if_pos se))
              have b_se : (SE == 0) = false := by simpa using se
              have c_se : (SE != 0) = true := by simpa using se
              have d_se : decide (SE = 0) = false := decide_eq_false se
              have HG := Lib.hid (HRES.out)
              go_enter Tryd.func11, Tryd.ntmps11
              go_wp2_with fail
              refine (HPC.out _).mono ?_
              rintro e w2 ⟨rfl, hb2⟩
              have k2 := (hb2.block w.heap.size (by rw [HZ.out]; omega)).trans HN.out
              have q7 := cell_of_row _ _ 7 _ _ _ k2
              have q8 := cell_of_row _ _ 8 _ _ _ k2
              have HB2 := Lib.hid (HB.out.trans (hb2.mono HB.out.size))
              clear hb2 k2
              go_wp2_with fail
              go_ret
              exact ⟨ret_int HG.out.symm, HB2.out⟩
            · have HRES := Lib.hid (HRES.out.trans (if_neg se))
              have se2 : SE = 0 := by omega
              subst se2
              by_cases ht : state < 1 ∨ 3 < state
              · have HRES := Lib.hid (HRES.out.trans (if_pos ht))
                rcases ht with t1 | t3
                · skip
                  have d_t1 : decide (state < 1) = true := decide_eq_true t1
                  have e1 : decide (1 ≤ state) = false := decide_eq_false (by omega)
                  rw [e1, Bool.false_and] at HVS
                  clear e1
                  have HG := Lib.hid (HRES.out)
                  go_enter Tryd.func11, Tryd.ntmps11
                  go_wp2_with fail
                  refine (HPC.out _).mono ?_
                  rintro e w2 ⟨rfl, hb2⟩
                  have k2 := (hb2.block w.heap.size (by rw [HZ.out]; omega)).trans HN.out
                  have q7 := cell_of_row _ _ 7 _ _ _ k2
                  have q8 := cell_of_row _ _ 8 _ _ _ k2
                  have HB2 := Lib.hid (HB.out.trans (hb2.mono HB.out.size))
                  clear hb2 k2
                  go_wp2_with fail
                  refine (HVS.out _).mono ?_
                  rintro e w3 ⟨rfl, rfl⟩
                  go_wp2_with fail
                  go_ret
                  exact ⟨ret_int HG.out.symm, HB2.out⟩
                · have t1 : ¬ state < 1 := by omega
                  have d_t1 : decide (state < 1) = false := decide_eq_false t1
                  have d_t3 : decide (3 < state) = true := decide_eq_true t3
                  have e1 : decide (1 ≤ state) = true := decide_eq_true (by omega)
                  have e3 : decide (state ≤ 3) = false := decide_eq_false (by omega)
                  rw [e1, e3, Bool.true_and] at HVS
                  clear e1 e3
                  have HG := Lib.hid (HRES.out)
                  go_enter Tryd.func11, Tryd.ntmps11
                  go_wp2_with fail
                  refine (HPC.out _).mono ?_
                  rintro e w2 ⟨rfl, hb2⟩
                  have k2 := (hb2.block w.heap.size (by rw [HZ.out]; omega)).trans HN.out
                  have q7 := cell_of_row _ _ 7 _ _ _ k2
                  have q8 := cell_of_row _ _ 8 _ _ _ k2
                  have HB2 := Lib.hid (HB.out.trans (hb2.mono HB.out.size))
                  clear hb2 k2
                  go_wp2_with fail
                  refine (HVS.out _).mono ?_
                  rintro e w3 ⟨rfl, rfl⟩
                  go_wp2_with fail
                  go_ret
                  exact ⟨ret_int HG.out.symm, HB2.out⟩
              · have HRES := Lib.hid (HRES.out.trans (if_neg ht))
                have t1 : ¬ state < 1 := by omega
                have t3 : ¬ 3 < state := by omega
                have d_t1 : decide (state < 1) = false := decide_eq_false t1
                have d_t3 : decide (3 < state) = false := decide_eq_false t3
                have e1 : decide (1 ≤ state) = true := decide_eq_true (by omega)
                have e3 : decide (state ≤ 3) = true := decide_eq_true (by omega)
                rw [e1, e3, Bool.true_and] at HVS
                clear e1 e3
                clear ht
                have HG := Lib.hid (HRES.out)
                go_enter Tryd.func11, Tryd.ntmps11
                go_wp2_with fail
                refine (HPC.out _).mono ?_
                rintro e w2 ⟨rfl, hb2⟩
                have k2 := (hb2.block w.heap.size (by rw [HZ.out]; omega)).trans HN.out
                have q7 := cell_of_row _ _ 7 _ _ _ k2
                have q8 := cell_of_row _ _ 8 _ _ _ k2
                have HB2 := Lib.hid (HB.out.trans (hb2.mono HB.out.size))
                clear hb2 k2
                go_wp2_with fail
                refine (HVS.out _).mono ?_
                rintro e w3 ⟨rfl, rfl⟩
                go_wp2_with fail
                refine (HPR.out _ HB2.out).mono ?_
                rintro e w4 ⟨rfl, hb4⟩
                go_wp2_with fail
                go_ret
                exact ⟨ret_int HG.out.symm, HB2.out.trans (hb4.mono HB2.out.size)⟩
          · have HRES := Lib.hid (HRES.out.trans (if_pos ⟨sz, rfl⟩))
            have b_sz : (short == 0) = false := by simpa using sz
            have c_sz : (short != 0) = true := by simpa using sz
            have d_sz : decide (short = 0) = false := decide_eq_false sz
            have HG := Lib.hid (HRES.out)
            go_enter Tryd.func11, Tryd.ntmps11
            go_wp2_with fail
            go_ret
            exact ⟨ret_int HG.out.symm, HB.out⟩



set_option maxRecDepth 100000 in
set_option maxHeartbeats 12800000 in
theorem pchf_more (f : Fl) (A1 : Option Addr) (c1 : Nat) (A2 : Option Addr) (c2 : Nat) (w : World) (hn1 : (f.name.length : Int) ≤ 9223372036854775807) (hk : RL w w.heap.size (.slice A2 f.rules.length c2) f.rules) (hT : Tb w) (hc : ∀ (k : Nat) (h : k < f.rules.length), f.rules[k].cond.cnt ≤ 2900000 ∧ f.rules[k].cond.dep ≤ 900) (kk : ¬ f.kind = 1) :
    Calls Tryd.prog 11 #[.agg #[.int .i64 f.id, .int .i64 f.kind, .slice A1 f.name.length c1, .int .i64 f.short, .int .i64 f.size, .int .i64 f.len, .int .i64 f.recs, .int .i64 f.state, .slice A2 f.rules.length c2]] w fun e w' => e = .returned (.int .i64 (chkF f)) ∧ Below w.heap.size w w' := by
  have HPC := Lib.hid fun (W : World) => pcont_any f A1 c1 A2 c2 W
  have HPR := Lib.hid fun (W : World) (hW : Below w.heap.size w W) => pchr_anyU f.rules _ W (hk.on hW) (hT.on hW) hc
  have HVS := Lib.hid fun (W : World) => vst_any f.state W
  have hcf : chkF f = if f.kind < 1 ∨ 5 < f.kind then 1 else if f.id < 1 ∨ 65534 < f.id ∨ f.id = 16383 then 2 else if 16 < f.name.length then 3 else if 0 < f.name.length ∧ ¬ f.kind = 1 then 4
    else if f.short < 0 ∨ 30 < f.short then 2 else if ¬ f.short = 0 ∧ f.kind = 1 then 4 else if ¬ sizE f = 0 then sizE f else if f.state < 1 ∨ 3 < f.state then 2 else chkR f.rules := rfl
  obtain ⟨RES, hRES⟩ : ∃ r : Int, r = chkF f := ⟨_, rfl⟩
  rw [← hRES]
  rw [hcf] at hRES
  clear hcf hk hc hT
  generalize sizE f = SE at *
  generalize chkR f.rules = CR at *
  generalize f.rules.length = n2 at *
  generalize f.name.length = n1 at *
  generalize f.id = id at *
  generalize f.kind = kind at *
  generalize f.short = short at *
  generalize f.size = size at *
  generalize f.len = len at *
  generalize f.recs = recs at *
  generalize f.state = state at *
  have HB := Lib.hid (alloc_below w (Obj.cells #[Value.int IntKind.i64 id, Value.int IntKind.i64 kind, Value.slice A1 n1 c1, Value.int IntKind.i64 short, Value.int IntKind.i64 size, Value.int IntKind.i64 len, Value.int IntKind.i64 recs, Value.int IntKind.i64 state, Value.slice A2 n2 c2] 25))
  have HN := Lib.hid (heap_alloc_new w (Obj.cells #[Value.int IntKind.i64 id, Value.int IntKind.i64 kind, Value.slice A1 n1 c1, Value.int IntKind.i64 short, Value.int IntKind.i64 size, Value.int IntKind.i64 len, Value.int IntKind.i64 recs, Value.int IntKind.i64 state, Value.slice A2 n2 c2] 25))
  have HZ := Lib.hid (alloc_size w (Obj.cells #[Value.int IntKind.i64 id, Value.int IntKind.i64 kind, Value.slice A1 n1 c1, Value.int IntKind.i64 short, Value.int IntKind.i64 size, Value.int IntKind.i64 len, Value.int IntKind.i64 recs, Value.int IntKind.i64 state, Value.slice A2 n2 c2] 25))
  have HRES := Lib.hid hRES
  clear hRES
  by_cases hk : kind < 1 ∨ 5 < kind
  · have HRES := Lib.hid (HRES.out.trans (if_pos hk))
    rcases hk with h0 | h1
    · skip
      have d_h0 : decide (kind < 1) = true := decide_eq_true h0
      have HG := Lib.hid (HRES.out)
      go_enter Tryd.func11, Tryd.ntmps11
      go_wp2_with fail
      go_ret
      exact ⟨ret_int HG.out.symm, HB.out⟩
    · skip
      have hn : ¬ kind < 1 := by omega
      have d_hn : decide (kind < 1) = false := decide_eq_false hn
      have d_h1 : decide (5 < kind) = true := decide_eq_true h1
      have HG := Lib.hid (HRES.out)
      go_enter Tryd.func11, Tryd.ntmps11
      go_wp2_with fail
      go_ret
      exact ⟨ret_int HG.out.symm, HB.out⟩
  · have HRES := Lib.hid (HRES.out.trans (if_neg hk))
    have k1 : ¬ kind < 1 := by omega
    have k5 : ¬ 5 < kind := by omega
    have d_k1 : decide (kind < 1) = false := decide_eq_false k1
    have d_k5 : decide (5 < kind) = false := decide_eq_false k5
    have HKD : Hid (1 ≤ kind ∧ kind ≤ 5) := ⟨by omega, by omega⟩
    clear hk
    by_cases hi : id < 1 ∨ 65534 < id ∨ id = 16383
    · have HRES := Lib.hid (HRES.out.trans (if_pos hi))
      rcases hi with h0 | h1 | h2
      · skip
        have d_h0 : decide (id < 1) = true := decide_eq_true h0
        have HG := Lib.hid (HRES.out)
        go_enter Tryd.func11, Tryd.ntmps11
        go_wp2_with fail
        go_ret
        exact ⟨ret_int HG.out.symm, HB.out⟩
      · skip
        have hn : ¬ id < 1 := by omega
        have d_hn : decide (id < 1) = false := decide_eq_false hn
        have d_h1 : decide (65534 < id) = true := decide_eq_true h1
        have HG := Lib.hid (HRES.out)
        go_enter Tryd.func11, Tryd.ntmps11
        go_wp2_with fail
        go_ret
        exact ⟨ret_int HG.out.symm, HB.out⟩
      · skip
        have hn : ¬ id < 1 := by omega
        have hn2 : ¬ 65534 < id := by omega
        have d_hn : decide (id < 1) = false := decide_eq_false hn
        have d_hn2 : decide (65534 < id) = false := decide_eq_false hn2
        subst h2
        have HG := Lib.hid (HRES.out)
        go_enter Tryd.func11, Tryd.ntmps11
        go_wp2_with fail
        go_ret
        exact ⟨ret_int HG.out.symm, HB.out⟩
    · have HRES := Lib.hid (HRES.out.trans (if_neg hi))
      have i1 : ¬ id < 1 := by omega
      have i6 : ¬ 65534 < id := by omega
      have ie : ¬ id = 16383 := by omega
      have d_i1 : decide (id < 1) = false := decide_eq_false i1
      have d_i6 : decide (65534 < id) = false := decide_eq_false i6
      have b_ie : (id == 16383) = false := by simpa using ie
      have c_ie : (id != 16383) = true := by simpa using ie
      have d_ie : decide (id = 16383) = false := decide_eq_false ie
      clear hi
      by_cases hn : 16 < n1
      · have HRES := Lib.hid (HRES.out.trans (if_pos hn))
        have h9 : (16 : Int) < (n1 : Int) := by omega
        have d_h9 : decide ((16 : Int) < (n1 : Int)) = true := decide_eq_true h9
        have HG := Lib.hid (HRES.out)
        go_enter Tryd.func11, Tryd.ntmps11
        go_wp2_with fail
        go_ret
        exact ⟨ret_int HG.out.symm, HB.out⟩
      · have HRES := Lib.hid (HRES.out.trans (if_neg hn))
        have n9 : ¬ (16 : Int) < (n1 : Int) := by omega
        have d_n9 : decide ((16 : Int) < (n1 : Int)) = false := decide_eq_false n9
        have b_kk : (kind == 1) = false := by simpa using kk
        have c_kk : (kind != 1) = true := by simpa using kk
        have d_kk : decide (kind = 1) = false := decide_eq_false kk
        by_cases n0 : (0 : Int) < (n1 : Int)
        · have HRES := Lib.hid (HRES.out.trans (if_pos ⟨by omega, kk⟩))
          have d_n0 : decide ((0 : Int) < (n1 : Int)) = true := decide_eq_true n0
          have HG := Lib.hid (HRES.out)
          go_enter Tryd.func11, Tryd.ntmps11
          go_wp2_with fail
          go_ret
          exact ⟨ret_int HG.out.symm, HB.out⟩
        · have HRES := Lib.hid (HRES.out.trans (if_neg (fun h => n0 (by have := h.1; omega))))
          have d_n0 : decide ((0 : Int) < (n1 : Int)) = false := decide_eq_false n0
          by_cases hs : short < 0 ∨ 30 < short
          · have HRES := Lib.hid (HRES.out.trans (if_pos hs))
            rcases hs with h0 | h1
            · skip
              have d_h0 : decide (short < 0) = true := decide_eq_true h0
              have HG := Lib.hid (HRES.out)
              go_enter Tryd.func11, Tryd.ntmps11
              go_wp2_with fail
              go_ret
              exact ⟨ret_int HG.out.symm, HB.out⟩
            · skip
              have hm : ¬ short < 0 := by omega
              have d_hm : decide (short < 0) = false := decide_eq_false hm
              have d_h1 : decide (30 < short) = true := decide_eq_true h1
              have HG := Lib.hid (HRES.out)
              go_enter Tryd.func11, Tryd.ntmps11
              go_wp2_with fail
              go_ret
              exact ⟨ret_int HG.out.symm, HB.out⟩
          · have HRES := Lib.hid (HRES.out.trans (if_neg hs))
            have s0 : ¬ short < 0 := by omega
            have s3 : ¬ 30 < short := by omega
            have d_s0 : decide (short < 0) = false := decide_eq_false s0
            have d_s3 : decide (30 < short) = false := decide_eq_false s3
            clear hs
            have HRES := Lib.hid (HRES.out.trans (if_neg (fun h => kk h.2)))
            by_cases sz : short = 0
            · subst sz
              by_cases se : ¬ SE = 0
              · have HRES := Lib.hid (HRES.out.trans (if_pos se))
                have b_se : (SE == 0) = false := by simpa using se
                have c_se : (SE != 0) = true := by simpa using se
                have d_se : decide (SE = 0) = false := decide_eq_false se
                have HG := Lib.hid (HRES.out)
                go_enter Tryd.func11, Tryd.ntmps11
                go_wp2_with fail
                refine (HPC.out _).mono ?_
                rintro e w2 ⟨rfl, hb2⟩
                have k2 := (hb2.block w.heap.size (by rw [HZ.out]; omega)).trans HN.out
                have q7 := cell_of_row _ _ 7 _ _ _ k2
                have q8 := cell_of_row _ _ 8 _ _ _ k2
                have HB2 := Lib.hid (HB.out.trans (hb2.mono HB.out.size))
                clear hb2 k2
                go_wp2_with fail
                go_ret
                exact ⟨ret_int HG.out.symm, HB2.out⟩
              · have HRES := Lib.hid (HRES.out.trans (if_neg se))
                have se2 : SE = 0 := by omega
                subst se2
                by_cases ht : state < 1 ∨ 3 < state
                · have HRES := Lib.hid (HRES.out.trans (if_pos ht))
                  rcases ht with t1 | t3
                  · skip
                    have d_t1 : decide (state < 1) = true := decide_eq_true t1
                    have e1 : decide (1 ≤ state) = false := decide_eq_false (by omega)
                    rw [e1, Bool.false_and] at HVS
                    clear e1
                    have HG := Lib.hid (HRES.out)
                    go_enter Tryd.func11, Tryd.ntmps11
                    go_wp2_with fail
                    refine (HPC.out _).mono ?_
                    rintro e w2 ⟨rfl, hb2⟩
                    have k2 := (hb2.block w.heap.size (by rw [HZ.out]; omega)).trans HN.out
                    have q7 := cell_of_row _ _ 7 _ _ _ k2
                    have q8 := cell_of_row _ _ 8 _ _ _ k2
                    have HB2 := Lib.hid (HB.out.trans (hb2.mono HB.out.size))
                    clear hb2 k2
                    go_wp2_with fail
                    refine (HVS.out _).mono ?_
                    rintro e w3 ⟨rfl, rfl⟩
                    go_wp2_with fail
                    go_ret
                    exact ⟨ret_int HG.out.symm, HB2.out⟩
                  · have t1 : ¬ state < 1 := by omega
                    have d_t1 : decide (state < 1) = false := decide_eq_false t1
                    have d_t3 : decide (3 < state) = true := decide_eq_true t3
                    have e1 : decide (1 ≤ state) = true := decide_eq_true (by omega)
                    have e3 : decide (state ≤ 3) = false := decide_eq_false (by omega)
                    rw [e1, e3, Bool.true_and] at HVS
                    clear e1 e3
                    have HG := Lib.hid (HRES.out)
                    go_enter Tryd.func11, Tryd.ntmps11
                    go_wp2_with fail
                    refine (HPC.out _).mono ?_
                    rintro e w2 ⟨rfl, hb2⟩
                    have k2 := (hb2.block w.heap.size (by rw [HZ.out]; omega)).trans HN.out
                    have q7 := cell_of_row _ _ 7 _ _ _ k2
                    have q8 := cell_of_row _ _ 8 _ _ _ k2
                    have HB2 := Lib.hid (HB.out.trans (hb2.mono HB.out.size))
                    clear hb2 k2
                    go_wp2_with fail
                    refine (HVS.out _).mono ?_
                    rintro e w3 ⟨rfl, rfl⟩
                    go_wp2_with fail
                    go_ret
                    exact ⟨ret_int HG.out.symm, HB2.out⟩
                · have HRES := Lib.hid (HRES.out.trans (if_neg ht))
                  have t1 : ¬ state < 1 := by omega
                  have t3 : ¬ 3 < state := by omega
                  have d_t1 : decide (state < 1) = false := decide_eq_false t1
                  have d_t3 : decide (3 < state) = false := decide_eq_false t3
                  have e1 : decide (1 ≤ state) = true := decide_eq_true (by omega)
                  have e3 : decide (state ≤ 3) = true := decide_eq_true (by omega)
                  rw [e1, e3, Bool.true_and] at HVS
                  clear e1 e3
                  clear ht
                  have HG := Lib.hid (HRES.out)
                  go_enter Tryd.func11, Tryd.ntmps11
                  go_wp2_with fail
                  refine (HPC.out _).mono ?_
                  rintro e w2 ⟨rfl, hb2⟩
                  have k2 := (hb2.block w.heap.size (by rw [HZ.out]; omega)).trans HN.out
                  have q7 := cell_of_row _ _ 7 _ _ _ k2
                  have q8 := cell_of_row _ _ 8 _ _ _ k2
                  have HB2 := Lib.hid (HB.out.trans (hb2.mono HB.out.size))
                  clear hb2 k2
                  go_wp2_with fail
                  refine (HVS.out _).mono ?_
                  rintro e w3 ⟨rfl, rfl⟩
                  go_wp2_with fail
                  refine (HPR.out _ HB2.out).mono ?_
                  rintro e w4 ⟨rfl, hb4⟩
                  go_wp2_with fail
                  go_ret
                  exact ⟨ret_int HG.out.symm, HB2.out.trans (hb4.mono HB2.out.size)⟩
            · have szz : ¬ short = 0 := sz
              have b_sz : (short == 0) = false := by simpa using sz
              have c_sz : (short != 0) = true := by simpa using sz
              have d_sz : decide (short = 0) = false := decide_eq_false sz
              by_cases se : ¬ SE = 0
              · have HRES := Lib.hid (HRES.out.trans (if_pos se))
                have b_se : (SE == 0) = false := by simpa using se
                have c_se : (SE != 0) = true := by simpa using se
                have d_se : decide (SE = 0) = false := decide_eq_false se
                have HG := Lib.hid (HRES.out)
                go_enter Tryd.func11, Tryd.ntmps11
                go_wp2_with fail
                refine (HPC.out _).mono ?_
                rintro e w2 ⟨rfl, hb2⟩
                have k2 := (hb2.block w.heap.size (by rw [HZ.out]; omega)).trans HN.out
                have q7 := cell_of_row _ _ 7 _ _ _ k2
                have q8 := cell_of_row _ _ 8 _ _ _ k2
                have HB2 := Lib.hid (HB.out.trans (hb2.mono HB.out.size))
                clear hb2 k2
                go_wp2_with fail
                go_ret
                exact ⟨ret_int HG.out.symm, HB2.out⟩
              · have HRES := Lib.hid (HRES.out.trans (if_neg se))
                have se2 : SE = 0 := by omega
                subst se2
                by_cases ht : state < 1 ∨ 3 < state
                · have HRES := Lib.hid (HRES.out.trans (if_pos ht))
                  rcases ht with t1 | t3
                  · skip
                    have d_t1 : decide (state < 1) = true := decide_eq_true t1
                    have e1 : decide (1 ≤ state) = false := decide_eq_false (by omega)
                    rw [e1, Bool.false_and] at HVS
                    clear e1
                    have HG := Lib.hid (HRES.out)
                    go_enter Tryd.func11, Tryd.ntmps11
                    go_wp2_with fail
                    refine (HPC.out _).mono ?_
                    rintro e w2 ⟨rfl, hb2⟩
                    have k2 := (hb2.block w.heap.size (by rw [HZ.out]; omega)).trans HN.out
                    have q7 := cell_of_row _ _ 7 _ _ _ k2
                    have q8 := cell_of_row _ _ 8 _ _ _ k2
                    have HB2 := Lib.hid (HB.out.trans (hb2.mono HB.out.size))
                    clear hb2 k2
                    go_wp2_with fail
                    refine (HVS.out _).mono ?_
                    rintro e w3 ⟨rfl, rfl⟩
                    go_wp2_with fail
                    go_ret
                    exact ⟨ret_int HG.out.symm, HB2.out⟩
                  · have t1 : ¬ state < 1 := by omega
                    have d_t1 : decide (state < 1) = false := decide_eq_false t1
                    have d_t3 : decide (3 < state) = true := decide_eq_true t3
                    have e1 : decide (1 ≤ state) = true := decide_eq_true (by omega)
                    have e3 : decide (state ≤ 3) = false := decide_eq_false (by omega)
                    rw [e1, e3, Bool.true_and] at HVS
                    clear e1 e3
                    have HG := Lib.hid (HRES.out)
                    go_enter Tryd.func11, Tryd.ntmps11
                    go_wp2_with fail
                    refine (HPC.out _).mono ?_
                    rintro e w2 ⟨rfl, hb2⟩
                    have k2 := (hb2.block w.heap.size (by rw [HZ.out]; omega)).trans HN.out
                    have q7 := cell_of_row _ _ 7 _ _ _ k2
                    have q8 := cell_of_row _ _ 8 _ _ _ k2
                    have HB2 := Lib.hid (HB.out.trans (hb2.mono HB.out.size))
                    clear hb2 k2
                    go_wp2_with fail
                    refine (HVS.out _).mono ?_
                    rintro e w3 ⟨rfl, rfl⟩
                    go_wp2_with fail
                    go_ret
                    exact ⟨ret_int HG.out.symm, HB2.out⟩
                · have HRES := Lib.hid (HRES.out.trans (if_neg ht))
                  have t1 : ¬ state < 1 := by omega
                  have t3 : ¬ 3 < state := by omega
                  have d_t1 : decide (state < 1) = false := decide_eq_false t1
                  have d_t3 : decide (3 < state) = false := decide_eq_false t3
                  have e1 : decide (1 ≤ state) = true := decide_eq_true (by omega)
                  have e3 : decide (state ≤ 3) = true := decide_eq_true (by omega)
                  rw [e1, e3, Bool.true_and] at HVS
                  clear e1 e3
                  clear ht
                  have HG := Lib.hid (HRES.out)
                  go_enter Tryd.func11, Tryd.ntmps11
                  go_wp2_with fail
                  refine (HPC.out _).mono ?_
                  rintro e w2 ⟨rfl, hb2⟩
                  have k2 := (hb2.block w.heap.size (by rw [HZ.out]; omega)).trans HN.out
                  have q7 := cell_of_row _ _ 7 _ _ _ k2
                  have q8 := cell_of_row _ _ 8 _ _ _ k2
                  have HB2 := Lib.hid (HB.out.trans (hb2.mono HB.out.size))
                  clear hb2 k2
                  go_wp2_with fail
                  refine (HVS.out _).mono ?_
                  rintro e w3 ⟨rfl, rfl⟩
                  go_wp2_with fail
                  refine (HPR.out _ HB2.out).mono ?_
                  rintro e w4 ⟨rfl, hb4⟩
                  go_wp2_with fail
                  go_ret
                  exact ⟨ret_int HG.out.symm, HB2.out.trans (hb4.mono HB2.out.size)⟩



theorem pchf_any (f : Fl) (A1 : Option Addr) (c1 : Nat) (A2 : Option Addr) (c2 : Nat) (w : World) (hn1 : (f.name.length : Int) ≤ 9223372036854775807) (hk : RL w w.heap.size (.slice A2 f.rules.length c2) f.rules) (hT : Tb w) (hc : ∀ (k : Nat) (h : k < f.rules.length), f.rules[k].cond.cnt ≤ 2900000 ∧ f.rules[k].cond.dep ≤ 900) :
    Calls Tryd.prog 11 #[.agg #[.int .i64 f.id, .int .i64 f.kind, .slice A1 f.name.length c1, .int .i64 f.short, .int .i64 f.size, .int .i64 f.len, .int .i64 f.recs, .int .i64 f.state, .slice A2 f.rules.length c2]] w fun e w' => e = .returned (.int .i64 (chkF f)) ∧ Below w.heap.size w w' := by
  by_cases kk : f.kind = 1
  · exact pchf_one f A1 c1 A2 c2 w hn1 hk hT hc kk
  · exact pchf_more f A1 c1 A2 c2 w hn1 hk hT hc kk

end Go.Proofs.YtkjcafhaenkpbaaDoor
