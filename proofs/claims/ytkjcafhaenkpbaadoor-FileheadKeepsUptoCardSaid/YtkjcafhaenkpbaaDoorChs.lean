/-
  The walks of Check of headers, of the program and of the reference.
-/
import Derived.Test.YtkjcafhaenkpbaaDoorVau
namespace Go.Proofs.YtkjcafhaenkpbaaDoor
set_option linter.unusedVariables false
set_option linter.unusedSimpArgs false
open Go.RowKit

theorem rrec_any (k : Int) (hk : 1 ≤ k ∧ k ≤ 5) (w : World) : Calls Tryd.prog 50 #[.int .i64 k] w fun e w' => e = .returned (.bool (recK k)) ∧ w = w' := by
  have hc : k = 1 ∨ k = 2 ∨ k = 3 ∨ k = 4 ∨ k = 5 := by omega
  rcases hc with rfl | rfl | rfl | rfl | rfl
  all_goals
    go_enter Tryd.func50, Tryd.ntmps50
    go_wp2
    go_ret
    exact ⟨rfl, rfl⟩
set_option maxHeartbeats 1600000 in
theorem rnumb_any (n : Int) (has : Bool) (most : Int) (w : World) : Calls Tryd.prog 49 #[.int .i64 n, .bool has, .int .i64 most] w fun e w' => e = .returned (.int .i64 (numE n has most)) ∧ w = w' := by
  cases has
  · by_cases h : n = 0
    · subst h
      go_enter Tryd.func49, Tryd.ntmps49
      go_wp2
      go_ret
      exact ⟨rfl, rfl⟩
    · have h1 : (n == 0) = false := by simpa using h
      have h2 : (n != 0) = true := by simpa using h
      have hE : Hid (numE n false most = 4) := by show _ = _; rw [numE_no, if_neg h]
      go_enter Tryd.func49, Tryd.ntmps49
      go_wp2
      go_ret
      exact ⟨ret_int hE.out.symm, rfl⟩
  · by_cases h1 : n < 1
    · have hE : Hid (numE n true most = 2) := by show _ = _; rw [numE_yes, if_pos (Or.inl h1)]
      have d1 : decide (n < 1) = true := decide_eq_true h1
      go_enter Tryd.func49, Tryd.ntmps49
      go_wp2
      go_ret
      exact ⟨ret_int hE.out.symm, rfl⟩
    · have d1 : decide (n < 1) = false := decide_eq_false h1
      by_cases h2 : most < n
      · have hE : Hid (numE n true most = 2) := by show _ = _; rw [numE_yes, if_pos (Or.inr h2)]
        have d2 : decide (most < n) = true := decide_eq_true h2
        go_enter Tryd.func49, Tryd.ntmps49
        go_wp2
        go_ret
        exact ⟨ret_int hE.out.symm, rfl⟩
      · have hE : Hid (numE n true most = 0) := by show _ = _; rw [numE_yes, if_neg (by omega)]
        have d2 : decide (most < n) = false := decide_eq_false h2
        go_enter Tryd.func49, Tryd.ntmps49
        go_wp2
        go_ret
        exact ⟨ret_int hE.out.symm, rfl⟩

set_option maxRecDepth 100000 in
set_option maxHeartbeats 3200000 in
theorem rsiz_any (f : Fl) (A1 : Option Addr) (c1 : Nat) (A2 : Option Addr) (c2 : Nat) (w : World) (hkd : 1 ≤ f.kind ∧ f.kind ≤ 5) :
    Calls Tryd.prog 30 #[.agg #[.int .i64 f.id, .int .i64 f.kind, .slice A1 f.name.length c1, .int .i64 f.short, .int .i64 f.size, .int .i64 f.len, .int .i64 f.recs, .int .i64 f.state, .slice A2 f.rules.length c2]] w fun e w' => e = .returned (.int .i64 (sizE f)) ∧ Below w.heap.size w w' := by
  obtain ⟨id, kind, short, size, len, recs, state, name, rules⟩ := f
  simp only at hkd ⊢
  generalize name.length = n1 at *
  generalize rules.length = n2 at *
  have hsz : sizE ⟨id, kind, short, size, len, recs, state, name, rules⟩ = if numE size (decide (kind = 2)) 1024 ≠ 0 then numE size (decide (kind = 2)) 1024 else if numE len (recK kind) 254 ≠ 0 then numE len (recK kind) 254 else if numE recs (recK kind) 254 ≠ 0 then numE recs (recK kind) 254 else if 1024 < len * recs then 3 else 0 := rfl
  rw [hsz]
  clear hsz
  have HRK := Lib.hid (rrec_any kind hkd)
  have hmul : numE len (recK kind) 254 = 0 → numE recs (recK kind) 254 = 0 → 0 ≤ len * recs ∧ len * recs ≤ 64516 := by
    intro h1 h2
    have a1 : 0 ≤ len ∧ len ≤ 254 := by
      cases hR : recK kind <;> rw [hR] at h1
      · rw [numE_no] at h1; split at h1 <;> omega
      · rw [numE_yes] at h1; split at h1 <;> omega
    have a2 : 0 ≤ recs ∧ recs ≤ 254 := by
      cases hR : recK kind <;> rw [hR] at h2
      · rw [numE_no] at h2; split at h2 <;> omega
      · rw [numE_yes] at h2; split at h2 <;> omega
    refine ⟨Int.mul_nonneg a1.1 a2.1, ?_⟩
    have := Int.mul_le_mul a1.2 a2.2 a2.1 (by omega)
    omega
  have H0 : Hid (∀ W, Calls Tryd.prog 49 #[.int .i64 size, .bool (kind == 2), .int .i64 1024] W fun e w' => e = .returned (.int .i64 (numE size (decide (kind = 2)) 1024)) ∧ W = w') := fun W => rnumb_any size (kind == 2) 1024 W
  have H1 : Hid (∀ W, Calls Tryd.prog 49 #[.int .i64 len, .bool (recK kind), .int .i64 254] W fun e w' => e = .returned (.int .i64 (numE len (recK kind) 254)) ∧ W = w') := fun W => rnumb_any len (recK kind) 254 W
  have H2 : Hid (∀ W, Calls Tryd.prog 49 #[.int .i64 recs, .bool (recK kind), .int .i64 254] W fun e w' => e = .returned (.int .i64 (numE recs (recK kind) 254)) ∧ W = w') := fun W => rnumb_any recs (recK kind) 254 W
  have HMUL := Lib.hid hmul
  clear hmul hkd
  generalize recK kind = R at *
  generalize numE size (decide (kind = 2)) 1024 = E0 at *
  generalize numE len R 254 = E1 at *
  generalize numE recs R 254 = E2 at *
  have H0Q : Hid (∀ W, Calls Tryd.prog 49 #[.int .i64 size, .bool (kind == 2), .int .i64 1024] W fun e w' => e = .returned (.int .i64 E0) ∧ w' = W) := fun W => (H0.out W).mono fun _ _ ⟨h1, h2⟩ => ⟨h1, h2.symm⟩
  have H1Q : Hid (∀ W, Calls Tryd.prog 49 #[.int .i64 len, .bool R, .int .i64 254] W fun e w' => e = .returned (.int .i64 E1) ∧ w' = W) := fun W => (H1.out W).mono fun _ _ ⟨h1, h2⟩ => ⟨h1, h2.symm⟩
  have H2Q : Hid (∀ W, Calls Tryd.prog 49 #[.int .i64 recs, .bool R, .int .i64 254] W fun e w' => e = .returned (.int .i64 E2) ∧ w' = W) := fun W => (H2.out W).mono fun _ _ ⟨h1, h2⟩ => ⟨h1, h2.symm⟩
  have HRKQ : Hid (∀ W, Calls Tryd.prog 50 #[.int .i64 kind] W fun e w' => e = .returned (.bool R) ∧ w' = W) := fun W => (HRK.out W).mono fun _ _ ⟨h1, h2⟩ => ⟨h1, h2.symm⟩
  clear H0 H1 H2 HRK
  have HB := Lib.hid (alloc_below w (Obj.cells #[Value.int IntKind.i64 id, Value.int IntKind.i64 kind, Value.slice A1 n1 c1, Value.int IntKind.i64 short, Value.int IntKind.i64 size, Value.int IntKind.i64 len, Value.int IntKind.i64 recs, Value.int IntKind.i64 state, Value.slice A2 n2 c2] 25))
  have HBQ := Lib.hid fun n => below_drewN (alloc_below w (Obj.cells #[Value.int IntKind.i64 id, Value.int IntKind.i64 kind, Value.slice A1 n1 c1, Value.int IntKind.i64 short, Value.int IntKind.i64 size, Value.int IntKind.i64 len, Value.int IntKind.i64 recs, Value.int IntKind.i64 state, Value.slice A2 n2 c2] 25)) n
  have HSN : Hid (∀ n, ((w.alloc (Obj.cells #[Value.int IntKind.i64 id, Value.int IntKind.i64 kind, Value.slice A1 n1 c1, Value.int IntKind.i64 short, Value.int IntKind.i64 size, Value.int IntKind.i64 len, Value.int IntKind.i64 recs, Value.int IntKind.i64 state, Value.slice A2 n2 c2] 25)).drewN n).cell? ⟨w.heap.size, 0, none⟩ = some (.int .i64 id) ∧ ((w.alloc (Obj.cells #[Value.int IntKind.i64 id, Value.int IntKind.i64 kind, Value.slice A1 n1 c1, Value.int IntKind.i64 short, Value.int IntKind.i64 size, Value.int IntKind.i64 len, Value.int IntKind.i64 recs, Value.int IntKind.i64 state, Value.slice A2 n2 c2] 25)).drewN n).cell? ⟨w.heap.size, 1, none⟩ = some (.int .i64 kind) ∧ ((w.alloc (Obj.cells #[Value.int IntKind.i64 id, Value.int IntKind.i64 kind, Value.slice A1 n1 c1, Value.int IntKind.i64 short, Value.int IntKind.i64 size, Value.int IntKind.i64 len, Value.int IntKind.i64 recs, Value.int IntKind.i64 state, Value.slice A2 n2 c2] 25)).drewN n).cell? ⟨w.heap.size, 2, none⟩ = some (.slice A1 n1 c1) ∧ ((w.alloc (Obj.cells #[Value.int IntKind.i64 id, Value.int IntKind.i64 kind, Value.slice A1 n1 c1, Value.int IntKind.i64 short, Value.int IntKind.i64 size, Value.int IntKind.i64 len, Value.int IntKind.i64 recs, Value.int IntKind.i64 state, Value.slice A2 n2 c2] 25)).drewN n).cell? ⟨w.heap.size, 3, none⟩ = some (.int .i64 short) ∧ ((w.alloc (Obj.cells #[Value.int IntKind.i64 id, Value.int IntKind.i64 kind, Value.slice A1 n1 c1, Value.int IntKind.i64 short, Value.int IntKind.i64 size, Value.int IntKind.i64 len, Value.int IntKind.i64 recs, Value.int IntKind.i64 state, Value.slice A2 n2 c2] 25)).drewN n).cell? ⟨w.heap.size, 4, none⟩ = some (.int .i64 size) ∧ ((w.alloc (Obj.cells #[Value.int IntKind.i64 id, Value.int IntKind.i64 kind, Value.slice A1 n1 c1, Value.int IntKind.i64 short, Value.int IntKind.i64 size, Value.int IntKind.i64 len, Value.int IntKind.i64 recs, Value.int IntKind.i64 state, Value.slice A2 n2 c2] 25)).drewN n).cell? ⟨w.heap.size, 5, none⟩ = some (.int .i64 len) ∧ ((w.alloc (Obj.cells #[Value.int IntKind.i64 id, Value.int IntKind.i64 kind, Value.slice A1 n1 c1, Value.int IntKind.i64 short, Value.int IntKind.i64 size, Value.int IntKind.i64 len, Value.int IntKind.i64 recs, Value.int IntKind.i64 state, Value.slice A2 n2 c2] 25)).drewN n).cell? ⟨w.heap.size, 6, none⟩ = some (.int .i64 recs) ∧ ((w.alloc (Obj.cells #[Value.int IntKind.i64 id, Value.int IntKind.i64 kind, Value.slice A1 n1 c1, Value.int IntKind.i64 short, Value.int IntKind.i64 size, Value.int IntKind.i64 len, Value.int IntKind.i64 recs, Value.int IntKind.i64 state, Value.slice A2 n2 c2] 25)).drewN n).cell? ⟨w.heap.size, 7, none⟩ = some (.int .i64 state) ∧ ((w.alloc (Obj.cells #[Value.int IntKind.i64 id, Value.int IntKind.i64 kind, Value.slice A1 n1 c1, Value.int IntKind.i64 short, Value.int IntKind.i64 size, Value.int IntKind.i64 len, Value.int IntKind.i64 recs, Value.int IntKind.i64 state, Value.slice A2 n2 c2] 25)).drewN n).cell? ⟨w.heap.size, 8, none⟩ = some (.slice A2 n2 c2)) := fun n => by
    have k0 := heap_alloc_new w (Obj.cells #[Value.int IntKind.i64 id, Value.int IntKind.i64 kind, Value.slice A1 n1 c1, Value.int IntKind.i64 short, Value.int IntKind.i64 size, Value.int IntKind.i64 len, Value.int IntKind.i64 recs, Value.int IntKind.i64 state, Value.slice A2 n2 c2] 25)
    exact ⟨cell_of_row _ _ 0 _ _ _ k0, cell_of_row _ _ 1 _ _ _ k0, cell_of_row _ _ 2 _ _ _ k0, cell_of_row _ _ 3 _ _ _ k0, cell_of_row _ _ 4 _ _ _ k0, cell_of_row _ _ 5 _ _ _ k0, cell_of_row _ _ 6 _ _ _ k0, cell_of_row _ _ 7 _ _ _ k0, cell_of_row _ _ 8 _ _ _ k0⟩
  by_cases e0 : E0 = 0
  · subst e0
    by_cases e1 : E1 = 0
    · subst e1
      by_cases e2 : E2 = 0
      · subst e2
        have hm := HMUL.out rfl rfl
        have hwr : IntKind.i64.wrap (len * recs) = len * recs := IntWalk.i64_in _ (by omega)
        clear hm HMUL
        by_cases hP : 1024 < len * recs
        · have HG : Hid ((if (0 : Int) ≠ 0 then (0 : Int) else if (0 : Int) ≠ 0 then 0 else if (0 : Int) ≠ 0 then 0 else if 1024 < len * recs then 3 else 0) = 3) := by show _ = _; simp [hP]
          go_enter Tryd.func30, Tryd.ntmps30
          go_wp2_with fail
          refine (H0Q.out _).mono ?_
          rintro e wz ⟨rfl, rfl⟩
          go_wp2_with fail
          go_quiet ((first | (go_at_call 50; exact Calls.quiet_of_same (HRKQ.out _)) | (go_at_call 49; exact Calls.quiet_of_same (H1Q.out _))))
          obtain ⟨f0, f1, f2, f3, f4, f5, f6, f7, f8⟩ := HSN.out nq
          have HBN := HBQ.out nq
          generalize (w.alloc (Obj.cells #[Value.int IntKind.i64 id, Value.int IntKind.i64 kind, Value.slice A1 n1 c1, Value.int IntKind.i64 short, Value.int IntKind.i64 size, Value.int IntKind.i64 len, Value.int IntKind.i64 recs, Value.int IntKind.i64 state, Value.slice A2 n2 c2] 25)).drewN nq = wq at *
          go_wp2_with fail
          go_quiet ((first | (go_at_call 50; exact Calls.quiet_of_same (HRKQ.out _)) | (go_at_call 49; exact Calls.quiet_of_same (H2Q.out _))))
          go_wp2_with fail
          go_ret
          exact ⟨by first | exact ret_int HG.out.symm | rfl, by first | exact HB.out | exact HBN | exact below_drewN HBN _⟩
        · have hP1 : decide (1024 < len * recs) = false := decide_eq_false hP
          have HG : Hid ((if (0 : Int) ≠ 0 then (0 : Int) else if (0 : Int) ≠ 0 then 0 else if (0 : Int) ≠ 0 then 0 else if 1024 < len * recs then 3 else 0) = 0) := by show _ = _; simp [hP]
          go_enter Tryd.func30, Tryd.ntmps30
          go_wp2_with fail
          refine (H0Q.out _).mono ?_
          rintro e wz ⟨rfl, rfl⟩
          go_wp2_with fail
          go_quiet ((first | (go_at_call 50; exact Calls.quiet_of_same (HRKQ.out _)) | (go_at_call 49; exact Calls.quiet_of_same (H1Q.out _))))
          obtain ⟨f0, f1, f2, f3, f4, f5, f6, f7, f8⟩ := HSN.out nq
          have HBN := HBQ.out nq
          generalize (w.alloc (Obj.cells #[Value.int IntKind.i64 id, Value.int IntKind.i64 kind, Value.slice A1 n1 c1, Value.int IntKind.i64 short, Value.int IntKind.i64 size, Value.int IntKind.i64 len, Value.int IntKind.i64 recs, Value.int IntKind.i64 state, Value.slice A2 n2 c2] 25)).drewN nq = wq at *
          go_wp2_with fail
          go_quiet ((first | (go_at_call 50; exact Calls.quiet_of_same (HRKQ.out _)) | (go_at_call 49; exact Calls.quiet_of_same (H2Q.out _))))
          go_wp2_with fail
          go_ret
          exact ⟨by first | exact ret_int HG.out.symm | rfl, by first | exact HB.out | exact HBN | exact below_drewN HBN _⟩
      · have b1 : (E2 == 0) = false := by simpa using e2
        have b2 : (E2 != 0) = true := by simpa using e2
        go_enter Tryd.func30, Tryd.ntmps30
        go_wp2_with fail
        refine (H0Q.out _).mono ?_
        rintro e wz ⟨rfl, rfl⟩
        go_wp2_with fail
        go_quiet ((first | (go_at_call 50; exact Calls.quiet_of_same (HRKQ.out _)) | (go_at_call 49; exact Calls.quiet_of_same (H1Q.out _))))
        obtain ⟨f0, f1, f2, f3, f4, f5, f6, f7, f8⟩ := HSN.out nq
        have HBN := HBQ.out nq
        generalize (w.alloc (Obj.cells #[Value.int IntKind.i64 id, Value.int IntKind.i64 kind, Value.slice A1 n1 c1, Value.int IntKind.i64 short, Value.int IntKind.i64 size, Value.int IntKind.i64 len, Value.int IntKind.i64 recs, Value.int IntKind.i64 state, Value.slice A2 n2 c2] 25)).drewN nq = wq at *
        go_wp2_with fail
        go_quiet ((first | (go_at_call 50; exact Calls.quiet_of_same (HRKQ.out _)) | (go_at_call 49; exact Calls.quiet_of_same (H2Q.out _))))
        go_wp2_with fail
        go_ret
        exact ⟨ret_int (by simp [e2]), by first | exact HB.out | exact HBN | exact below_drewN HBN _⟩
    · have b1 : (E1 == 0) = false := by simpa using e1
      have b2 : (E1 != 0) = true := by simpa using e1
      go_enter Tryd.func30, Tryd.ntmps30
      go_wp2_with fail
      refine (H0Q.out _).mono ?_
      rintro e wz ⟨rfl, rfl⟩
      go_wp2_with fail
      go_quiet ((first | (go_at_call 50; exact Calls.quiet_of_same (HRKQ.out _)) | (go_at_call 49; exact Calls.quiet_of_same (H1Q.out _))))
      obtain ⟨f0, f1, f2, f3, f4, f5, f6, f7, f8⟩ := HSN.out nq
      have HBN := HBQ.out nq
      generalize (w.alloc (Obj.cells #[Value.int IntKind.i64 id, Value.int IntKind.i64 kind, Value.slice A1 n1 c1, Value.int IntKind.i64 short, Value.int IntKind.i64 size, Value.int IntKind.i64 len, Value.int IntKind.i64 recs, Value.int IntKind.i64 state, Value.slice A2 n2 c2] 25)).drewN nq = wq at *
      go_wp2_with fail
      go_ret
      exact ⟨ret_int (by simp [e1]), by first | exact HB.out | exact HBN | exact below_drewN HBN _⟩
  · have b1 : (E0 == 0) = false := by simpa using e0
    have b2 : (E0 != 0) = true := by simpa using e0
    go_enter Tryd.func30, Tryd.ntmps30
    go_wp2_with fail
    refine (H0Q.out _).mono ?_
    rintro e wz ⟨rfl, rfl⟩
    go_wp2_with fail
    go_ret
    exact ⟨ret_int (by simp [e0]), by first | exact HB.out | exact HBN | exact below_drewN HBN _⟩

end Go.Proofs.YtkjcafhaenkpbaaDoor
