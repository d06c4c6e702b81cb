/-
  Implies of the program, in general.
-/
import Derived.Test.YtjkbfogjfgnhiaaDoorAtm
namespace Go.Proofs.YtjkbfogjfgnhiaaDoor
set_option linter.unusedVariables false
set_option linter.unusedSimpArgs false
open Go.RowKit

theorem lea_c (a : Cn) (h : chkC 1 3 a = 0) : LeaC a a.lea := by
  intro v w hk
  refine (lea_any (a.dep + 1) a (by omega) v w (chk_ok h) (chk_len h).1 hk).mono ?_
  rintro e w' ⟨A, c, rfl, h1, _, h3⟩
  exact ⟨A, c, rfl, h1, h3⟩
theorem chk_vals (a : Cn) : chkC 1 3 a = 0 ∨ chkC 1 3 a = 1 ∨ chkC 1 3 a = 3 := by
  unfold chkC
  repeat' split
  all_goals simp
theorem impB_no1 {a b : Cn} (h : chkC 1 3 a ≠ 0) : impB a b = false := by unfold impB; rw [decide_eq_false h]; rfl
theorem impB_no2 {a b : Cn} (h : chkC 1 3 b ≠ 0) : impB a b = false := by unfold impB; rw [decide_eq_false h, Bool.and_false]; rfl
theorem impB_yes {a b : Cn} (h1 : chkC 1 3 a = 0) (h2 : chkC 1 3 b = 0) : impB a b = !(a.lea.any fun s => !b.sat s) := by
  unfold impB impL; rw [decide_eq_true h1, decide_eq_true h2, Bool.true_and, Bool.true_and]

set_option maxRecDepth 100000 in
set_option maxHeartbeats 3200000 in
theorem imp_no1 (a b : Cn) (va vb : Value) (w : World) (ha : KL w w.heap.size va a.kids) (hb : KL w w.heap.size vb b.kids) (hT : Tb w) (hc : a.cnt ≤ 400) (hca : chkC 1 3 a ≠ 0) :
    Calls Tryd.prog 27 #[.agg #[.int .i64 a.op, .int .i64 a.n, va], .agg #[.int .i64 b.op, .int .i64 b.n, vb]] w fun e w' => e = .returned (.bool false) ∧ Below w.heap.size w w' := by
  obtain ⟨A1, c1, rfl, _, _, _⟩ := id ha
  obtain ⟨A2, c2, rfl, _, _, _⟩ := id hb
  have h2 := alloc2_below w (bx a.op a.n A1 a.kids.length c1) (bx b.op b.n A2 b.kids.length c2)
  have HQ1 := Lib.hid (pchk_any a _ _ (ha.on h2) (hT.on h2) hc)
  have HA2 := Lib.hid h2
  have hv := chk_vals a
  clear h2 ha hb hT
  generalize chkC 1 3 a = X at *
  rcases hv with rfl | rfl | rfl
  · exact absurd rfl hca
  all_goals
    clear hca
    go_enter Tryd.func27, Tryd.ntmps27
    go_wp2_with fail
    refine HQ1.out.mono ?_
    rintro e w1 ⟨rfl, hb1⟩
    go_wp2_with fail
    go_ret
    exact ⟨rfl, HA2.out.trans (hb1.mono HA2.out.size)⟩

set_option maxRecDepth 100000 in
set_option maxHeartbeats 3200000 in
theorem imp_no2 (a b : Cn) (va vb : Value) (w : World) (ha : KL w w.heap.size va a.kids) (hb : KL w w.heap.size vb b.kids) (hT : Tb w) (hc : b.cnt ≤ 400) (hca : chkC 1 3 a = 0) (hcb : chkC 1 3 b ≠ 0) :
    Calls Tryd.prog 27 #[.agg #[.int .i64 a.op, .int .i64 a.n, va], .agg #[.int .i64 b.op, .int .i64 b.n, vb]] w fun e w' => e = .returned (.bool false) ∧ Below w.heap.size w w' := by
  have hla := chk_len hca
  obtain ⟨A1, c1, rfl, _, _, _⟩ := id ha
  obtain ⟨A2, c2, rfl, _, _, _⟩ := id hb
  have h2 := alloc2_below w (bx a.op a.n A1 a.kids.length c1) (bx b.op b.n A2 b.kids.length c2)
  have hn0 := heap_alloc_new (w.alloc (bx a.op a.n A1 a.kids.length c1)) (bx b.op b.n A2 b.kids.length c2)
  rw [alloc_size] at hn0
  have hsz : ((w.alloc (bx a.op a.n A1 a.kids.length c1)).alloc (bx b.op b.n A2 b.kids.length c2)).heap.size = w.heap.size + 2 := by rw [alloc_size, alloc_size]
  have HQ1 := Lib.hid (pchk_any a _ _ (ha.on h2) (hT.on h2) (by omega))
  rw [hca] at HQ1
  have HA2 := Lib.hid h2
  have HN0 := Lib.hid hn0
  have HKB := Lib.hid (hb.on h2)
  have HT := Lib.hid (hT.on h2)
  have HLT1 := Lib.hid (show w.heap.size + 1 < ((w.alloc (bx a.op a.n A1 a.kids.length c1)).alloc (bx b.op b.n A2 b.kids.length c2)).heap.size by rw [hsz]; omega)
  have HCK := Lib.hid fun (W : World) (hk : KL W W.heap.size (.slice A2 b.kids.length c2) b.kids) (hT : Tb W) => pchk_any b _ W hk hT hc
  have hv := chk_vals b
  clear h2 hn0 hsz ha hb hT hca hla
  generalize chkC 1 3 b = X at *
  rcases hv with rfl | rfl | rfl
  · exact absurd rfl hcb
  all_goals
    clear hcb
    go_enter Tryd.func27, Tryd.ntmps27
    go_wp2_with fail
    refine HQ1.out.mono ?_
    rintro e w1 ⟨rfl, hb1⟩
    have k0 := (hb1.block (w.heap.size + 1) HLT1.out).trans HN0.out
    have p0 := cell_of_row _ _ 0 _ _ _ k0
    have p1 := cell_of_row _ _ 1 _ _ _ k0
    have p2 := cell_of_row _ _ 2 _ _ _ k0
    have HQ2 := Lib.hid (HCK.out w1 (HKB.out.on hb1) (HT.out.on hb1))
    have HB1 := Lib.hid hb1
    clear hb1 k0
    go_wp2_with fail
    refine HQ2.out.mono ?_
    rintro e w2 ⟨rfl, hb2⟩
    go_wp2_with fail
    go_ret
    exact ⟨rfl, HA2.out.trans ((HB1.out.trans (hb2.mono HB1.out.size)).mono HA2.out.size)⟩

/-- Implies of the program. -/
theorem pimp_any (a b : Cn) (va vb : Value) (w : World) (ha : KL w w.heap.size va a.kids) (hb : KL w w.heap.size vb b.kids) (hT : Tb w) (hca : a.cnt ≤ 400) (hcb : b.cnt ≤ 400) :
    Calls Tryd.prog 27 #[.agg #[.int .i64 a.op, .int .i64 a.n, va], .agg #[.int .i64 b.op, .int .i64 b.n, vb]] w fun e w' => e = .returned (.bool (impB a b)) ∧ Below w.heap.size w w' := by
  by_cases h1 : chkC 1 3 a = 0
  · by_cases h2 : chkC 1 3 b = 0
    · rw [impB_yes h1 h2]; exact imp_any a b a.lea (lea_c a h1) va vb w ha hb hT h1 h2
    · rw [impB_no2 h2]; exact imp_no2 a b va vb w ha hb hT hcb h1 h2
  · rw [impB_no1 h1]; exact imp_no1 a b va vb w ha hb hT hca h1
end Go.Proofs.YtjkbfogjfgnhiaaDoor
