/-
  The walk of holds, and of Holds.
-/
import Derived.Test.YtjkbfogjfgnhiaaDoorHol
namespace Go.Proofs.YtjkbfogjfgnhiaaDoor
set_option linter.unusedVariables false
set_option linter.unusedSimpArgs false
open Go.RowKit

theorem okN_op {op n : Int} {k : Nat} (h : okN op n k = true) : (op = 0 ∨ op = 1 ∨ op = 2 ∨ op = 3 ∨ op = 4 ∨ op = 5 ∨ op = 6 ∨ op = 7) ∧ ((op = 2 ∨ op = 3) → 1 ≤ n ∧ n ≤ 8) ∧ (op = 4 → 1 ≤ n ∧ n ≤ 5) ∧ (op = 5 → 1 ≤ n ∧ n ≤ 51) ∧ (op = 6 ∨ op = 7 → n = 0 ∧ 0 < k) ∧ (op < 6 → k = 0) ∧ (op < 2 → n = 0) := by
  unfold okN lvN at h
  by_cases h0 : op = 0
  · rw [if_pos h0] at h; simp at h; omega
  rw [if_neg h0] at h
  by_cases h1 : op = 1
  · rw [if_pos h1] at h; simp at h; omega
  rw [if_neg h1] at h
  by_cases h2 : op = 2
  · rw [if_pos h2] at h; simp at h; omega
  rw [if_neg h2] at h
  by_cases h3 : op = 3
  · rw [if_pos h3] at h; simp at h; omega
  rw [if_neg h3] at h
  by_cases h4 : op = 4
  · rw [if_pos h4] at h; simp at h; omega
  rw [if_neg h4] at h
  by_cases h5 : op = 5
  · rw [if_pos h5] at h; simp at h; omega
  rw [if_neg h5] at h
  by_cases h6 : op = 6
  · rw [if_pos h6] at h; simp at h; omega
  rw [if_neg h6] at h
  by_cases h7 : op = 7
  · rw [if_pos h7] at h; simp at h; omega
  rw [if_neg h7] at h
  cases h

theorem box2_below (w : World) (o p : Obj) : Below w.heap.size w ((w.alloc o).alloc p) := alloc2_below w o p

set_option maxRecDepth 100000 in
set_option maxHeartbeats 1600000 in
theorem phold0_any (n : Int) (ts : List Cn) (s : Sc) (v : Value) (w : World) (hk : KL w w.heap.size v ts) :
    Calls Tryd.prog 43 #[.agg #[.int .i64 0, .int .i64 n, v], .agg #[.int .i64 s.pins, .int .i64 s.keys, .int .i64 s.state, .int .i64 s.level]] w fun e w' => e = .returned (.bool false) ∧ Below w.heap.size w w' := by
  obtain ⟨A, cap, rfl, _, _, _⟩ := id hk
  have ha := alloc2_below w (Obj.cells #[Value.int IntKind.i64 0, Value.int IntKind.i64 n, Value.slice A ts.length cap] 24) s.row
  have HA := Lib.hid ha
  clear ha hk
  go_enter Tryd.func43, Tryd.ntmps43
  go_wp2_with fail
  go_ret
  exact ⟨rfl, HA.out⟩

set_option maxRecDepth 100000 in
set_option maxHeartbeats 1600000 in
theorem phold1_any (n : Int) (ts : List Cn) (s : Sc) (v : Value) (w : World) (hk : KL w w.heap.size v ts) :
    Calls Tryd.prog 43 #[.agg #[.int .i64 1, .int .i64 n, v], .agg #[.int .i64 s.pins, .int .i64 s.keys, .int .i64 s.state, .int .i64 s.level]] w fun e w' => e = .returned (.bool true) ∧ Below w.heap.size w w' := by
  obtain ⟨A, cap, rfl, _, _, _⟩ := id hk
  have ha := alloc2_below w (Obj.cells #[Value.int IntKind.i64 1, Value.int IntKind.i64 n, Value.slice A ts.length cap] 24) s.row
  have HA := Lib.hid ha
  clear ha hk
  go_enter Tryd.func43, Tryd.ntmps43
  go_wp2_with fail
  go_ret
  exact ⟨rfl, HA.out⟩

set_option maxRecDepth 100000 in
set_option maxHeartbeats 1600000 in
theorem phold2_any (n : Int) (ts : List Cn) (s : Sc) (v : Value) (w : World) (hk : KL w w.heap.size v ts) (h1 : 1 ≤ n) (h2 : n ≤ 51) :
    Calls Tryd.prog 43 #[.agg #[.int .i64 2, .int .i64 n, v], .agg #[.int .i64 s.pins, .int .i64 s.keys, .int .i64 s.state, .int .i64 s.level]] w fun e w' => e = .returned (.bool (tbI s.pins n.toNat)) ∧ Below w.heap.size w w' := by
  obtain ⟨A, cap, rfl, _, _, _⟩ := id hk
  have ha := alloc2_below w (Obj.cells #[Value.int IntKind.i64 2, Value.int IntKind.i64 n, Value.slice A ts.length cap] 24) s.row
  have HA := Lib.hid ha
  clear ha hk
  have h3 : 0 ≤ n := by omega
  have h4 : n ≤ 64 := by omega
  have HE := Lib.hid (bit_prog s.pins n.toNat)
  go_enter Tryd.func43, Tryd.ntmps43
  go_wp2_with fail
  go_ret
  exact ⟨ret_bool HE.out, HA.out⟩

set_option maxRecDepth 100000 in
set_option maxHeartbeats 1600000 in
theorem phold3_any (n : Int) (ts : List Cn) (s : Sc) (v : Value) (w : World) (hk : KL w w.heap.size v ts) (h1 : 1 ≤ n) (h2 : n ≤ 51) :
    Calls Tryd.prog 43 #[.agg #[.int .i64 3, .int .i64 n, v], .agg #[.int .i64 s.pins, .int .i64 s.keys, .int .i64 s.state, .int .i64 s.level]] w fun e w' => e = .returned (.bool (tbI s.keys n.toNat)) ∧ Below w.heap.size w w' := by
  obtain ⟨A, cap, rfl, _, _, _⟩ := id hk
  have ha := alloc2_below w (Obj.cells #[Value.int IntKind.i64 3, Value.int IntKind.i64 n, Value.slice A ts.length cap] 24) s.row
  have HA := Lib.hid ha
  clear ha hk
  have h3 : 0 ≤ n := by omega
  have h4 : n ≤ 64 := by omega
  have HE := Lib.hid (bit_prog s.keys n.toNat)
  go_enter Tryd.func43, Tryd.ntmps43
  go_wp2_with fail
  go_ret
  exact ⟨ret_bool HE.out, HA.out⟩

set_option maxRecDepth 100000 in
set_option maxHeartbeats 1600000 in
theorem phold4_any (n : Int) (ts : List Cn) (s : Sc) (v : Value) (w : World) (hk : KL w w.heap.size v ts) (h1 : 1 ≤ n) (h2 : n ≤ 51) :
    Calls Tryd.prog 43 #[.agg #[.int .i64 4, .int .i64 n, v], .agg #[.int .i64 s.pins, .int .i64 s.keys, .int .i64 s.state, .int .i64 s.level]] w fun e w' => e = .returned (.bool (decide (n ≤ s.state))) ∧ Below w.heap.size w w' := by
  obtain ⟨A, cap, rfl, _, _, _⟩ := id hk
  have ha := alloc2_below w (Obj.cells #[Value.int IntKind.i64 4, Value.int IntKind.i64 n, Value.slice A ts.length cap] 24) s.row
  have HA := Lib.hid ha
  clear ha hk
  go_enter Tryd.func43, Tryd.ntmps43
  go_wp2_with fail
  go_ret
  exact ⟨rfl, HA.out⟩

set_option maxRecDepth 100000 in
set_option maxHeartbeats 1600000 in
theorem phold5_any (n : Int) (ts : List Cn) (s : Sc) (v : Value) (w : World) (hk : KL w w.heap.size v ts) (h1 : 1 ≤ n) (h2 : n ≤ 51) :
    Calls Tryd.prog 43 #[.agg #[.int .i64 5, .int .i64 n, v], .agg #[.int .i64 s.pins, .int .i64 s.keys, .int .i64 s.state, .int .i64 s.level]] w fun e w' => e = .returned (.bool (lvB s.level n)) ∧ Below w.heap.size w w' := by
  obtain ⟨A, cap, rfl, _, _, _⟩ := id hk
  have ha := alloc2_below w (Obj.cells #[Value.int IntKind.i64 5, Value.int IntKind.i64 n, Value.slice A ts.length cap] 24) s.row
  have HA := Lib.hid ha
  clear ha hk
  go_enter Tryd.func43, Tryd.ntmps43
  go_wp2_with fail
  go_ret
  exact ⟨rfl, HA.out⟩

set_option maxRecDepth 100000 in
set_option maxHeartbeats 1600000 in
theorem phold6_any (n : Int) (ts : List Cn) (hC : ∀ (k : Nat) (h : k < ts.length), HoldC ts[k]) (hok : okK ts = true) (s : Sc) (v : Value) (w : World) (hk : KL w w.heap.size v ts) :
    Calls Tryd.prog 43 #[.agg #[.int .i64 6, .int .i64 n, v], .agg #[.int .i64 s.pins, .int .i64 s.keys, .int .i64 s.state, .int .i64 s.level]] w fun e w' => e = .returned (.bool (allS s ts)) ∧ Below w.heap.size w w' := by
  obtain ⟨A, cap, rfl, _, _, _⟩ := id hk
  have ha := alloc2_below w (Obj.cells #[Value.int IntKind.i64 6, Value.int IntKind.i64 n, Value.slice A ts.length cap] 24) s.row
  have hn0 := heap_alloc_new (w.alloc (Obj.cells #[Value.int IntKind.i64 6, Value.int IntKind.i64 n, Value.slice A ts.length cap] 24)) s.row
  rw [alloc_size] at hn0
  have HX := Lib.hid (pcof_any ts s (w.heap.size + 1) _ _ hC hok (hk.on ha) hn0)
  have HE := Lib.hid (allS_eq s ts)
  have HA := Lib.hid ha
  clear hC hok ha hn0 hk
  generalize (ts.any _) = X at HX HE
  go_enter Tryd.func43, Tryd.ntmps43
  go_wp2_with fail
  refine HX.out.mono ?_
  rintro e w1 ⟨rfl, hb1⟩
  go_wp2_with fail
  go_ret
  exact ⟨ret_bool HE.out.symm, HA.out.trans (hb1.mono HA.out.size)⟩

set_option maxRecDepth 100000 in
set_option maxHeartbeats 1600000 in
theorem phold7_any (n : Int) (ts : List Cn) (hC : ∀ (k : Nat) (h : k < ts.length), HoldC ts[k]) (hok : okK ts = true) (s : Sc) (v : Value) (w : World) (hk : KL w w.heap.size v ts) :
    Calls Tryd.prog 43 #[.agg #[.int .i64 7, .int .i64 n, v], .agg #[.int .i64 s.pins, .int .i64 s.keys, .int .i64 s.state, .int .i64 s.level]] w fun e w' => e = .returned (.bool (anyS s ts)) ∧ Below w.heap.size w w' := by
  obtain ⟨A, cap, rfl, _, _, _⟩ := id hk
  have ha := alloc2_below w (Obj.cells #[Value.int IntKind.i64 7, Value.int IntKind.i64 n, Value.slice A ts.length cap] 24) s.row
  have hn0 := heap_alloc_new (w.alloc (Obj.cells #[Value.int IntKind.i64 7, Value.int IntKind.i64 n, Value.slice A ts.length cap] 24)) s.row
  rw [alloc_size] at hn0
  have HX := Lib.hid (pcoh_any ts s (w.heap.size + 1) _ _ hC hok (hk.on ha) hn0)
  have HE := Lib.hid (anyS_eq s ts)
  have HA := Lib.hid ha
  clear hC hok ha hn0 hk
  generalize (ts.any _) = X at HX HE
  go_enter Tryd.func43, Tryd.ntmps43
  go_wp2_with fail
  refine HX.out.mono ?_
  rintro e w1 ⟨rfl, hb1⟩
  go_wp2_with fail
  go_ret
  exact ⟨ret_bool HE.out.symm, HA.out.trans (hb1.mono HA.out.size)⟩

theorem hold_step (c : Cn) (ih : ∀ c' : Cn, c'.dep < c.dep → HoldC c') : HoldC c := by
  intro s v w hok hk
  have hs := sat_parts s c
  have hp := ok_parts c
  rw [hok] at hp
  have hp' : okN c.op c.n c.kids.length = true ∧ okK c.kids = true := by simpa using hp.symm
  have ho := okN_op hp'.1
  have hC : ∀ (k : Nat) (h : k < c.kids.length), HoldC c.kids[k] := fun k h => ih _ (by have := depK_get c.kids k h; have := dep_kids c; omega)
  obtain ⟨op, n, ts⟩ := c
  simp only [Cn.op, Cn.n, Cn.kids] at *
  rw [hs]
  rcases ho with ⟨rfl | rfl | rfl | rfl | rfl | rfl | rfl | rfl, h2, h4, h5, _⟩
  · exact phold0_any n ts s v w hk
  · exact phold1_any n ts s v w hk
  · exact phold2_any n ts s v w hk (by omega) (by omega)
  · exact phold3_any n ts s v w hk (by omega) (by omega)
  · exact phold4_any n ts s v w hk (by omega) (by omega)
  · exact phold5_any n ts s v w hk (by omega) (by omega)
  · exact phold6_any n ts hC hp'.2 s v w hk
  · exact phold7_any n ts hC hp'.2 s v w hk
theorem hold_any : ∀ (n : Nat) (c : Cn), c.dep < n → HoldC c
  | 0, c, h => absurd h (by omega)
  | n + 1, c, h => hold_step c fun c' h' => hold_any n c' (by omega)

/-- What Holds answers. -/
def holdB (s : Sc) (c : Cn) : Bool := decide (chkC 1 3 c = 0) && c.sat s
theorem chk_ok {c : Cn} (h : chkC 1 3 c = 0) : c.ok = true := by
  unfold chkC at h
  cases hc : c.ok with
  | true => rfl
  | false => rw [hc] at h; simp at h
set_option maxRecDepth 100000 in
set_option maxHeartbeats 1600000 in
theorem pholds_any (c : Cn) (s : Sc) (v : Value) (w : World) (hk : KL w w.heap.size v c.kids) (hT : Tb w) (hc : c.cnt ≤ 400) :
    Calls Tryd.prog 19 #[.agg #[.int .i64 c.op, .int .i64 c.n, v], .agg #[.int .i64 s.pins, .int .i64 s.keys, .int .i64 s.state, .int .i64 s.level]] w fun e w' => e = .returned (.bool (holdB s c)) ∧ Below w.heap.size w w' := by
  obtain ⟨A, cap, rfl, _, _, _⟩ := id hk
  have ha := alloc2_below w (Obj.cells #[Value.int IntKind.i64 c.op, Value.int IntKind.i64 c.n, Value.slice A c.kids.length cap] 24) s.row
  have hn0 := heap_alloc_new (w.alloc (Obj.cells #[Value.int IntKind.i64 c.op, Value.int IntKind.i64 c.n, Value.slice A c.kids.length cap] 24)) s.row
  rw [alloc_size] at hn0
  have hn1 := (Below.heap_alloc (w.alloc (Obj.cells #[Value.int IntKind.i64 c.op, Value.int IntKind.i64 c.n, Value.slice A c.kids.length cap] 24)) s.row w.heap.size (by rw [alloc_size]; omega)).trans (heap_alloc_new w (Obj.cells #[Value.int IntKind.i64 c.op, Value.int IntKind.i64 c.n, Value.slice A c.kids.length cap] 24))
  have hsz : ((w.alloc (Obj.cells #[Value.int IntKind.i64 c.op, Value.int IntKind.i64 c.n, Value.slice A c.kids.length cap] 24)).alloc s.row).heap.size = w.heap.size + 2 := by rw [alloc_size, alloc_size]
  have HQ := Lib.hid (pchk_any c _ _ (hk.on ha) (hT.on ha) hc)
  have HH := Lib.hid fun (W : World) (hok : c.ok = true) hk' => hold_any (c.dep + 1) c (by omega) s (.slice A c.kids.length cap) W hok hk'
  have HB : Hid (holdB s c = (decide (chkC 1 3 c = 0) && c.sat s)) := rfl
  have HO := Lib.hid (@chk_ok c)
  have HA := Lib.hid ha
  have HN0 := Lib.hid hn0
  have HN1 := Lib.hid hn1
  have HK := Lib.hid (hk.on ha)
  have HSZ := Lib.hid hsz
  clear ha hn0 hn1 hk hsz
  generalize hE : chkC 1 3 c = E at *
  have HE := Lib.hid hE
  clear hE
  by_cases h0 : E = 0
  · subst h0
    go_enter Tryd.func19, Tryd.ntmps19
    go_wp2_with fail
    refine HQ.out.mono ?_
    rintro e w1 ⟨rfl, hb1⟩
    have k0 := (hb1.block (w.heap.size + 1) (by rw [HSZ.out]; omega)).trans HN0.out
    have k1 := (hb1.block w.heap.size (by rw [HSZ.out]; omega)).trans HN1.out
    have g0 := cell_of_row _ _ 0 _ _ _ k0
    have g1 := cell_of_row _ _ 1 _ _ _ k0
    have g2 := cell_of_row _ _ 2 _ _ _ k0
    have g3 := cell_of_row _ _ 3 _ _ _ k0
    have q0 := cell_of_row _ _ 0 _ _ _ k1
    have q1 := cell_of_row _ _ 1 _ _ _ k1
    have q2 := cell_of_row _ _ 2 _ _ _ k1
    have HH2 := Lib.hid (HH.out w1 (HO.out (by first | exact trivial | rfl)) (HK.out.on hb1))
    have HB1 := Lib.hid (HA.out.trans (hb1.mono HA.out.size))
    clear k0 k1 hb1
    generalize c.sat s = X at *
    go_wp2_with fail
    refine HH2.out.mono ?_
    rintro e w2 ⟨rfl, hb2⟩
    go_wp2_with fail
    go_ret
    exact ⟨ret_bool (by rw [HB.out]; simp), HB1.out.trans (hb2.mono HB1.out.size)⟩
  · have h0b : (E == 0) = false := by simpa using h0
    have h0d : decide (E = 0) = false := decide_eq_false h0
    go_enter Tryd.func19, Tryd.ntmps19
    go_wp2_with fail
    refine HQ.out.mono ?_
    rintro e w1 ⟨rfl, hb1⟩
    go_wp2_with fail
    go_ret
    exact ⟨ret_bool (by rw [HB.out]; simp [h0]), HA.out.trans (hb1.mono HA.out.size)⟩
end Go.Proofs.YtjkbfogjfgnhiaaDoor
