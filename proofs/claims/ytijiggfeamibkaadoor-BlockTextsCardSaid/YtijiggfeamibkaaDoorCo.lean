
/-
  The walk of compose.
-/
import Derived.Test.YtijiggfeamibkaaDoorKf
namespace Go.Proofs.YtijiggfeamibkaaDoor
set_option linter.unusedVariables false
set_option linter.unusedSimpArgs false
open Go.RowKit

theorem ta_122_yes (v : Value) (w : World) : (Instr.typeAssert (.iface 46 v) 31 46 true).run Tryd.prog w = .ok (.tuple #[v, .bool true]) w := by kernel_rfl
theorem ta_124_122 (v : Value) (w : World) : (Instr.typeAssert (.iface 48 v) 31 46 true).run Tryd.prog w = .ok (.tuple #[.agg #[.int .i64 0, .bool false], .bool false]) w := by kernel_rfl
theorem ta_126_122 (v : Value) (w : World) : (Instr.typeAssert (.iface 50 v) 31 46 true).run Tryd.prog w = .ok (.tuple #[.agg #[.int .i64 0, .bool false], .bool false]) w := by kernel_rfl
theorem ta_124_yes (v : Value) (w : World) : (Instr.typeAssert (.iface 48 v) 31 48 true).run Tryd.prog w = .ok (.tuple #[v, .bool true]) w := by kernel_rfl
theorem ta_126_124 (v : Value) (w : World) : (Instr.typeAssert (.iface 50 v) 31 48 true).run Tryd.prog w = .ok (.tuple #[.agg #[.int .i64 0, .int .i64 0], .bool false]) w := by kernel_rfl
theorem ta_126_yes (v : Value) (w : World) : (Instr.typeAssert (.iface 50 v) 31 50 true).run Tryd.prog w = .ok (.tuple #[v, .bool true]) w := by kernel_rfl

theorem results_cell1 {P : Program} {fn : Func} {p : Tmp} {ty : TypeId} (h : fn.results = #[.cell p ty]) (tmps : Array Value) (w : World) (g : Nat) (t : TypeId) (cs : Array Value) (fr : Nat × Nat) (d : TypeDesc)
    (hp : tmps.getD p undef = .pointer (some ⟨g, 0, none⟩)) (hg : w.heap[g]? = some (.cells cs t fr))
    (hu : P.underlying ty = some d) (hd : (match d with | .struct _ | .array _ _ => true | _ => false) = true) (hi : (P.info? ty).map (·.size) = some cs.size) :
    (results fn tmps).run P w = .ok (.agg cs) w := by
  have hp' : tmps[p]?.getD undef = .pointer (some ⟨g, 0, none⟩) := by simpa using hp
  simp [results, h, hp', asAddr, run_loadVar_row w g t ty cs fr d hg hu hd hi]
theorem heap_alloc_old {w : World} {g : Nat} {c : Obj} (o : Obj) (h : w.heap[g]? = some c) : (w.alloc o).heap[g]? = some c := by
  have hlt : g < w.heap.size := by
    rcases Nat.lt_or_ge g w.heap.size with h' | h'
    · exact h'
    · rw [Array.getElem?_eq_none h'] at h; cases h
  rw [(alloc_below w o).block g hlt, h]
theorem heap_3 (w : World) (a b c : Obj) : (((w.alloc a).alloc b).alloc c).heap[w.heap.size]? = some a := heap_alloc_old c (heap_alloc_old b (heap_alloc_new w a))
theorem heap_4 (w : World) (a b c d : Obj) : ((((w.alloc a).alloc b).alloc c).alloc d).heap[w.heap.size]? = some a := heap_alloc_old d (heap_3 w a b c)
theorem heap_5 (w : World) (a b c d e : Obj) : (((((w.alloc a).alloc b).alloc c).alloc d).alloc e).heap[w.heap.size]? = some a := heap_alloc_old e (heap_4 w a b c d)
theorem below_2 (w : World) (a b : Obj) : Below w.heap.size w ((w.alloc a).alloc b) := (alloc_below w a).alloc (by rw [alloc_size]; omega) b
theorem below_3 (w : World) (a b c : Obj) : Below w.heap.size w (((w.alloc a).alloc b).alloc c) := (below_2 w a b).alloc (by rw [alloc_size, alloc_size]; omega) c
theorem below_4 (w : World) (a b c d : Obj) : Below w.heap.size w ((((w.alloc a).alloc b).alloc c).alloc d) := (below_3 w a b c).alloc (by rw [alloc_size, alloc_size, alloc_size]; omega) d
theorem below_5 (w : World) (a b c d e : Obj) : Below w.heap.size w (((((w.alloc a).alloc b).alloc c).alloc d).alloc e) := (below_4 w a b c d).alloc (by rw [alloc_size, alloc_size, alloc_size, alloc_size]; omega) e

theorem pcomp_inf (n : Int) (s : Int) (m : Bool) (A : Option Addr) (k c : Nat) (l : List UInt8) (w : World) : Calls Tryd.prog 19 #[.int .i64 n, (Kd.inf s m).val, .slice A k c] w fun e w' => e = .returned ((compB n (.inf s m) l).val (.slice A k c)) ∧ Below w.heap.size w w' := by
  have h0 := ta_122_yes
  simp only [Kd.val]
  go_enter Tryd.func19, Tryd.ntmps19
  go_wp2_with fail
  go_region
  go_wp2_with fail
  exact bodyPost_ret (results_cell1 rfl _ _ w.heap.size 24 _ (0, 0) _ rfl (heap_3 w _ _ _) Tryd.underlying24 rfl (by kernel_rfl)) rfl ⟨rfl, (below_3 w _ _ _).drew⟩
theorem pcomp_rdy (n : Int) (s t : Int) (A : Option Addr) (k c : Nat) (l : List UInt8) (w : World) : Calls Tryd.prog 19 #[.int .i64 n, (Kd.rdy s t).val, .slice A k c] w fun e w' => e = .returned ((compB n (.rdy s t) l).val (.slice A k c)) ∧ Below w.heap.size w w' := by
  have h0 := ta_124_122
  have h1 := ta_124_yes
  simp only [Kd.val]
  go_enter Tryd.func19, Tryd.ntmps19
  go_wp2_with fail
  go_region
  go_wp2_with fail
  exact bodyPost_ret (results_cell1 rfl _ _ w.heap.size 24 _ (0, 0) _ rfl (heap_3 w _ _ _) Tryd.underlying24 rfl (by kernel_rfl)) rfl ⟨rfl, (below_3 w _ _ _).drew⟩
theorem pcomp_sup (n : Int) (t : Int) (a : Bool) (A : Option Addr) (k c : Nat) (l : List UInt8) (w : World) : Calls Tryd.prog 19 #[.int .i64 n, (Kd.sup t a).val, .slice A k c] w fun e w' => e = .returned ((compB n (.sup t a) l).val (.slice A k c)) ∧ Below w.heap.size w w' := by
  have h0 := ta_126_122
  have h1 := ta_126_124
  have h2 := ta_126_yes
  simp only [Kd.val]
  go_enter Tryd.func19, Tryd.ntmps19
  go_wp2_with fail
  go_region
  go_wp2_with fail
  exact bodyPost_ret (results_cell1 rfl _ _ w.heap.size 24 _ (0, 0) _ rfl (heap_3 w _ _ _) Tryd.underlying24 rfl (by kernel_rfl)) rfl ⟨rfl, (below_3 w _ _ _).drew⟩
end Go.Proofs.YtijiggfeamibkaaDoor
