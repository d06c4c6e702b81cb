/-
  The walks of the reference's Read, Restore, Cut.
-/
import Derived.Test.YtcojoohbhkhlnaaCen
namespace Go.Proofs.Ytcojoohbhkhlnaa
set_option linter.unusedVariables false
set_option linter.unusedSimpArgs false
open Go.RowKit

theorem results_cell2 {P : Program} {fn : Func} {p u : Tmp} {ty : TypeId} (h : fn.results = #[.cell p ty, .tmp u]) (tmps : Array Value) (w : World) (g : Nat) (t : TypeId) (cs : Array Value) (fr : Nat × Nat) (d : TypeDesc)
    (hp : tmps.getD p undef = .pointer (some ⟨g, 0, none⟩)) (hg : w.heap[g]? = some (.cells cs t fr))
    (hu : P.underlying ty = some d) (hd : (match d with | .struct _ | .array _ _ => true | _ => false) = true) (hi : (P.info? ty).map (·.size) = some cs.size) :
    (results fn tmps).run P w = .ok (.tuple #[.agg cs, tmps.getD u undef]) w := by
  have hp' : tmps[p]?.getD undef = .pointer (some ⟨g, 0, none⟩) := by simpa using hp
  simp [results, h, hp', asAddr, run_loadVar_row w g t ty cs fr d hg hu hd hi]
theorem row7_set (w : World) (g : Nat) (ty : TypeId) (a0 a1 a2 a3 a4 a5 a6 x0 x1 x2 x3 x4 x5 x6 : Value) (hg : w.heap[g]? = some (.cells #[a0, a1, a2, a3, a4, a5, a6] ty (0, 0))) :
    (((((((w.setCell ⟨g, 0, none⟩ x0).setCell ⟨g, 1, none⟩ x1).setCell ⟨g, 2, none⟩ x2).setCell ⟨g, 3, none⟩ x3).setCell ⟨g, 4, none⟩ x4).setCell ⟨g, 5, none⟩ x5).setCell ⟨g, 6, none⟩ x6).heap[g]? = some (.cells #[x0, x1, x2, x3, x4, x5, x6] ty (0, 0)) := by
  have h0 := heap_setCell_same w g 0 _ ty x0 hg
  have h1 := heap_setCell_same _ g 1 _ ty x1 h0
  have h2 := heap_setCell_same _ g 2 _ ty x2 h1
  have h3 := heap_setCell_same _ g 3 _ ty x3 h2
  have h4 := heap_setCell_same _ g 4 _ ty x4 h3
  have h5 := heap_setCell_same _ g 5 _ ty x5 h4
  have h6 := heap_setCell_same _ g 6 _ ty x6 h5
  rw [h6]
  simp
theorem results_cell1 {P : Program} {fn : Func} {p : Tmp} {ty : TypeId} (h : fn.results = #[.cell p ty]) (tmps : Array Value) (w : World) (g : Nat) (t : TypeId) (cs : Array Value) (fr : Nat × Nat) (d : TypeDesc)
    (hp : tmps.getD p undef = .pointer (some ⟨g, 0, none⟩)) (hg : w.heap[g]? = some (.cells cs t fr))
    (hu : P.underlying ty = some d) (hd : (match d with | .struct _ | .array _ _ => true | _ => false) = true) (hi : (P.info? ty).map (·.size) = some cs.size) :
    (results fn tmps).run P w = .ok (.agg cs) w := by
  have hp' : tmps[p]?.getD undef = .pointer (some ⟨g, 0, none⟩) := by simpa using hp
  simp [results, h, hp', asAddr, run_loadVar_row w g t ty cs fr d hg hu hd hi]

/-- The zero state's cells. -/
def zrow : Array Value := #[.slice none 0 0, .slice none 0 0, .int .i64 0, .int .i64 0, .int .i64 0, .bool false, .int .i64 0]

set_option maxHeartbeats 800000 in
theorem rread_any {w : World} {X : Nat → Prop} {s : St} {v1 v2 : Value} (h : RV w X s v1 v2) (a : Int) (ha : -9223372036854775808 ≤ a ∧ a < 9223372036854775808) (hn : s.ws.length ≤ 65536) :
    Calls Try.prog 30 #[.agg (rrow v1 v2 s), .int .i64 a] w fun e w' => e = .returned (.tuple #[.int .u32 (rdV s a), .int .i64 (accE s a)]) ∧ Below w.heap.size w w' := by
  obtain ⟨g1, c1, rfl, h1, h2, h3, h4, h5⟩ := h.ws
  unfold maxLen at h2
  have HA := Lib.hid (alloc_below w (.cells (rrow (.slice (some ⟨g1, 0, none⟩) s.ws.length c1) v2 s) 29))
  clear h
  unfold rrow at *
  have HEX : Hid (rdV s a = if accE s a = 0 then (s.ws.getD a.toNat 0 : Int) else 0) := rfl
  have HEA : Hid (accE s a = if s.on = false then 7 else if 0 ≤ a ∧ a < (s.ws.length : Int) then 0 else 2) := rfl
  generalize rdV s a = r at *
  generalize accE s a = q at *
  generalize cutI s = ci at *
  by_cases hon : s.on = false
  · rw [if_pos hon] at HEA
    have HEX : Hid (r = 0) := by show _ = _; rw [HEX.out, HEA.out]; rfl
    rw [hon] at HA ⊢
    clear h5 ha
    go_enter Try.func30, Try.ntmps30
    go_wp2
    go_ret2
    exact ⟨by rw [HEX.out, HEA.out]; rfl, HA.out⟩
  · have hon' : s.on = true := by simpa using hon
    rw [if_neg hon] at HEA
    rw [hon'] at HA ⊢
    clear hon hon'
    by_cases hin : 0 ≤ a ∧ a < (s.ws.length : Int)
    · rw [if_pos hin] at HEA
      obtain ⟨k, rfl⟩ : ∃ k : Nat, a = (k : Int) := ⟨a.toNat, by omega⟩
      have HEX : Hid (r = (s.ws.getD k 0 : Int)) := by show _ = _; rw [HEX.out, HEA.out]; rfl
      have hk : k < s.ws.length := by omega
      have hc := h5 k hk
      have hki : (k : Int) < (s.ws.length : Int) := by omega
      have hk0 : ¬ (k : Int) < 0 := by omega
      clear h5 ha hin
      generalize s.ws.getD k 0 = x at *
      go_enter Try.func30, Try.ntmps30
      go_wp2
      go_ret2
      exact ⟨by rw [HEX.out, HEA.out]; rfl, HA.out⟩
    · rw [if_neg hin] at HEA
      have HEX : Hid (r = 0) := by show _ = _; rw [HEX.out, HEA.out]; rfl
      clear h5
      by_cases hneg : a < 0
      · clear hin
        go_enter Try.func30, Try.ntmps30
        go_wp2
        go_ret2
        exact ⟨by rw [HEX.out, HEA.out]; rfl, HA.out⟩
      · have hge : (s.ws.length : Int) ≤ a := by omega
        clear hin
        go_enter Try.func30, Try.ntmps30
        go_wp2
        go_ret2
        exact ⟨by rw [HEX.out, HEA.out]; rfl, HA.out⟩

theorem heap_new2 (w : World) (o : Obj) (cs : Array Value) (t : TypeId) : ((w.alloc o).alloc (.cells cs t)).heap[w.heap.size + 1]? = some (.cells cs t (0, 0)) := by
  have := heap_alloc_new (w.alloc o) (.cells cs t)
  rw [alloc_size] at this
  exact this
theorem below_new2 (w : World) (o o' : Obj) : Below w.heap.size w ((w.alloc o).alloc o') := (alloc_below w o).alloc (by rw [alloc_size]; omega) o'

set_option maxHeartbeats 800000 in
theorem rrestore_any {w : World} {X : Nat → Prop} {s : St} {v1 v2 : Value} (h : RV w X s v1 v2) :
    Calls Try.prog 28 #[.agg (rrow v1 v2 s)] w fun e w' => e = .returned (.agg (rrow v1 v2 (resS s))) ∧ Below w.heap.size w w' := by
  obtain ⟨g1, c1, rfl, _⟩ := h.ws
  obtain ⟨g2, c2, rfl, _⟩ := h.we
  clear h
  unfold rrow
  generalize cutI s = ci
  generalize s.on = on
  go_enter Try.func28, Try.ntmps28
  go_wp2
  exact bodyPost_ret (results_cell1 rfl _ _ (w.heap.size + 1) 29 _ (0, 0) _ rfl (heap_new2 ..) Try.underlying29 rfl (by kernel_rfl)) rfl ⟨rfl, below_new2 ..⟩

set_option maxHeartbeats 800000 in
theorem rcut_any {w : World} {X : Nat → Prop} {s : St} {v1 v2 : Value} (h : RV w X s v1 v2) (n : Int) (hn : -9223372036854775808 ≤ n ∧ n < 9223372036854775808) :
    Calls Try.prog 27 #[.agg (rrow v1 v2 s), .int .i64 n] w fun e w' => e = .returned (.tuple #[.agg (rrow v1 v2 (cutS s n)), .int .i64 (cutE s n)]) ∧ Below w.heap.size w w' := by
  obtain ⟨g1, c1, rfl, _⟩ := h.ws
  obtain ⟨g2, c2, rfl, _⟩ := h.we
  clear h
  have HE : Hid (cutE s n = if s.on = false then 7 else if n < 0 then 2 else 0) := rfl
  have HS : Hid (cutS s n = if cutE s n = 0 then { s with cut := some n.toNat } else s) := rfl
  by_cases hon : s.on = false
  · have HE : Hid (cutE s n = 7) := by show _ = _; rw [HE.out, if_pos hon]
    have HS : Hid (cutS s n = s) := by show _ = _; rw [HS.out, if_neg (by rw [HE.out]; decide)]
    rw [HE.out, HS.out]
    unfold rrow
    rw [hon]
    generalize cutI s = ci
    clear hon
    go_enter Try.func27, Try.ntmps27
    go_wp2
    exact bodyPost_ret (results_cell2 rfl _ _ (w.heap.size + 1) 29 _ (0, 0) _ rfl (heap_new2 ..) Try.underlying29 rfl (by kernel_rfl)) rfl ⟨rfl, below_new2 ..⟩
  · have hon' : s.on = true := by simpa using hon
    by_cases hneg : n < 0
    · have HE : Hid (cutE s n = 2) := by show _ = _; rw [HE.out, if_neg hon, if_pos hneg]
      have HS : Hid (cutS s n = s) := by show _ = _; rw [HS.out, if_neg (by rw [HE.out]; decide)]
      rw [HE.out, HS.out]
      unfold rrow
      rw [hon']
      generalize cutI s = ci
      clear hon hon'
      go_enter Try.func27, Try.ntmps27
      go_wp2
      exact bodyPost_ret (results_cell2 rfl _ _ (w.heap.size + 1) 29 _ (0, 0) _ rfl (heap_new2 ..) Try.underlying29 rfl (by kernel_rfl)) rfl ⟨rfl, below_new2 ..⟩
    · have HE : Hid (cutE s n = 0) := by show _ = _; rw [HE.out, if_neg hon, if_neg hneg]
      have HS : Hid (cutS s n = { s with cut := some n.toNat }) := by show _ = _; rw [HS.out, if_pos HE.out]
      have HI : Hid (cutI { s with cut := some n.toNat } = n) := by show ((n.toNat : Nat) : Int) = n; omega
      rw [HE.out, HS.out]
      unfold rrow
      rw [HI.out]
      show Calls Try.prog 27 #[.agg #[.slice (some ⟨g1, 0, none⟩) s.ws.length c1, .slice (some ⟨g2, 0, none⟩) s.wear.length c2, .int .i64 (s.en : Int), .int .i64 (s.wr : Int), .int .i64 (s.cu : Int), .bool s.on, .int .i64 (cutI s)], .int .i64 n] w fun e w' => e = .returned (.tuple #[.agg #[.slice (some ⟨g1, 0, none⟩) s.ws.length c1, .slice (some ⟨g2, 0, none⟩) s.wear.length c2, .int .i64 (s.en : Int), .int .i64 (s.wr : Int), .int .i64 (s.cu : Int), .bool s.on, .int .i64 n], .int .i64 0]) ∧ Below w.heap.size w w'
      rw [hon']
      generalize cutI s = ci
      clear hon hon'
      go_enter Try.func27, Try.ntmps27
      go_wp2
      exact bodyPost_ret (results_cell2 rfl _ _ (w.heap.size + 1) 29 _ (0, 0) _ rfl (heap_new2 ..) Try.underlying29 rfl (by kernel_rfl)) rfl ⟨rfl, below_new2 ..⟩
end Go.Proofs.Ytcojoohbhkhlnaa
