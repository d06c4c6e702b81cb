/-
  The walks of enter and validNode.
-/
import Derived.Test.YtjkbfogjfgnhiaaDoorBas
namespace Go.Proofs.YtjkbfogjfgnhiaaDoor
set_option linter.unusedVariables false
set_option linter.unusedSimpArgs false
open Go.RowKit

theorem alloc2_below (w : World) (o p : Obj) : Below w.heap.size w ((w.alloc o).alloc p) := (alloc_below w o).alloc (by simp) p
set_option maxRecDepth 100000 in
set_option maxHeartbeats 1600000 in
theorem pvn_any (op n : Int) (A : Option Addr) (K c : Nat) (w : World) (hT : Tb w) :
    Calls Tryd.prog 67 #[.agg #[.int .i64 op, .int .i64 n, .slice A K c]] w fun e w' => e = .returned (.bool (okN op n K)) ∧ Below w.heap.size w w' := by
  by_cases h0 : op < 0
  · have HB := Lib.hid (okN_bad op n K (.inl h0))
    go_enter Tryd.func67, Tryd.ntmps67
    go_wp2_with fail
    go_ret
    exact ⟨ret_bool HB.out.symm, alloc_below _ _⟩
  · by_cases h8 : 8 ≤ op
    · have HB := Lib.hid (okN_bad op n K (.inr h8))
      have hd0 : decide (op < 0) = false := decide_eq_false h0
      go_enter Tryd.func67, Tryd.ntmps67
      go_wp2_with fail
      go_ret
      exact ⟨ret_bool HB.out.symm, alloc_below _ _⟩
    · obtain ⟨o, rfl⟩ := Int.eq_ofNat_of_zero_le (show 0 ≤ op by omega)
      have ho : o < 8 := by omega
      have hd0 : decide ((o : Int) < 0) = false := decide_eq_false h0
      have HV := Lib.hid (vnB_ok o (by omega) n K)
      have hz := hT.size
      obtain ⟨g0, g1, g2, g3, g4⟩ := hT.kd o (by omega)
      have hb := alloc_below w (Obj.cells #[Value.int IntKind.i64 (o : Int), Value.int IntKind.i64 n, Value.slice A K c] 24)
      replace g0 := (hb.cell (p := ⟨0, o * 5, none⟩) hz).trans g0
      replace g1 := (hb.cell (p := ⟨0, o * 5 + 1, none⟩) hz).trans g1
      replace g2 := (hb.cell (p := ⟨0, o * 5 + 2, none⟩) hz).trans g2
      replace g3 := (hb.cell (p := ⟨0, o * 5 + 3, none⟩) hz).trans g3
      replace g4 := (hb.cell (p := ⟨0, o * 5 + 4, none⟩) hz).trans g4
      generalize kindOf o = x at *
      obtain ⟨nm, kd, lo, hi, bs⟩ := x
      simp only at g0 g1 g2 g3 g4
      clear hb
      by_cases h1 : lo ≤ n
      · by_cases h2 : n ≤ hi
        · by_cases h3 : bits .andNot .i64 n bs = 0
          · have HR : Hid (okN (o : Int) n K = (kd == decide (0 < K))) := by
              show _ = _
              rw [← HV.out]; simp [vnB, h1, h2, h3]
            go_enter Tryd.func67, Tryd.ntmps67
            go_wp2_with fail
            go_ret
            exact ⟨ret_bool HR.out.symm, alloc2_below _ _ _⟩
          · have HR : Hid (okN (o : Int) n K = false) := by
              show _ = _
              rw [← HV.out]; simp [vnB, h3]
            have hd3 : (bits .andNot .i64 n bs == 0) = false := by simpa using h3
            have hd4 : decide (bits .andNot .i64 n bs = 0) = false := decide_eq_false h3
            go_enter Tryd.func67, Tryd.ntmps67
            go_wp2_with fail
            go_ret
            exact ⟨ret_bool HR.out.symm, alloc2_below _ _ _⟩
        · have HR : Hid (okN (o : Int) n K = false) := by
            show _ = _
            rw [← HV.out]; simp [vnB, h2]
          have hd3 : decide (n ≤ hi) = false := decide_eq_false h2
          go_enter Tryd.func67, Tryd.ntmps67
          go_wp2_with fail
          go_ret
          exact ⟨ret_bool HR.out.symm, alloc2_below _ _ _⟩
      · have HR : Hid (okN (o : Int) n K = false) := by
          show _ = _
          rw [← HV.out]; simp [vnB, h1]
        have hd3 : decide (lo ≤ n) = false := decide_eq_false h1
        go_enter Tryd.func67, Tryd.ntmps67
        go_wp2_with fail
        go_ret
        exact ⟨ret_bool HR.out.symm, alloc2_below _ _ _⟩

theorem heap_set_row {w : World} {b i : Nat} {cs : Array Value} {t : TypeId} {u : Value} (h : w.heap[b]? = some (.cells cs t (0, 0))) : (w.setCell ⟨b, i, none⟩ u).heap[b]? = some (.cells (cs.setIfInBounds i u) t (0, 0)) := by
  obtain ⟨hlt, hk⟩ := Array.getElem?_eq_some_iff.1 h
  show (w.heap.modify b _)[b]? = _
  rw [Array.getElem?_eq_getElem (by rw [Array.size_modify]; exact hlt), Array.getElem_modify_self, hk]
  rfl

/-- All but the block b is kept. -/
structure Kb (b : Nat) (w w' : World) : Prop where
  os : w'.os = w.os
  tape : w'.tape = w.tape
  output : w'.output = w.output
  size : w.heap.size ≤ w'.heap.size
  block : ∀ k, k < w.heap.size → k ≠ b → w'.heap[k]? = w.heap[k]?
theorem Kb.refl (b : Nat) (w : World) : Kb b w w := ⟨rfl, rfl, rfl, Nat.le_refl _, fun _ _ _ => rfl⟩
theorem Kb.trans {b : Nat} {x y z : World} (h : Kb b x y) (k : Kb b y z) : Kb b x z :=
  ⟨k.os.trans h.os, k.tape.trans h.tape, k.output.trans h.output, Nat.le_trans h.size k.size, fun i hi h1 => (k.block i (Nat.lt_of_lt_of_le hi h.size) h1).trans (h.block i hi h1)⟩
theorem Kb.of_below {b : Nat} {x y : World} (h : Below x.heap.size x y) : Kb b x y := ⟨h.os, h.tape, h.output, h.size, fun k hk _ => h.block k hk⟩
theorem Kb.set {b : Nat} {x y : World} (h : Kb b x y) (i : Nat) (u : Value) : Kb b x (y.setCell ⟨b, i, none⟩ u) :=
  h.trans ⟨rfl, rfl, rfl, by simp [World.setCell], fun k hk h1 => Below.heap_setCell _ _ _ _ h1⟩
theorem Kb.cell {b : Nat} {x y : World} (h : Kb b x y) {p : Addr} (hp : p.block < x.heap.size) (h1 : p.block ≠ b) : y.cell? p = x.cell? p := World.cell?_of_block (w := x) (h.block p.block hp h1)
/-- Where the block is new, what was there is kept. -/
theorem Kb.below {b B : Nat} {x y : World} (h : Kb b x y) (hb : B ≤ b) (hs : B ≤ x.heap.size) : Below B x y := ⟨h.os, h.tape, h.output, h.size, fun k hk => h.block k (by omega) (by omega)⟩

set_option maxRecDepth 100000 in
set_option maxHeartbeats 1600000 in
/-- A node is counted; it is within the limits. -/
theorem penter_any (b : Nat) (m d e : Nat) (w : World) (hb : w.heap[b]? = some (.cells #[.int .i64 (m : Int), .int .i64 (d : Int)] 55 (0, 0))) (hm : m ≤ 1000000) (he : e ≤ 60000) (hd : d ≤ 1000000) :
    Calls Tryd.prog 66 #[.pointer (some ⟨b, 0, none⟩), .int .i64 (e : Int)] w fun r w' => r = .returned (.bool true) ∧ Kb b w w' ∧ w'.heap[b]? = some (.cells #[.int .i64 ((m + 1 : Nat) : Int), .int .i64 ((max d e : Nat) : Int)] 55 (0, 0)) := by
  have c0 := cell_of_row _ _ 0 _ _ _ hb
  have c1 := cell_of_row _ _ 1 _ _ _ hb
  have f0 := frozen_of_row _ _ 0 _ _ hb
  have f1 := frozen_of_row _ _ 1 _ _ hb
  have HB := Lib.hid hb
  clear hb
  go_enter Tryd.func66, Tryd.ntmps66
  go_wp2_with fail
  all_goals
    go_ret
    refine ⟨ret_bool (decide_eq_true (by omega)), ((Kb.refl b w).set _ _).set _ _, ?_⟩
    rw [heap_set_row (heap_set_row HB.out)]
    simp
    try omega
end Go.Proofs.YtjkbfogjfgnhiaaDoor
