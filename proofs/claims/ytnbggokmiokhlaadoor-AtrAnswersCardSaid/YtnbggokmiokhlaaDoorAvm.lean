/-
  The groups of an answer in memory: one block, three cells a group; each group's values lie in a block of their own.
-/
import Derived.Test.YtnbggokmiokhlaaDoorAva
namespace Go.Proofs.YtnbggokmiokhlaaDoor
set_option linter.unusedVariables false
set_option linter.unusedSimpArgs false
open Go.RowKit

def u8v (x : UInt8) : Value := .int .u8 (x.toNat : Int)
/-- The cells of n groups: low bits and presence out of s, the values' slices out of val. -/
def ArrIs (arr : Array Value) (n : Nat) (s : Nat → Gr) (val : Nat → Value) : Prop :=
  arr.size = n * 3 ∧ ∀ i, i < n → arr[i * 3]? = some (u8v (s i).lo) ∧ arr[i * 3 + 1]? = some (u8v (s i).pr) ∧ arr[i * 3 + 2]? = some (val i)
theorem ArrIs.lo {arr : Array Value} {n : Nat} {s s' : Nat → Gr} {val : Nat → Value} (h : ArrIs arr n s val) (i0 : Nat) (hi : i0 < n) (L : UInt8)
    (h1 : ∀ i, i < n → i ≠ i0 → (s' i).lo = (s i).lo) (h2 : (s' i0).lo = L) (h3 : ∀ i, i < n → (s' i).pr = (s i).pr) : ArrIs (arr.setIfInBounds (i0 * 3) (u8v L)) n s' val := by
  refine ⟨by simp [h.1], fun i hi' => ?_⟩
  obtain ⟨a1, a2, a3⟩ := h.2 i hi'
  have hsz := h.1
  refine ⟨?_, ?_, ?_⟩
  · by_cases e : i = i0
    · subst e
      rw [Array.getElem?_setIfInBounds_self_of_lt (by omega), h2]
    · rw [Array.getElem?_setIfInBounds_ne (by omega), h1 i hi' e]; exact a1
  · rw [Array.getElem?_setIfInBounds_ne (by omega), h3 i hi']; exact a2
  · rw [Array.getElem?_setIfInBounds_ne (by omega)]; exact a3
theorem ArrIs.pr {arr : Array Value} {n : Nat} {s s' : Nat → Gr} {val : Nat → Value} (h : ArrIs arr n s val) (i0 : Nat) (hi : i0 < n) (L : UInt8)
    (h1 : ∀ i, i < n → i ≠ i0 → (s' i).pr = (s i).pr) (h2 : (s' i0).pr = L) (h3 : ∀ i, i < n → (s' i).lo = (s i).lo) : ArrIs (arr.setIfInBounds (i0 * 3 + 1) (u8v L)) n s' val := by
  refine ⟨by simp [h.1], fun i hi' => ?_⟩
  obtain ⟨a1, a2, a3⟩ := h.2 i hi'
  have hsz := h.1
  refine ⟨?_, ?_, ?_⟩
  · rw [Array.getElem?_setIfInBounds_ne (by omega), h3 i hi']; exact a1
  · by_cases e : i = i0
    · subst e
      rw [Array.getElem?_setIfInBounds_self_of_lt (by omega), h2]
    · rw [Array.getElem?_setIfInBounds_ne (by omega), h1 i hi' e]; exact a2
  · rw [Array.getElem?_setIfInBounds_ne (by omega)]; exact a3
theorem ArrIs.val {arr : Array Value} {n : Nat} {s s' : Nat → Gr} {val val' : Nat → Value} (h : ArrIs arr n s val) (i0 : Nat) (hi : i0 < n) (v : Value)
    (h1 : ∀ i, i < n → i ≠ i0 → val' i = val i) (h2 : val' i0 = v) (h3 : ∀ i, i < n → (s' i).lo = (s i).lo) (h4 : ∀ i, i < n → (s' i).pr = (s i).pr) : ArrIs (arr.setIfInBounds (i0 * 3 + 2) v) n s' val' := by
  refine ⟨by simp [h.1], fun i hi' => ?_⟩
  obtain ⟨a1, a2, a3⟩ := h.2 i hi'
  have hsz := h.1
  refine ⟨?_, ?_, ?_⟩
  · rw [Array.getElem?_setIfInBounds_ne (by omega), h3 i hi']; exact a1
  · rw [Array.getElem?_setIfInBounds_ne (by omega), h4 i hi']; exact a2
  · by_cases e : i = i0
    · subst e
      rw [Array.getElem?_setIfInBounds_self_of_lt (by omega), h2]
    · rw [Array.getElem?_setIfInBounds_ne (by omega), h1 i hi' e]; exact a3

/-- The groups' block G (of type ty) in the world W, below block B: what the callers read. -/
def GsAt (ty : TypeId) (W : World) (G n : Nat) (s : Nat → Gr) : Prop :=
  G < W.heap.size ∧ ∃ (arr : Array Value) (val : Nat → Value), W.heap[G]? = some (.cells arr ty (0, 0)) ∧ ArrIs arr n s val ∧ ∀ i, i < n → SL W W.heap.size (val i) (s i).vs
/-- The value leads to no cell of block G. -/
def Off (v : Value) (G : Nat) : Prop := ∀ b o n c, v = .slice (some ⟨b, o, none⟩) n c → b ≠ G
theorem Off.nil (G n c : Nat) : Off (.slice none n c) G := fun b o n' c' e => by cases e
theorem OB.off {w : World} {base G : Nat} {v : Value} {l : List UInt8} (h : OB w base v l) (hG : G < base) : Off v G := fun b o n c e => by
  subst e
  rcases h.2 with ⟨h', _⟩ | ⟨g, cap, cur, hv, hb, _⟩
  · cases h'
  · simp only [Value.slice.injEq, Option.some.injEq, Addr.mk.injEq] at hv
    omega
theorem SL.setOff {w : World} {B : Nat} {v : Value} {l : List UInt8} (h : SL w B v l) (p : Addr) (u : Value) (ho : Off v p.block) : SL (w.setCell p u) B v l := by
  obtain ⟨A, c, rfl, h1, h2, h3⟩ := h
  refine ⟨A, c, rfl, h1, h2, fun hp => ?_⟩
  obtain ⟨b, o, rfl, hb, hc⟩ := h3 hp
  refine ⟨b, o, rfl, hb, fun k hk => ?_⟩
  rw [far_set w u (show (⟨b, o + k, none⟩ : Addr).block ≠ p.block from ho b o _ _ rfl)]
  exact hc k hk
theorem OB.setOff {w : World} {base : Nat} {v : Value} {l : List UInt8} (h : OB w base v l) (p : Addr) (u : Value) (hp : p.block < base) : OB (w.setCell p u) base v l := by
  obtain ⟨h1, h2⟩ := h
  refine ⟨h1, ?_⟩
  rcases h2 with h2 | ⟨g, cap, cur, hv, hg, hh, r⟩
  · exact .inl h2
  · exact .inr ⟨g, cap, cur, hv, hg, (heap_setCell_other _ _ _ _ (by omega)).trans hh, r⟩
/-- The block while it is being filled: group i0 is under way, its values lie in blocks of their own from base on; all else lies below. -/
structure CurA (ty : TypeId) (W : World) (G n base : Nat) (s : Nat → Gr) (val : Nat → Value) (i0 : Nat) : Prop where
  lt : G < base
  le : base ≤ W.heap.size
  row : ∃ arr : Array Value, W.heap[G]? = some (.cells arr ty (0, 0)) ∧ ArrIs arr n s val
  old : ∀ i, i < n → i ≠ i0 → SL W base (val i) (s i).vs ∧ Off (val i) G
  nil : ∀ i, i < n → i0 < i → val i = .slice none 0 0
section
variable {ty : TypeId} {W W' : World} {G n base : Nat} {s s' : Nat → Gr} {val val' : Nat → Value} {i0 : Nat}
theorem CurA.below (h : CurA ty W G n base s val i0) (hb : Below base W W') : CurA ty W' G n base s val i0 := by
  obtain ⟨h1, h2, ⟨arr, h3, h4⟩, h5, h6⟩ := h
  exact ⟨h1, Nat.le_trans h2 hb.size, ⟨arr, (hb.block G h1).trans h3, h4⟩, fun i hi hn => ⟨(h5 i hi hn).1.below hb, (h5 i hi hn).2⟩, h6⟩
theorem CurA.drew (h : CurA ty W G n base s val i0) : CurA ty W.drew G n base s val i0 := ⟨h.lt, h.le, h.row, h.old, h.nil⟩
theorem CurA.set (h : CurA ty W G n base s val i0) (j : Nat) (u : Value) (hr : ∀ arr : Array Value, ArrIs arr n s val → ArrIs (arr.setIfInBounds j u) n s' val') (hs : ∀ i, i < n → i ≠ i0 → (s' i).vs = (s i).vs) (hv : ∀ i, i < n → i ≠ i0 → val' i = val i) : CurA ty (W.setCell ⟨G, j, none⟩ u) G n base s' val' i0 := by
  obtain ⟨h1, h2, ⟨arr, h3, h4⟩, h5, h6⟩ := h
  refine ⟨h1, by simp; exact h2, ⟨_, heap_setCell_same _ _ _ _ _ _ h3, hr arr h4⟩, fun i hi hn => ?_, fun i hi hl => ?_⟩
  · rw [hs i hi hn, hv i hi hn]
    exact ⟨(h5 i hi hn).1.setOff _ _ (h5 i hi hn).2, (h5 i hi hn).2⟩
  · rw [hv i hi (by omega)]
    exact h6 i hi hl
theorem CurA.cells (h : CurA ty W G n base s val i0) (i : Nat) (hi : i < n) :
    (W.cell? ⟨G, i * 3, none⟩ = some (.int .u8 ((s i).lo.toNat : Int)) ∧ W.cell? ⟨G, i * 3 + 1, none⟩ = some (.int .u8 ((s i).pr.toNat : Int)) ∧ W.cell? ⟨G, i * 3 + 2, none⟩ = some (val i)) ∧
    W.frozen? ⟨G, i * 3, none⟩ = false ∧ W.frozen? ⟨G, i * 3 + 1, none⟩ = false ∧ W.frozen? ⟨G, i * 3 + 2, none⟩ = false := by
  obtain ⟨arr, h3, h4⟩ := h.row
  obtain ⟨a1, a2, a3⟩ := h4.2 i hi
  exact ⟨⟨(cell_of_row _ _ _ _ _ _ h3).trans a1, (cell_of_row _ _ _ _ _ _ h3).trans a2, (cell_of_row _ _ _ _ _ _ h3).trans a3⟩, frozen_of_row _ _ _ _ _ h3, frozen_of_row _ _ _ _ _ h3, frozen_of_row _ _ _ _ _ h3⟩
/-- The three stores of a round: presence, values, low bits. -/
theorem CurA.pr1 (h : CurA ty W G n base s val i0) (hi : i0 < n) (p : UInt8) : CurA ty (W.setCell ⟨G, i0 * 3 + 1, none⟩ (.int .u8 (p.toNat : Int))) G n base (fun i => if i = i0 then ⟨(s i).lo, p, (s i).vs⟩ else s i) val i0 :=
  h.set _ _ (fun arr ha => ha.pr i0 hi p (fun i _ hne => by simp [hne]) (by simp) (fun i _ => by by_cases e : i = i0 <;> simp [e])) (fun i _ hne => by simp [hne]) (fun _ _ _ => rfl)
theorem CurA.val1 (h : CurA ty W G n base s val i0) (hi : i0 < n) (v : Value) (l : List UInt8) : CurA ty (W.setCell ⟨G, i0 * 3 + 2, none⟩ v) G n base (fun i => if i = i0 then ⟨(s i).lo, (s i).pr, l⟩ else s i) (fun i => if i = i0 then v else val i) i0 :=
  h.set _ _ (fun arr ha => ha.val i0 hi v (fun i _ hne => by simp [hne]) (by simp) (fun i _ => by by_cases e : i = i0 <;> simp [e]) (fun i _ => by by_cases e : i = i0 <;> simp [e])) (fun i _ hne => by simp [hne]) (fun i _ hne => by simp [hne])
theorem CurA.lo1 (h : CurA ty W G n base s val i0) (hi : i0 < n) (p : UInt8) : CurA ty (W.setCell ⟨G, i0 * 3, none⟩ (.int .u8 (p.toNat : Int))) G n base (fun i => if i = i0 then ⟨p, (s i).pr, (s i).vs⟩ else s i) val i0 :=
  h.set _ _ (fun arr ha => ha.lo i0 hi p (fun i _ hne => by simp [hne]) (by simp) (fun i _ => by by_cases e : i = i0 <;> simp [e])) (fun i _ hne => by simp [hne]) (fun _ _ _ => rfl)
end
/-- The same between two rounds: the last element seen is of group c. -/
def GsUp (ty : TypeId) (W : World) (G n : Nat) (s : Nat → Gr) (c : Int) : Prop :=
  ∃ (val : Nat → Value) (base i0 : Nat), CurA ty W G n base s val i0 ∧ (i0 < n → OB W base (val i0) (s i0).vs) ∧ (c = (i0 : Int) + 1 ∨ (c = 0 ∧ i0 = 0 ∧ val 0 = .slice none 0 0))
theorem GsUp.at {ty : TypeId} {W : World} {G n : Nat} {s : Nat → Gr} {c : Int} (h : GsUp ty W G n s c) : GsAt ty W G n s := by
  obtain ⟨val, base, i0, ⟨h1, h2, ⟨arr, h3, h4⟩, h5, h6⟩, h7, h8⟩ := h
  refine ⟨by omega, arr, val, h3, h4, fun i hi => ?_⟩
  by_cases e : i = i0
  · subst e; exact (h7 hi).sl
  · exact (h5 i hi e).1.more h2
/-- Group i0 comes next (it is c, or one behind c): it can be told as the call's own. -/
theorem GsUp.next {ty : TypeId} {W : World} {G n : Nat} {s : Nat → Gr} {c : Int} (h : GsUp ty W G n s c) (i0 : Nat) (hi : i0 < n) (hc : c ≤ (i0 : Int) + 1) (hz : c < (i0 : Int) + 1 → (s i0).vs = []) :
    ∃ (val : Nat → Value) (base : Nat), CurA ty W G n base s val i0 ∧ OB W base (val i0) (s i0).vs := by
  obtain ⟨val, base, j, ⟨h1, h2, h3, h5, h6⟩, h7, h8⟩ := h
  by_cases e : j = i0
  · subst e; exact ⟨val, base, ⟨h1, h2, h3, h5, h6⟩, h7 hi⟩
  · have hlt : j < i0 := by
      rcases h8 with h8 | ⟨h8, h9, _⟩ <;> omega
    refine ⟨val, W.heap.size, ⟨by omega, Nat.le_refl _, h3, fun i hi' hn => ?_, fun i hi' hl => h6 i hi' (by omega)⟩, ?_⟩
    · by_cases e' : i = j
      · subst e'; exact ⟨(h7 hi').sl, (h7 hi').off h1⟩
      · exact ⟨(h5 i hi' e').1.more h2, (h5 i hi' e').2⟩
    · rw [h6 i0 hi hlt, hz (by rcases h8 with h8 | ⟨h8, h9, _⟩ <;> omega)]
      exact OB.nil _ _
theorem GsUp.init {ty : TypeId} {W : World} {G n : Nat} {s : Nat → Gr} {arr : Array Value} (hr : W.heap[G]? = some (.cells arr ty (0, 0))) (h : ArrIs arr n s (fun _ => .slice none 0 0)) (hs : ∀ i, (s i).vs = []) : GsUp ty W G n s 0 := by
  have hG : G < W.heap.size := by
    rcases Nat.lt_or_ge G W.heap.size with hlt | hge
    · exact hlt
    · rw [Array.getElem?_eq_none hge] at hr; cases hr
  refine ⟨_, W.heap.size, 0, ⟨hG, Nat.le_refl _, ⟨arr, hr, h⟩, fun i hi hne => ⟨?_, Off.nil _ _ _⟩, fun i hi hl => rfl⟩, fun _ => ?_, .inr ⟨rfl, rfl, rfl⟩⟩
  · rw [hs i]; exact SL.nil _ _ _ _ (Nat.zero_le _)
  · rw [hs 0]; exact OB.nil _ _

/-- One byte appended that has just been laid into a block of its own: what else is in memory is kept. -/
theorem step_app1G {ops : Array Oper} {o : Oper} {a : Act} {W : World} {K : Act → World → Prop} {Q : Exit → Act → World → Prop} {E : Prop} (hgd : o.guard = none) (s x : Operand)
    (ho : o.op = .call { callee := .builtin .append, args := #[s, x], argTypes := #[24, 24] }) (base : Nat) (v : Value) (l : List UInt8) (y : UInt8) (z : Int) (B : Nat)
    (hs : a.eval s = v) (hx : a.eval x = .slice (some ⟨B, 0, none⟩) 1 1) (hown : OB W base v l) (hB : W.heap[B]? = some (.cells #[.int .u8 z] 5 (0, 0)))
    (hz : z = (y.toNat : Int)) (hlen : l.length ≤ 10000000) (hbase : base ≤ W.heap.size)
    (h : ∀ g cap w', OB w' base (.slice (some ⟨g, 0, none⟩) (l.length + 1) cap) (l ++ [y]) → W.grownBy w' v.ownBlock → K (a.put o.dst (.slice (some ⟨g, 0, none⟩) (l.length + 1) cap)) w') :
    if Region.wanted o (yielded ops a.tmps) = true then Oper.wp Tryd.prog o a W K Q else E := by
  have hw : Region.wanted o (yielded ops a.tmps) = true := by simp [Region.wanted, hgd]
  rw [if_pos hw]
  obtain ⟨i0, hi0, hz0, hz1, hz2⟩ := info_parts info5
  obtain ⟨v', w', hr, h2, h3, h4, h5⟩ := run_append_own_at (P := Tryd.prog) W base 24 o.type 5 i0 (.int .u8 0) 1 1 Tryd.underlying24 hi0 hz0 hz1 hz2 rfl (by omega) v l.length (l.map bv) hown ⟨B, 0, none⟩ 1 1 ([y].map bv) (by simp)
    (fun j u hu => by
      have hj : j < 1 := by have := (List.getElem?_eq_some_iff.1 hu).1; simpa using this
      have hj0 : j = 0 := by omega
      subst hj0
      rw [addr_add, cell_of_row W B _ _ 5 (0, 0) hB, hz, ← hu]
      rfl) (map_bv_one [y]) (by simp only [maxLen]; omega) (by omega) (by omega)
  have h2' : OB w' base v' (l ++ [y]) := by unfold OB; rw [List.length_append, List.map_append]; exact h2
  unfold Oper.wp execOp
  simp only [ho, resolve, invoke, builtin, Sem.run_bind, Sem.run_pure, Result.andThen_ok, List.map_toArray, List.map_cons, List.map_nil, hs, hx]
  have hr' : (Builtin.append_ #[24, 24] o.type #[v, .slice (some ⟨B, 0, none⟩) 1 1]).run Tryd.prog W = .ok v' w' := hr
  rw [hr']
  obtain ⟨g, cap, rfl, _, _⟩ := World.ownsRow.form h2' (by simp)
  simp only [List.length_append, List.length_cons, List.length_nil, Nat.zero_add] at h2' ⊢
  exact h g cap w' h2' h3
theorem GsAt.cells {ty : TypeId} {W : World} {G n : Nat} {s : Nat → Gr} (h : GsAt ty W G n s) (i : Nat) (hi : i < n) :
    ∃ (A : Option Addr) (cp : Nat), W.cell? ⟨G, i * 3, none⟩ = some (.int .u8 ((s i).lo.toNat : Int)) ∧ W.cell? ⟨G, i * 3 + 1, none⟩ = some (.int .u8 ((s i).pr.toNat : Int)) ∧ W.cell? ⟨G, i * 3 + 2, none⟩ = some (.slice A (s i).vs.length cp) ∧ SL W W.heap.size (.slice A (s i).vs.length cp) (s i).vs := by
  obtain ⟨_, arr, val, h1, h2, h3⟩ := h
  obtain ⟨a1, a2, a3⟩ := h2.2 i hi
  have hs := h3 i hi
  obtain ⟨A, cp, e, _⟩ := id hs
  rw [e] at hs a3
  exact ⟨A, cp, (cell_of_row _ _ _ _ _ _ h1).trans a1, (cell_of_row _ _ _ _ _ _ h1).trans a2, (cell_of_row _ _ _ _ _ _ h1).trans a3, hs⟩
theorem GsAt.on {ty : TypeId} {W W' : World} {G n : Nat} {s : Nat → Gr} (h : GsAt ty W G n s) (hb : Below W.heap.size W W') : GsAt ty W' G n s := by
  obtain ⟨h0, arr, val, h1, h2, h3⟩ := h
  exact ⟨Nat.lt_of_lt_of_le h0 hb.size, arr, val, (hb.block G h0).trans h1, h2, fun i hi => (h3 i hi).on hb⟩
end Go.Proofs.YtnbggokmiokhlaaDoor
