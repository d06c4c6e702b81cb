
/-
  Words for slices of words (uint32), as those for slices of bytes: a slice value that reads as a list, one that the call itself owns.
-/
import Derived.Test.YtiholfpcndjliaaDoorEcp
namespace Go.Proofs.YtiholfpcndjliaaDoor
set_option linter.unusedVariables false
set_option linter.unusedSimpArgs false
open Go.RowKit
/-- A byte as a value. -/
def iv (x : Nat) : Value := .int .i64 (x : Int)

/-- Where there is a byte, the address A leads to the bytes l, below block B. -/
def RdI (w : World) (B : Nat) (A : Option Addr) (l : List Nat) : Prop :=
  0 < l.length → ∃ b o, A = some ⟨b, o, none⟩ ∧ b < B ∧ ∀ k, k < l.length → w.cell? ⟨b, o + k, none⟩ = some (.int .i64 ((l.getD k 0 : Nat) : Int))

/-- The value v is a slice that reads in w as the bytes l; what it reads lies below block B. -/
def SI (w : World) (B : Nat) (v : Value) (l : List Nat) : Prop :=
  ∃ (A : Option Addr) (c : Nat), v = .slice A l.length c ∧ l.length ≤ c ∧ c ≤ maxLen ∧ RdI w B A l

/-- The value v is a slice of the bytes l that the call itself has made, in blocks from base on. -/
def OI (w : World) (base : Nat) (v : Value) (l : List Nat) : Prop := w.ownsRow base 3 1 v l.length (l.map iv)

theorem map_iv_get (l : List Nat) (k : Nat) (h : k < l.length) : (l.map iv)[k]? = some (.int .i64 ((l.getD k 0 : Nat) : Int)) := by
  simp [List.getElem?_map, List.getElem?_eq_getElem h, List.getD, iv]
theorem map_iv_one (l : List Nat) : ∀ u ∈ l.map iv, u.oneCell' = true := by
  intro u hu; obtain ⟨x, _, rfl⟩ := List.mem_map.1 hu; rfl

section
variable {w w' : World} {B B' base : Nat} {v : Value} {l : List Nat}

theorem SI.keep (h : SI w B v l) (hk : ∀ p : Addr, p.block < B → w'.cell? p = w.cell? p) : SI w' B v l := by
  obtain ⟨A, c, hv, h1, h2, h3⟩ := h
  refine ⟨A, c, hv, h1, h2, fun hp => ?_⟩
  obtain ⟨b, o, hA, hb, hc⟩ := h3 hp
  exact ⟨b, o, hA, hb, fun k hk' => (hk ⟨b, o + k, none⟩ hb).trans (hc k hk')⟩

theorem SI.more (h : SI w B v l) (hB : B ≤ B') : SI w B' v l := by
  obtain ⟨A, c, hv, h1, h2, h3⟩ := h
  refine ⟨A, c, hv, h1, h2, fun hp => ?_⟩
  obtain ⟨b, o, hA, hb, hc⟩ := h3 hp
  exact ⟨b, o, hA, by omega, hc⟩

theorem SI.below (h : SI w B v l) (hb : Below B w w') : SI w' B v l := h.keep fun _ hp => hb.cell hp
/-- What lay below the heap's size lies there still behind a call that wrote nothing that was there. -/
theorem SI.on (h : SI w w.heap.size v l) (hb : Below w.heap.size w w') : SI w' w'.heap.size v l := (h.below hb).more hb.size

theorem SI.nil (w : World) (B c : Nat) (A : Option Addr) (hc : c ≤ maxLen) : SI w B (.slice A 0 c) [] := ⟨A, c, rfl, Nat.zero_le _, hc, fun h => absurd h (by simp)⟩

theorem OI.nil (w : World) (base : Nat) : OI w base (.slice none 0 0) [] := World.ownsRow_nil ..

theorem OI.sl (h : OI w base v l) : SI w w.heap.size v l := by
  rcases h.2 with ⟨rfl, h0⟩ | ⟨g, cap, cur, rfl, hb, hg, hn, hm, hs, ht⟩
  · have : l = [] := List.eq_nil_of_length_eq_zero h0
    subst this
    exact SI.nil _ _ _ _ (Nat.zero_le _)
  · refine ⟨some ⟨g, 0, none⟩, cap, rfl, hn, hm, fun _ => ⟨g, 0, rfl, ?_, fun k hk => ?_⟩⟩
    · rcases Nat.lt_or_ge g w.heap.size with hlt | hge
      · exact hlt
      · rw [Array.getElem?_eq_none hge] at hg; cases hg
    · have := World.ownsRow.cellAt (w := w) (base := base) (e := 3) (size := 1) (g := g) (n := l.length) (cap := cap) (xs := l.map iv) h (0 + k) (by omega)
      rw [this, Nat.zero_add, map_iv_get l k hk]

/-- An append to what the call owns leaves what lies below the call's own blocks. -/
theorem OI.far {W w1 : World} {p : Addr} (h : OI w base v l) (hg : W.grownBy w1 v.ownBlock) (hp : p.block < base) (hW : base ≤ W.heap.size) : w1.cell? p = W.cell? p :=
  hg.cell_far _ (by omega) (fun e => by have := (h.lt _ e.symm).1; omega)
theorem OI.below_block (h : OI w base v l) : ∀ k, v.ownBlock = some k → base ≤ k := fun k hk => (h.lt k hk).1

end

theorem info3 : (Tryd.prog.info? 3).map (fun i => (i.zero, i.size, i.bytes)) = some (some (.int .i64 0), 1, 8) := by kernel_rfl

/-- What is owned stays owned in a world that is the same below the heap's size. -/
theorem OI.later {w W : World} {base : Nat} {v : Value} {l : List Nat} (h : OI w base v l) (hb : Below w.heap.size w W) : OI W base v l := by
  obtain ⟨h1, h2⟩ := h
  refine ⟨h1, ?_⟩
  rcases h2 with h2 | ⟨g, cap, cur, hv, hg, hh, r⟩
  · exact .inl h2
  · refine .inr ⟨g, cap, cur, hv, hg, ?_, r⟩
    have hlt : g < w.heap.size := by
      rcases Nat.lt_or_ge g w.heap.size with hlt | hge
      · exact hlt
      · rw [Array.getElem?_eq_none hge] at hh; cases hh
    rw [hb.block g hlt, hh]

theorem OI.value {w : World} {base : Nat} {v : Value} {l : List Nat} (h : OI w base v l) : ∃ A c, v = .slice A l.length c := by
  rcases h.2 with ⟨rfl, h0⟩ | ⟨g, cap, cur, rfl, _⟩
  · exact ⟨none, 0, by rw [h0]⟩
  · exact ⟨_, _, rfl⟩

/-- The run of an append of some bytes, read off a slice that came in. -/
theorem run_appSI (w : World) (base : Nat) (v : Value) (l m : List Nat) (ty : TypeId) (A : Option Addr) (c : Nat) (W : World) (hW : Below w.heap.size w W) (hown : OI w base v l)
    (hm : 0 < m.length → ∃ b o, A = some ⟨b, o, none⟩ ∧ ∀ k, k < m.length → W.cell? ⟨b, o + k, none⟩ = some (.int .i64 ((m.getD k 0 : Nat) : Int)))
    (hlen : l.length + m.length ≤ 100000000) (hbase : base ≤ w.heap.size) :
    ∃ v' w', (Builtin.append_ #[51, 51] ty #[v, .slice A m.length c]).run Tryd.prog W = .ok v' w' ∧ OI w' base v' (l ++ m) ∧ Below base w w' := by
  obtain ⟨i0, hi0, hz0, hz1, hz2⟩ := info_parts info3
  have hown' := hown.later hW
  have hsz := hW.size
  rcases Nat.eq_zero_or_pos m.length with h0 | h0
  · have hmn : m = [] := List.eq_nil_of_length_eq_zero h0
    subst hmn
    refine ⟨v, W, ?_, by simpa using hown', hW.mono hbase⟩
    rcases A with _ | ad
    · rcases hown'.2 with ⟨rfl, h0⟩ | ⟨g, cap, cur, rfl, _, _, hnc, _⟩
      · simp [Builtin.append_, run_underlying Tryd.underlying51, sizeOf, typeInfo, hi0, Builtin.lenOf, Builtin.firstCells]
      · simp [Builtin.append_, run_underlying Tryd.underlying51, sizeOf, typeInfo, hi0, Builtin.lenOf, Builtin.firstCells, hnc, storeCells]
    · obtain ⟨v', w', hr, h2, h3, h4, h5⟩ := run_append_own_at (P := Tryd.prog) W base 51 ty 3 i0 (.int .i64 0) 1 8 Tryd.underlying51 hi0 hz0 hz1 hz2 rfl (by omega) v l.length (l.map iv) hown' ad 0 c [] (by simp) (by simp) (by simp)
        (by simp only [maxLen]; simp at hlen; omega) (by simp at hlen; omega) (by omega)
      rcases hown'.2 with ⟨rfl, h0⟩ | ⟨g, cap, cur, rfl, _, _, hnc, _⟩
      · simp [Builtin.append_, run_underlying Tryd.underlying51, sizeOf, typeInfo, hi0, Builtin.lenOf, Builtin.firstCells, loadCells, loadCellsFrom]
      · simp [Builtin.append_, run_underlying Tryd.underlying51, sizeOf, typeInfo, hi0, Builtin.lenOf, Builtin.firstCells, loadCells, loadCellsFrom, hnc, storeCells]
  · obtain ⟨b, o, rfl, hc⟩ := hm h0
    obtain ⟨v', w', hr, h2, h3, h4, h5⟩ := run_append_own_at (P := Tryd.prog) W base 51 ty 3 i0 (.int .i64 0) 1 8 Tryd.underlying51 hi0 hz0 hz1 hz2 rfl (by omega) v l.length (l.map iv) hown' ⟨b, o, none⟩ m.length c (m.map iv) (by simp)
      (fun j u hu => by
        have hj : j < m.length := by have := (List.getElem?_eq_some_iff.1 hu).1; simpa using this
        rw [addr_add, hc j hj, ← hu, map_iv_get m j hj]) (map_iv_one m) (by simp only [maxLen]; omega) (by omega) (by omega)
    refine ⟨v', w', hr, ?_, ?_⟩
    · unfold OI
      rw [List.length_append, List.map_append]
      exact h2
    · exact (hW.mono hbase).grown h3 (by omega) (fun k hk => (hown'.lt k hk).1)

theorem wp_appSI {o : Oper} {a : Act} {W : World} {K : Act → World → Prop} {Q : Exit → Act → World → Prop} (s x : Operand)
    (ho : o.op = .call { callee := .builtin .append, args := #[s, x], argTypes := #[51, 51] }) (w : World) (base : Nat) (v : Value) (l m : List Nat) (A : Option Addr) (c : Nat)
    (hs : a.eval s = v) (hx : a.eval x = .slice A m.length c) (hW : Below w.heap.size w W) (hown : OI w base v l)
    (hm : 0 < m.length → ∃ b o, A = some ⟨b, o, none⟩ ∧ ∀ k, k < m.length → W.cell? ⟨b, o + k, none⟩ = some (.int .i64 ((m.getD k 0 : Nat) : Int)))
    (hlen : l.length + m.length ≤ 100000000) (hbase : base ≤ w.heap.size)
    (h : ∀ v' w', OI w' base v' (l ++ m) → Below base w w' → K (a.put o.dst v') w') : o.wp Tryd.prog a W K Q := by
  obtain ⟨v', w', hr, h2, h3⟩ := run_appSI w base v l m o.type A c W hW hown hm hlen hbase
  unfold Oper.wp execOp
  simp only [ho, resolve, invoke, builtin, Sem.run_bind, Sem.run_pure, Result.andThen_ok, List.map_toArray, List.map_cons, List.map_nil, hs, hx, hr]
  exact h v' w' h2 h3

/-- A slice appended to what the call owns, in a plain region. -/
theorem wpList_appSI {ops : Array Oper} {rest : List Oper} {o : Oper} {a : Act} {W : World} {Q : Exit → Act → World → Prop} (hgd : o.guard = none) (s x : Operand)
    (ho : o.op = .call { callee := .builtin .append, args := #[s, x], argTypes := #[51, 51] }) (w : World) (base : Nat) (v : Value) (l m : List Nat) (A : Option Addr) (c : Nat)
    (hs : a.eval s = v) (hx : a.eval x = .slice A m.length c) (hW : Below w.heap.size w W) (hown : OI w base v l)
    (hm : 0 < m.length → ∃ b o, A = some ⟨b, o, none⟩ ∧ ∀ k, k < m.length → W.cell? ⟨b, o + k, none⟩ = some (.int .i64 ((m.getD k 0 : Nat) : Int)))
    (hlen : l.length + m.length ≤ 100000000) (hbase : base ≤ w.heap.size)
    (h : ∀ v' w', OI w' base v' (l ++ m) → Below base w w' → wpList Tryd.prog ops Q rest (a.put o.dst v') w') : wpList Tryd.prog ops Q (o :: rest) a W :=
  wpList_plain hgd fun _ hK => wp_appSI s x ho w base v l m A c hs hx hW hown hm hlen hbase fun v' w' h2 h3 => hK _ _ (h v' w' h2 h3)

/-- One byte appended (it has just been laid into a block of its own, number B). -/
theorem wp_app1I {o : Oper} {a : Act} {W : World} {K : Act → World → Prop} {Q : Exit → Act → World → Prop} (s x : Operand)
    (ho : o.op = .call { callee := .builtin .append, args := #[s, x], argTypes := #[51, 51] }) (w : World) (base : Nat) (v : Value) (l : List Nat) (y : Nat) (z : Int) (B : Nat)
    (hs : a.eval s = v) (hx : a.eval x = .slice (some ⟨B, 0, none⟩) 1 1) (hW : Below w.heap.size w W) (hown : OI w base v l) (hB : W.heap[B]? = some (.cells #[.int .i64 z] 3 (0, 0)))
    (hz : z = (y : Int)) (hlen : l.length ≤ 10000000) (hbase : base ≤ w.heap.size)
    (h : ∀ g cap w', OI w' base (.slice (some ⟨g, 0, none⟩) (l.length + 1) cap) (l ++ [y]) → Below base w w' → K (a.put o.dst (.slice (some ⟨g, 0, none⟩) (l.length + 1) cap)) w') : o.wp Tryd.prog a W K Q := by
  obtain ⟨v', w', hr, h2, h3⟩ := run_appSI w base v l [y] o.type (some ⟨B, 0, none⟩) 1 W hW hown (fun _ => ⟨B, 0, rfl, fun k hk => by
    have hk0 : k = 0 := by simpa using hk
    subst hk0
    rw [cell_of_row W B _ _ 3 (0, 0) hB, hz]
    rfl⟩) (by simp; omega) hbase
  unfold Oper.wp execOp
  simp only [ho, resolve, invoke, builtin, Sem.run_bind, Sem.run_pure, Result.andThen_ok, List.map_toArray, List.map_cons, List.map_nil, hs, hx]
  have hr' : (Builtin.append_ #[51, 51] o.type #[v, .slice (some ⟨B, 0, none⟩) 1 1]).run Tryd.prog W = .ok v' w' := hr
  rw [hr']
  obtain ⟨g, cap, rfl, _, _⟩ := World.ownsRow.form h2 (by simp)
  simp only [List.length_append, List.length_cons, List.length_nil, Nat.zero_add] at h2 ⊢
  exact h g cap w' h2 h3

theorem wpList_app1I {ops : Array Oper} {rest : List Oper} {o : Oper} {a : Act} {W : World} {Q : Exit → Act → World → Prop} (hgd : o.guard = none) (s x : Operand)
    (ho : o.op = .call { callee := .builtin .append, args := #[s, x], argTypes := #[51, 51] }) (w : World) (base : Nat) (v : Value) (l : List Nat) (y : Nat) (z : Int) (B : Nat)
    (hs : a.eval s = v) (hx : a.eval x = .slice (some ⟨B, 0, none⟩) 1 1) (hW : Below w.heap.size w W) (hown : OI w base v l) (hB : W.heap[B]? = some (.cells #[.int .i64 z] 3 (0, 0)))
    (hz : z = (y : Int)) (hlen : l.length ≤ 10000000) (hbase : base ≤ w.heap.size)
    (h : ∀ g cap w', OI w' base (.slice (some ⟨g, 0, none⟩) (l.length + 1) cap) (l ++ [y]) → Below base w w' → wpList Tryd.prog ops Q rest (a.put o.dst (.slice (some ⟨g, 0, none⟩) (l.length + 1) cap)) w') : wpList Tryd.prog ops Q (o :: rest) a W :=
  wpList_plain hgd fun _ hK => wp_app1I s x ho w base v l y z B hs hx hW hown hB hz hlen hbase fun g cap w' h2 h3 => hK _ _ (h g cap w' h2 h3)

theorem step_app1I {ops : Array Oper} {o : Oper} {a : Act} {W : World} {K : Act → World → Prop} {Q : Exit → Act → World → Prop} {E : Prop} (hgd : o.guard = none) (s x : Operand)
    (ho : o.op = .call { callee := .builtin .append, args := #[s, x], argTypes := #[51, 51] }) (w : World) (base : Nat) (v : Value) (l : List Nat) (y : Nat) (z : Int) (B : Nat)
    (hs : a.eval s = v) (hx : a.eval x = .slice (some ⟨B, 0, none⟩) 1 1) (hW : Below w.heap.size w W) (hown : OI w base v l) (hB : W.heap[B]? = some (.cells #[.int .i64 z] 3 (0, 0)))
    (hz : z = (y : Int)) (hlen : l.length ≤ 10000000) (hbase : base ≤ w.heap.size)
    (h : ∀ g cap w', OI w' base (.slice (some ⟨g, 0, none⟩) (l.length + 1) cap) (l ++ [y]) → Below base w w' → K (a.put o.dst (.slice (some ⟨g, 0, none⟩) (l.length + 1) cap)) w') :
    if Region.wanted o (yielded ops a.tmps) = true then Oper.wp Tryd.prog o a W K Q else E := by
  have hw : Region.wanted o (yielded ops a.tmps) = true := by simp [Region.wanted, hgd]
  rw [if_pos hw]
  exact wp_app1I s x ho w base v l y z B hs hx hW hown hB hz hlen hbase h

theorem OI.len {w : World} {base g n c : Nat} {l : List Nat} (h : OI w base (.slice (some ⟨g, 0, none⟩) n c) l) : l.length = n := by
  obtain ⟨A, c', e⟩ := h.value
  simp only [Value.slice.injEq] at e
  exact e.2.1.symm

theorem OI.cellAt {w : World} {base g n c : Nat} {l : List Nat} (h : OI w base (.slice (some ⟨g, 0, none⟩) n c) l) (j : Nat) (hj : j < l.length) : w.cell? ⟨g, j, none⟩ = some (.int .i64 ((l.getD j 0 : Nat) : Int)) := by
  have hl := h.len
  subst hl
  have := World.ownsRow.cellAt (w := w) (base := base) (e := 3) (size := 1) (g := g) (n := l.length) (cap := c) (xs := l.map iv) h j (by omega)
  rw [this, map_iv_get l j hj]

theorem OI.frozenAt {w : World} {base g n c : Nat} {l : List Nat} (h : OI w base (.slice (some ⟨g, 0, none⟩) n c) l) (j : Nat) : w.frozen? ⟨g, j, none⟩ = false := by
  have hl := h.len
  subst hl
  exact World.ownsRow.frozenAt (w := w) (base := base) (e := 3) (size := 1) (g := g) (n := l.length) (cap := c) (xs := l.map iv) h j

theorem OI.stored {w : World} {base g n c : Nat} {l : List Nat} (h : OI w base (.slice (some ⟨g, 0, none⟩) n c) l) (j : Nat) (y : Nat) (z : Int) (hz : z = (y : Int)) :
    OI (w.setCell ⟨g, j, none⟩ (.int .i64 z)) base (.slice (some ⟨g, 0, none⟩) n c) (l.set j y) := by
  have hl := h.len
  subst hl hz
  have := (World.ownsRow.stored (w := w) (base := base) (e := 3) (size := 1) (g := g) (n := l.length) (cap := c) (xs := l.map iv) h j (iv y)).1
  unfold OI
  rw [List.length_set, List.map_set]
  exact this

theorem OI.base_le {w : World} {base g n c : Nat} {l : List Nat} (h : OI w base (.slice (some ⟨g, 0, none⟩) n c) l) : base ≤ g := (h.lt g rfl).1

theorem OI.cells {w : World} {base g n : Nat} {l : List Nat} (h : OI w base (.slice (some ⟨g, 0, none⟩) n n) l) : w.heap[g]? = some (.cells (l.map iv).toArray 3 (0, 0)) := by
  have hl := h.len
  subst hl
  rcases h.2 with ⟨h', _⟩ | ⟨g', cap, cur, hv, hb, hg, hn, hm, hs, ht⟩
  · cases h'
  · simp only [Value.slice.injEq, Option.some.injEq, Addr.mk.injEq, and_true, true_and] at hv
    obtain ⟨rfl, rfl⟩ := hv
    rw [hg, ← ht, List.take_of_length_le (by rw [Array.length_toList]; omega)]

theorem OI.of_cells {w : World} {base g n : Nat} {l : List Nat} (hb : base ≤ g) (hl : l.length = n) (hm : n ≤ maxLen) (h : w.heap[g]? = some (.cells (l.map iv).toArray 3 (0, 0))) : OI w base (.slice (some ⟨g, 0, none⟩) n n) l := by
  subst hl
  exact ⟨by simp, .inr ⟨g, l.length, _, rfl, hb, h, Nat.le_refl _, hm, by simp, List.take_of_length_le (by simp)⟩⟩

/-- '[]byte{}': a slice of no byte in a new block. -/
theorem OI.made (w : World) : OI (w.alloc (.cells #[] 3)) w.heap.size (.slice (some ⟨w.heap.size, 0, none⟩) 0 0) [] :=
  World.ownsRow_made w #[] 0 (Nat.le_refl _) (Nat.zero_le _) rfl
/-- make([]byte, 0, n). -/
theorem wpList_mk0I {ops : Array Oper} {rest : List Oper} {o : Oper} {a : Act} {w : World} {Q : Exit → Act → World → Prop} (hgd : o.guard = none) (l c : Operand) (ho : o.op = Op.makeSlice 51 l c)
    (kl kc : IntKind) (C : Int) (n : Nat) (hl : a.eval l = .int kl 0) (hc : a.eval c = .int kc C) (hC : C = (n : Int)) (hn : n ≤ 100000000)
    (h : ∀ w', OI w' w.heap.size (.slice (some ⟨w.heap.size, 0, none⟩) 0 n) [] → Below w.heap.size w w' → wpList Tryd.prog ops Q rest (a.put o.dst (.slice (some ⟨w.heap.size, 0, none⟩) 0 n)) w') : wpList Tryd.prog ops Q (o :: rest) a w := by
  obtain ⟨i0, hi0, hz0, hz1, hz2⟩ := info_parts info3
  exact wpList_make_own w hgd l c 51 ho w.heap.size 3 i0 (.int .i64 0) 1 Tryd.underlying51 hi0 hz0 hz1 kl kc C n hl hc hC (by rw [hz2]; omega) (by simp only [maxLen]; omega) (Nat.le_refl _) fun w' h1 h2 =>
    h w' h1 ((Below.refl _ _).grown h2 (Nat.le_refl _) (fun k hk => by cases hk))

end Go.Proofs.YtiholfpcndjliaaDoor
