
/-
  Laws of the walk for byte slices of this program: one byte appended, a slice appended, make, what a slice reads as.
-/
import Derived.Test.YtdalcldilmmgmaaDoorChecked
import Derived.Test.YtdalcldilmmgmaaDoorMem
import Derived.Lib.Hide
import Derived.Laws.CopyOwn
namespace Go.Proofs.YtdalcldilmmgmaaDoor
set_option linter.unusedVariables false
set_option linter.unusedSimpArgs false
open Go.RowKit

theorem info5 : (Tryd.prog.info? 5).map (fun i => (i.zero, i.size, i.bytes)) = some (some (.int .u8 0), 1, 1) := by kernel_rfl

/-- What is owned stays owned in a world that is the same below the heap's size. -/
theorem OB.later {w W : World} {base : Nat} {v : Value} {l : List UInt8} (h : OB w base v l) (hb : Below w.heap.size w W) : OB W base v l := by
  obtain ⟨h1, h2⟩ := h
  refine ⟨h1, ?_⟩
  rcases h2 with h2 | ⟨g, cap, cur, hv, hg, hh, r⟩
  · exact .inl h2
  · refine .inr ⟨g, cap, cur, hv, hg, ?_, r⟩
    have hlt : g < w.heap.size := by
      rcases Nat.lt_or_ge g w.heap.size with hlt | hge
      · exact hlt
      · rw [Array.getElem?_eq_none hge] at hh; cases hh
    rw [hb.block g hlt, hh]

theorem OB.value {w : World} {base : Nat} {v : Value} {l : List UInt8} (h : OB w base v l) : ∃ A c, v = .slice A l.length c := by
  rcases h.2 with ⟨rfl, h0⟩ | ⟨g, cap, cur, rfl, _⟩
  · exact ⟨none, 0, by rw [h0]⟩
  · exact ⟨_, _, rfl⟩

/-- The run of an append of some bytes, read off a slice that came in. -/
theorem run_appS (w : World) (base : Nat) (v : Value) (l m : List UInt8) (ty : TypeId) (A : Option Addr) (c : Nat) (W : World) (hW : Below w.heap.size w W) (hown : OB w base v l)
    (hm : 0 < m.length → ∃ b o, A = some ⟨b, o, none⟩ ∧ ∀ k, k < m.length → W.cell? ⟨b, o + k, none⟩ = some (.int .u8 ((m.getD k 0).toNat : Int)))
    (hlen : l.length + m.length ≤ 100000000) (hbase : base ≤ w.heap.size) :
    ∃ v' w', (Builtin.append_ #[22, 22] ty #[v, .slice A m.length c]).run Tryd.prog W = .ok v' w' ∧ OB w' base v' (l ++ m) ∧ Below base w w' := by
  obtain ⟨i0, hi0, hz0, hz1, hz2⟩ := info_parts info5
  have hown' := hown.later hW
  have hsz := hW.size
  rcases Nat.eq_zero_or_pos m.length with h0 | h0
  · have hmn : m = [] := List.eq_nil_of_length_eq_zero h0
    subst hmn
    refine ⟨v, W, ?_, by simpa using hown', hW.mono hbase⟩
    rcases A with _ | ad
    · rcases hown'.2 with ⟨rfl, h0⟩ | ⟨g, cap, cur, rfl, _, _, hnc, _⟩
      · simp [Builtin.append_, run_underlying Tryd.underlying22, sizeOf, typeInfo, hi0, Builtin.lenOf, Builtin.firstCells]
      · simp [Builtin.append_, run_underlying Tryd.underlying22, sizeOf, typeInfo, hi0, Builtin.lenOf, Builtin.firstCells, hnc, storeCells]
    · obtain ⟨v', w', hr, h2, h3, h4, h5⟩ := run_append_own_at (P := Tryd.prog) W base 22 ty 5 i0 (.int .u8 0) 1 1 Tryd.underlying22 hi0 hz0 hz1 hz2 rfl (by omega) v l.length (l.map bv) hown' ad 0 c [] (by simp) (by simp) (by simp)
        (by simp only [maxLen]; simp at hlen; omega) (by simp at hlen; omega) (by omega)
      rcases hown'.2 with ⟨rfl, h0⟩ | ⟨g, cap, cur, rfl, _, _, hnc, _⟩
      · simp [Builtin.append_, run_underlying Tryd.underlying22, sizeOf, typeInfo, hi0, Builtin.lenOf, Builtin.firstCells, loadCells, loadCellsFrom]
      · simp [Builtin.append_, run_underlying Tryd.underlying22, sizeOf, typeInfo, hi0, Builtin.lenOf, Builtin.firstCells, loadCells, loadCellsFrom, hnc, storeCells]
  · obtain ⟨b, o, rfl, hc⟩ := hm h0
    obtain ⟨v', w', hr, h2, h3, h4, h5⟩ := run_append_own_at (P := Tryd.prog) W base 22 ty 5 i0 (.int .u8 0) 1 1 Tryd.underlying22 hi0 hz0 hz1 hz2 rfl (by omega) v l.length (l.map bv) hown' ⟨b, o, none⟩ m.length c (m.map bv) (by simp)
      (fun j u hu => by
        have hj : j < m.length := by have := (List.getElem?_eq_some_iff.1 hu).1; simpa using this
        rw [addr_add, hc j hj, ← hu, map_bv_get m j hj]) (map_bv_one m) (by simp only [maxLen]; omega) (by omega) (by omega)
    refine ⟨v', w', hr, ?_, ?_⟩
    · unfold OB
      rw [List.length_append, List.map_append]
      exact h2
    · exact (hW.mono hbase).grown h3 (by omega) (fun k hk => (hown'.lt k hk).1)

theorem wp_appS {o : Oper} {a : Act} {W : World} {K : Act → World → Prop} {Q : Exit → Act → World → Prop} (s x : Operand)
    (ho : o.op = .call { callee := .builtin .append, args := #[s, x], argTypes := #[22, 22] }) (w : World) (base : Nat) (v : Value) (l m : List UInt8) (A : Option Addr) (c : Nat)
    (hs : a.eval s = v) (hx : a.eval x = .slice A m.length c) (hW : Below w.heap.size w W) (hown : OB w base v l)
    (hm : 0 < m.length → ∃ b o, A = some ⟨b, o, none⟩ ∧ ∀ k, k < m.length → W.cell? ⟨b, o + k, none⟩ = some (.int .u8 ((m.getD k 0).toNat : Int)))
    (hlen : l.length + m.length ≤ 100000000) (hbase : base ≤ w.heap.size)
    (h : ∀ v' w', OB w' base v' (l ++ m) → Below base w w' → K (a.put o.dst v') w') : o.wp Tryd.prog a W K Q := by
  obtain ⟨v', w', hr, h2, h3⟩ := run_appS w base v l m o.type A c W hW hown hm hlen hbase
  unfold Oper.wp execOp
  simp only [ho, resolve, invoke, builtin, Sem.run_bind, Sem.run_pure, Result.andThen_ok, List.map_toArray, List.map_cons, List.map_nil, hs, hx, hr]
  exact h v' w' h2 h3

/-- A slice appended to what the call owns, in a plain region. -/
theorem wpList_appS {ops : Array Oper} {rest : List Oper} {o : Oper} {a : Act} {W : World} {Q : Exit → Act → World → Prop} (hgd : o.guard = none) (s x : Operand)
    (ho : o.op = .call { callee := .builtin .append, args := #[s, x], argTypes := #[22, 22] }) (w : World) (base : Nat) (v : Value) (l m : List UInt8) (A : Option Addr) (c : Nat)
    (hs : a.eval s = v) (hx : a.eval x = .slice A m.length c) (hW : Below w.heap.size w W) (hown : OB w base v l)
    (hm : 0 < m.length → ∃ b o, A = some ⟨b, o, none⟩ ∧ ∀ k, k < m.length → W.cell? ⟨b, o + k, none⟩ = some (.int .u8 ((m.getD k 0).toNat : Int)))
    (hlen : l.length + m.length ≤ 100000000) (hbase : base ≤ w.heap.size)
    (h : ∀ v' w', OB w' base v' (l ++ m) → Below base w w' → wpList Tryd.prog ops Q rest (a.put o.dst v') w') : wpList Tryd.prog ops Q (o :: rest) a W :=
  wpList_plain hgd fun _ hK => wp_appS s x ho w base v l m A c hs hx hW hown hm hlen hbase fun v' w' h2 h3 => hK _ _ (h v' w' h2 h3)

/-- One byte appended (it has just been laid into a block of its own, number B). -/
theorem wp_app1 {o : Oper} {a : Act} {W : World} {K : Act → World → Prop} {Q : Exit → Act → World → Prop} (s x : Operand)
    (ho : o.op = .call { callee := .builtin .append, args := #[s, x], argTypes := #[22, 22] }) (w : World) (base : Nat) (v : Value) (l : List UInt8) (y : UInt8) (z : Int) (B : Nat)
    (hs : a.eval s = v) (hx : a.eval x = .slice (some ⟨B, 0, none⟩) 1 1) (hW : Below w.heap.size w W) (hown : OB w base v l) (hB : W.heap[B]? = some (.cells #[.int .u8 z] 5 (0, 0)))
    (hz : z = (y.toNat : Int)) (hlen : l.length ≤ 10000000) (hbase : base ≤ w.heap.size)
    (h : ∀ g cap w', OB w' base (.slice (some ⟨g, 0, none⟩) (l.length + 1) cap) (l ++ [y]) → Below base w w' → K (a.put o.dst (.slice (some ⟨g, 0, none⟩) (l.length + 1) cap)) w') : o.wp Tryd.prog a W K Q := by
  obtain ⟨v', w', hr, h2, h3⟩ := run_appS w base v l [y] o.type (some ⟨B, 0, none⟩) 1 W hW hown (fun _ => ⟨B, 0, rfl, fun k hk => by
    have hk0 : k = 0 := by simpa using hk
    subst hk0
    rw [cell_of_row W B _ _ 5 (0, 0) hB, hz]
    rfl⟩) (by simp; omega) hbase
  unfold Oper.wp execOp
  simp only [ho, resolve, invoke, builtin, Sem.run_bind, Sem.run_pure, Result.andThen_ok, List.map_toArray, List.map_cons, List.map_nil, hs, hx]
  have hr' : (Builtin.append_ #[22, 22] o.type #[v, .slice (some ⟨B, 0, none⟩) 1 1]).run Tryd.prog W = .ok v' w' := hr
  rw [hr']
  obtain ⟨g, cap, rfl, _, _⟩ := World.ownsRow.form h2 (by simp)
  simp only [List.length_append, List.length_cons, List.length_nil, Nat.zero_add] at h2 ⊢
  exact h g cap w' h2 h3

theorem wpList_app1 {ops : Array Oper} {rest : List Oper} {o : Oper} {a : Act} {W : World} {Q : Exit → Act → World → Prop} (hgd : o.guard = none) (s x : Operand)
    (ho : o.op = .call { callee := .builtin .append, args := #[s, x], argTypes := #[22, 22] }) (w : World) (base : Nat) (v : Value) (l : List UInt8) (y : UInt8) (z : Int) (B : Nat)
    (hs : a.eval s = v) (hx : a.eval x = .slice (some ⟨B, 0, none⟩) 1 1) (hW : Below w.heap.size w W) (hown : OB w base v l) (hB : W.heap[B]? = some (.cells #[.int .u8 z] 5 (0, 0)))
    (hz : z = (y.toNat : Int)) (hlen : l.length ≤ 10000000) (hbase : base ≤ w.heap.size)
    (h : ∀ g cap w', OB w' base (.slice (some ⟨g, 0, none⟩) (l.length + 1) cap) (l ++ [y]) → Below base w w' → wpList Tryd.prog ops Q rest (a.put o.dst (.slice (some ⟨g, 0, none⟩) (l.length + 1) cap)) w') : wpList Tryd.prog ops Q (o :: rest) a W :=
  wpList_plain hgd fun _ hK => wp_app1 s x ho w base v l y z B hs hx hW hown hB hz hlen hbase fun g cap w' h2 h3 => hK _ _ (h g cap w' h2 h3)

theorem step_app1 {ops : Array Oper} {o : Oper} {a : Act} {W : World} {K : Act → World → Prop} {Q : Exit → Act → World → Prop} {E : Prop} (hgd : o.guard = none) (s x : Operand)
    (ho : o.op = .call { callee := .builtin .append, args := #[s, x], argTypes := #[22, 22] }) (w : World) (base : Nat) (v : Value) (l : List UInt8) (y : UInt8) (z : Int) (B : Nat)
    (hs : a.eval s = v) (hx : a.eval x = .slice (some ⟨B, 0, none⟩) 1 1) (hW : Below w.heap.size w W) (hown : OB w base v l) (hB : W.heap[B]? = some (.cells #[.int .u8 z] 5 (0, 0)))
    (hz : z = (y.toNat : Int)) (hlen : l.length ≤ 10000000) (hbase : base ≤ w.heap.size)
    (h : ∀ g cap w', OB w' base (.slice (some ⟨g, 0, none⟩) (l.length + 1) cap) (l ++ [y]) → Below base w w' → K (a.put o.dst (.slice (some ⟨g, 0, none⟩) (l.length + 1) cap)) w') :
    if Region.wanted o (yielded ops a.tmps) = true then Oper.wp Tryd.prog o a W K Q else E := by
  have hw : Region.wanted o (yielded ops a.tmps) = true := by simp [Region.wanted, hgd]
  rw [if_pos hw]
  exact wp_app1 s x ho w base v l y z B hs hx hW hown hB hz hlen hbase h

/-- make([]byte, n). -/
theorem wpList_mk {ops : Array Oper} {rest : List Oper} {o : Oper} {a : Act} {w : World} {Q : Exit → Act → World → Prop} (hgd : o.guard = none) (l c : Operand) (ho : o.op = Op.makeSlice 22 l c)
    (kl kc : IntKind) (L C : Int) (n : Nat) (hl : a.eval l = .int kl L) (hc : a.eval c = .int kc C) (hL : L = (n : Int)) (hC : C = (n : Int)) (hn : n ≤ 100000000)
    (h : ∀ w', OB w' w.heap.size (.slice (some ⟨w.heap.size, 0, none⟩) n n) (List.replicate n 0) → Below w.heap.size w w' → wpList Tryd.prog ops Q rest (a.put o.dst (.slice (some ⟨w.heap.size, 0, none⟩) n n)) w') : wpList Tryd.prog ops Q (o :: rest) a w := by
  obtain ⟨i0, hi0, hz0, hz1, hz2⟩ := info_parts info5
  refine wpList_make_full w hgd l c 22 ho w.heap.size 5 i0 (.int .u8 0) 1 Tryd.underlying22 hi0 hz0 hz1 kl kc L C n hl hc hL hC (by rw [hz2]; omega) (by simp only [maxLen]; omega) (Nat.le_refl _) fun w' h1 h2 => h w' ?_ ?_
  · unfold OB
    rw [List.length_replicate]
    have e : (madeCells (Value.int .u8 0).cells (n * 1)).toList = (List.replicate n (0 : UInt8)).map bv := by
      show (madeCells #[Value.int .u8 0] (n * 1)).toList = _
      rw [toList_madeCells_one, Nat.mul_one, List.map_replicate]
      rfl
    rw [← e]
    exact h1
  · exact (Below.refl _ _).grown h2 (Nat.le_refl _) (fun k hk => by cases hk)

theorem OB.len {w : World} {base g n c : Nat} {l : List UInt8} (h : OB w base (.slice (some ⟨g, 0, none⟩) n c) l) : l.length = n := by
  obtain ⟨A, c', e⟩ := h.value
  simp only [Value.slice.injEq] at e
  exact e.2.1.symm

theorem OB.cellAt {w : World} {base g n c : Nat} {l : List UInt8} (h : OB w base (.slice (some ⟨g, 0, none⟩) n c) l) (j : Nat) (hj : j < l.length) : w.cell? ⟨g, j, none⟩ = some (.int .u8 ((l.getD j 0).toNat : Int)) := by
  have hl := h.len
  subst hl
  have := World.ownsRow.cellAt (w := w) (base := base) (e := 5) (size := 1) (g := g) (n := l.length) (cap := c) (xs := l.map bv) h j (by omega)
  rw [this, map_bv_get l j hj]

theorem OB.frozenAt {w : World} {base g n c : Nat} {l : List UInt8} (h : OB w base (.slice (some ⟨g, 0, none⟩) n c) l) (j : Nat) : w.frozen? ⟨g, j, none⟩ = false := by
  have hl := h.len
  subst hl
  exact World.ownsRow.frozenAt (w := w) (base := base) (e := 5) (size := 1) (g := g) (n := l.length) (cap := c) (xs := l.map bv) h j

theorem OB.stored {w : World} {base g n c : Nat} {l : List UInt8} (h : OB w base (.slice (some ⟨g, 0, none⟩) n c) l) (j : Nat) (y : UInt8) (z : Int) (hz : z = (y.toNat : Int)) :
    OB (w.setCell ⟨g, j, none⟩ (.int .u8 z)) base (.slice (some ⟨g, 0, none⟩) n c) (l.set j y) := by
  have hl := h.len
  subst hl hz
  have := (World.ownsRow.stored (w := w) (base := base) (e := 5) (size := 1) (g := g) (n := l.length) (cap := c) (xs := l.map bv) h j (bv y)).1
  unfold OB
  rw [List.length_set, List.map_set]
  exact this

theorem OB.base_le {w : World} {base g n c : Nat} {l : List UInt8} (h : OB w base (.slice (some ⟨g, 0, none⟩) n c) l) : base ≤ g := (h.lt g rfl).1

/-- What a slice that reads as l is to 'string(..)' and to the model's entries. -/
theorem SL.bytesOf {w : World} {B : Nat} {v : Value} {l : List UInt8} (h : SL w B v l) : (Extern.Bytes.bytesOf v).run Tryd.prog w = .ok ⟨l.toArray⟩ w := by
  obtain ⟨A, c, rfl, _, _, h3⟩ := h
  have key : ∀ (m : List UInt8) (b o : Nat) (acc : ByteArray), (∀ k, k < m.length → w.cell? ⟨b, o + k, none⟩ = some (.int .u8 ((m.getD k 0).toNat : Int))) →
      (Extern.Bytes.loadBytes ⟨b, o, none⟩ m.length acc).run Tryd.prog w = .ok ⟨acc.data ++ m.toArray⟩ w := by
    intro m
    induction m with
    | nil => intro b o acc _; simp [Extern.Bytes.loadBytes]
    | cons x m ih =>
      intro b o acc hc
      have h0 := hc 0 (by simp)
      simp at h0
      have e1 : (⟨b, o, none⟩ : Addr).add 1 = ⟨b, o + 1, none⟩ := rfl
      have := ih b (o + 1) (acc.push x) (fun k hk => by
        have := hc (k + 1) (by simp; omega)
        rw [show o + 1 + k = o + (k + 1) from by omega, this]
        simp)
      simp only [List.length_cons, Extern.Bytes.loadBytes, Sem.run_bind, run_load, h0, Result.andThen, e1]
      have ex : (↑x.toNat : Int).toNat.toUInt8 = x := by simp
      rw [ex, this]
      congr 1
      apply ByteArray.ext
      simp [ByteArray.push]
  rcases Nat.eq_zero_or_pos l.length with h0 | h0
  · have hl : l = [] := List.eq_nil_of_length_eq_zero h0
    subst hl
    cases A <;> simp [Extern.Bytes.bytesOf, Extern.Bytes.loadBytes] <;> rfl
  · obtain ⟨b, o, rfl, _, hc⟩ := h3 h0
    have := key l b o .empty hc
    simp only [Extern.Bytes.bytesOf, this]
    congr 1
    apply ByteArray.ext
    show (#[] : Array UInt8) ++ l.toArray = l.toArray
    simp

theorem OB.cells {w : World} {base g n : Nat} {l : List UInt8} (h : OB w base (.slice (some ⟨g, 0, none⟩) n n) l) : w.heap[g]? = some (.cells (l.map bv).toArray 5 (0, 0)) := by
  have hl := h.len
  subst hl
  rcases h.2 with ⟨h', _⟩ | ⟨g', cap, cur, hv, hb, hg, hn, hm, hs, ht⟩
  · cases h'
  · simp only [Value.slice.injEq, Option.some.injEq, Addr.mk.injEq, and_true, true_and] at hv
    obtain ⟨rfl, rfl⟩ := hv
    rw [hg, ← ht, List.take_of_length_le (by rw [Array.length_toList]; omega)]

theorem OB.of_cells {w : World} {base g n : Nat} {l : List UInt8} (hb : base ≤ g) (hl : l.length = n) (hm : n ≤ maxLen) (h : w.heap[g]? = some (.cells (l.map bv).toArray 5 (0, 0))) : OB w base (.slice (some ⟨g, 0, none⟩) n n) l := by
  subst hl
  exact ⟨by simp, .inr ⟨g, l.length, _, rfl, hb, h, Nat.le_refl _, hm, by simp, List.take_of_length_le (by simp)⟩⟩

/-- copy(dst, src), dst made by the call, src no longer than dst. -/
theorem wpList_cpy {ops : Array Oper} {rest : List Oper} {o : Oper} {a : Act} {w : World} {Q : Exit → Act → World → Prop} (hgd : o.guard = none) (d s : Operand)
    (ho : o.op = .call { callee := .builtin .copy, args := #[d, s], argTypes := #[22, 22] }) (g n : Nat) (A : Option Addr) (c base : Nat) (l m : List UInt8)
    (hd : a.eval d = .slice (some ⟨g, 0, none⟩) n n) (hs : a.eval s = .slice A m.length c) (hown : OB w base (.slice (some ⟨g, 0, none⟩) n n) l) (hle : m.length ≤ l.length) (hmax : n ≤ maxLen)
    (hm : 0 < m.length → ∃ b o, A = some ⟨b, o, none⟩ ∧ ∀ k, k < m.length → w.cell? ⟨b, o + k, none⟩ = some (.int .u8 ((m.getD k 0).toNat : Int)))
    (h : ∀ w', OB w' base (.slice (some ⟨g, 0, none⟩) n n) (m ++ l.drop m.length) → Below base w w' → wpList Tryd.prog ops Q rest (a.put o.dst (goInt m.length)) w') : wpList Tryd.prog ops Q (o :: rest) a w := by
  have hl := hown.len
  have hbg := hown.base_le
  refine wpList_copy_splice hgd d s 22 22 ho 5 Tryd.underlying22 (by kernel_rfl) _ _ _ _ _ _ hd hs g 0 (l.map bv) 5 hown.cells (m.map bv) (by rw [List.length_map]; exact (Nat.min_eq_left (by omega)).symm)
    (fun hp => ?_) (by simp; omega) (map_bv_one m) base w (Below.refl _ _) hbg fun w' h1 h2 => ?_
  · obtain ⟨b, o, hA, hc⟩ := hm (by simpa using hp)
    refine ⟨rfl, ⟨b, o, none⟩, hA, fun j u hu => ?_⟩
    have hj : j < m.length := by have := (List.getElem?_eq_some_iff.1 hu).1; simpa using this
    rw [addr_add, hc j hj, ← hu, map_bv_get m j hj]
  · have e : splice (l.map bv) 0 (m.map bv) = (m ++ l.drop m.length).map bv := by simp [splice, List.map_drop]
    have h1' := h1.out
    rw [e] at h1'
    have := h w' (OB.of_cells hbg (by simp; omega) hmax h1') h2
    rwa [List.length_map]

/-- '[]byte{}': a slice of no byte in a new block. -/
theorem OB.made (w : World) : OB (w.alloc (.cells #[] 5)) w.heap.size (.slice (some ⟨w.heap.size, 0, none⟩) 0 0) [] :=
  World.ownsRow_made w #[] 0 (Nat.le_refl _) (Nat.zero_le _) rfl
/-- The length in a slot, for a loop's measure. -/
def lenV : Value → Nat | .slice _ n _ => n | _ => 0

/-- make([]byte, 0, n). -/
theorem wpList_mk0 {ops : Array Oper} {rest : List Oper} {o : Oper} {a : Act} {w : World} {Q : Exit → Act → World → Prop} (hgd : o.guard = none) (l c : Operand) (ho : o.op = Op.makeSlice 22 l c)
    (kl kc : IntKind) (C : Int) (n : Nat) (hl : a.eval l = .int kl 0) (hc : a.eval c = .int kc C) (hC : C = (n : Int)) (hn : n ≤ 100000000)
    (h : ∀ w', OB w' w.heap.size (.slice (some ⟨w.heap.size, 0, none⟩) 0 n) [] → Below w.heap.size w w' → wpList Tryd.prog ops Q rest (a.put o.dst (.slice (some ⟨w.heap.size, 0, none⟩) 0 n)) w') : wpList Tryd.prog ops Q (o :: rest) a w := by
  obtain ⟨i0, hi0, hz0, hz1, hz2⟩ := info_parts info5
  exact wpList_make_own w hgd l c 22 ho w.heap.size 5 i0 (.int .u8 0) 1 Tryd.underlying22 hi0 hz0 hz1 kl kc C n hl hc hC (by rw [hz2]; omega) (by simp only [maxLen]; omega) (Nat.le_refl _) fun w' h1 h2 =>
    h w' h1 ((Below.refl _ _).grown h2 (Nat.le_refl _) (fun k hk => by cases hk))

/-- Some bytes appended that have just been laid into a block of their own, number B. -/
theorem step_appB {ops : Array Oper} {o : Oper} {a : Act} {W : World} {K : Act → World → Prop} {Q : Exit → Act → World → Prop} {E : Prop} (hgd : o.guard = none) (s x : Operand)
    (ho : o.op = .call { callee := .builtin .append, args := #[s, x], argTypes := #[22, 22] }) (w : World) (base : Nat) (v : Value) (l m : List UInt8) (B : Nat)
    (hs : a.eval s = v) (hx : a.eval x = .slice (some ⟨B, 0, none⟩) m.length m.length) (hW : Below w.heap.size w W) (hown : OB w base v l) (hB : W.heap[B]? = some (.cells (m.map bv).toArray 5 (0, 0)))
    (hlen : l.length + m.length ≤ 100000000) (hbase : base ≤ w.heap.size)
    (h : ∀ v' w', OB w' base v' (l ++ m) → Below base w w' → K (a.put o.dst v') w') :
    if Region.wanted o (yielded ops a.tmps) = true then Oper.wp Tryd.prog o a W K Q else E := by
  have hw : Region.wanted o (yielded ops a.tmps) = true := by simp [Region.wanted, hgd]
  rw [if_pos hw]
  exact wp_appS s x ho w base v l m (some ⟨B, 0, none⟩) m.length hs hx hW hown (fun _ => ⟨B, 0, rfl, fun k hk => by
    rw [cell_of_row W B _ _ 5 (0, 0) hB, Nat.zero_add, List.getElem?_toArray, map_bv_get m k hk]⟩) hlen hbase h

end Go.Proofs.YtdalcldilmmgmaaDoor
