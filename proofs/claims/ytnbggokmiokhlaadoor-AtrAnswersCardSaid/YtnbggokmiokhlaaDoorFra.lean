/-
  An argument of type api.ATR, as data.
-/
import Derived.Test.YtnbggokmiokhlaaDoorFrm
import Derived.Test.YtnbggokmiokhlaaDoorAty
import Derived.Deep.Strs
namespace Go.Proofs.YtnbggokmiokhlaaDoor
set_option linter.unusedVariables false
set_option linter.unusedSimpArgs false
open Go.ChangeShapes Go.WideShapes Go.ChangeAt Go.RowKit Go.Deep

theorem frC60 : Tryd.prog.cellsOf 60 = 4 := by kernel_rfl
theorem frC26 : Tryd.prog.cellsOf 26 = 4 := by kernel_rfl
theorem frC22 : Tryd.prog.cellsOf 22 = 1 := by kernel_rfl
theorem frC23 : Tryd.prog.cellsOf 23 = 1 := by kernel_rfl

theorem open_nums {H : Type} {enc : TypeId × Value → H} {W : World} {fuel : Nat} {v : Value} {x : DataW H × List MemPlace}
    (h : DataW.trod enc Tryd.prog W 0 (fun _ => true) true fuel 23 [v] = some x) : ∃ l : List Int, NL W W.heap.size v l := by
  rcases open_ints Tryd.underlying23 Tryd.underlying3 frC3 h with ⟨hcs, _⟩ | ⟨x, len, c, zs, hcs, _, hl, hm, hz, hx, hcell, hwz⟩
  · simp only [List.cons.injEq, and_true] at hcs
    subst hcs
    exact ⟨[], NL.nil _ _ _ _ (Nat.zero_le _)⟩
  · simp only [List.cons.injEq, and_true] at hcs
    subst hcs
    simp only [if_true] at hz
    have hlen : (zs.take len).length = len := by simp; omega
    refine ⟨zs.take len, some x, c, by rw [hlen], by omega, hm, fun hp => ?_⟩
    rw [hlen] at hp
    obtain ⟨b, o, sp⟩ := x
    have h0 := hcell 0 (by omega)
    have hsp : sp = none := World.cell?_spot (by simpa [Addr.add] using h0)
    subst hsp
    have hblk := World.block_lt_of_cell? W _ h0
    refine ⟨b, o, rfl, by simpa [Addr.add] using hblk, fun k hk => ?_⟩
    rw [hlen] at hk
    have hc := hcell k (by omega)
    rw [addr_add] at hc
    rw [hc]
    have hkz : k < zs.length := by omega
    simp [List.getD, List.getElem?_take, hk, List.getElem?_eq_getElem hkz]

set_option maxRecDepth 100000 in
theorem ib_of_cells {H : Type} {enc : TypeId × Value → H} {W : World} {fuel : Nat} {cs : List Value} {x : DataW H × List MemPlace} (h : DataW.trod enc Tryd.prog W 0 (fun _ => true) true fuel 60 cs = some x) :
    ∃ b : Ib, cs = [.int .i64 b.g, .int .i64 b.k, .int .i64 b.v, .int .i64 b.p] ∧ b.g ≤ 9223372036854775807 := by
  obtain ⟨xs, n, _, rfl, hl, hlen, hf⟩ := DataW.trod_struct Tryd.underlying60 h
  rw [frC60] at hl
  match cs, hl with
  | [v0, v1, v2, v3], _ =>
    match xs, hlen with
    | [y0, y1, y2, y3], _ =>
      have q0 := hf 0 _ rfl
      have q1 := hf 1 _ rfl
      have q2 := hf 2 _ rfl
      have q3 := hf 3 _ rfl
      simp [frC3] at q0 q1 q2 q3
      obtain ⟨n0, e0, _, w0⟩ := DataW.trod_int Tryd.underlying3 q0
      obtain ⟨n1, e1, _, w1⟩ := DataW.trod_int Tryd.underlying3 q1
      obtain ⟨n2, e2, _, w2⟩ := DataW.trod_int Tryd.underlying3 q2
      obtain ⟨n3, e3, _, w3⟩ := DataW.trod_int Tryd.underlying3 q3
      simp only [List.cons.injEq, and_true] at e0 e1 e2 e3
      subst e0 e1 e2 e3
      exact ⟨⟨n0, n1, n2, n3⟩, rfl, (bounds_i64 w0).2⟩

set_option maxRecDepth 100000 in
theorem open_ibs {H : Type} {enc : TypeId × Value → H} {W : World} {fuel : Nat} {v : Value} {x : DataW H × List MemPlace}
    (h : DataW.trod enc Tryd.prog W 0 (fun _ => true) true fuel 22 [v] = some x) : ∃ l : List Ib, IL W W.heap.size v l ∧ ∀ x ∈ l, x.g ≤ 9223372036854775807 := by
  rcases open_slice Tryd.underlying22 h with ⟨hcs, _⟩ | ⟨a, len, cap, m, n, D, Pl, hcs, _, hl, hm, hmm, hx, hi⟩
  · simp only [List.cons.injEq, and_true] at hcs
    subst hcs
    exact ⟨[], IL.nil _ _ _ _ (Nat.zero_le _), fun _ h => by cases h⟩
  · simp only [List.cons.injEq, and_true] at hcs
    subst hcs
    simp only [if_true] at hmm
    subst hmm
    obtain ⟨b, o, sp⟩ := a
    rcases Nat.eq_zero_or_pos len with hz0 | hp0
    · subst hz0
      exact ⟨[], IL.nil _ _ _ _ hm, fun _ h => by cases h⟩
    have hsp : sp = none := by
      obtain ⟨cs', h1, _⟩ := hi 0 (by omega)
      rw [frC60] at h1
      obtain ⟨_, hlen, hcell⟩ := World.cells?_some h1
      have e0 := hcell 0 (by omega)
      rw [show cs'[0]? = some cs'[0] from List.getElem?_eq_getElem (by omega)] at e0
      exact World.cell?_spot (by simpa [Addr.add] using e0)
    subst hsp
    have each : ∀ i, i < len → ∃ t : Ib, b < W.heap.size ∧ IAt W b (o + i * 4) t ∧ t.g ≤ 9223372036854775807 := by
      intro i hil
      obtain ⟨cs', h1, h2⟩ := hi i (by omega)
      rw [frC60] at h1
      obtain ⟨_, hlen, hcell⟩ := World.cells?_some h1
      obtain ⟨t, rfl, ht⟩ := ib_of_cells h2
      have e0 := hcell 0 (by simp)
      have e1 := hcell 1 (by simp)
      have e2 := hcell 2 (by simp)
      have e3 := hcell 3 (by simp)
      simp only [addr_add, Nat.add_zero] at e0 e1 e2 e3
      have hblk := World.block_lt_of_cell? W _ e0
      exact ⟨t, hblk, ⟨e0, e1, e2, e3⟩, ht⟩
    haveI : Inhabited Ib := ⟨Ib.zero⟩
    obtain ⟨f, hf⟩ := choose_lt (α := Ib) (p := fun i t => b < W.heap.size ∧ IAt W b (o + i * 4) t ∧ t.g ≤ 9223372036854775807) each
    have hlen : ((List.range len).map f).length = len := by simp
    refine ⟨(List.range len).map f, ⟨some ⟨b, o, none⟩, _, by rw [hlen], by omega, hm, fun hp => ?_⟩, fun x hx => ?_⟩
    · rw [hlen] at hp
      obtain ⟨r2, _⟩ := hf 0 hp
      refine ⟨b, o, rfl, r2, fun k hk => ?_⟩
      rw [hlen] at hk
      have := (hf k hk).2.1
      simpa [List.getD, hk] using this
    · obtain ⟨i, hi', rfl⟩ := List.mem_map.1 hx
      exact (hf i (List.mem_range.1 hi')).2.2

set_option maxRecDepth 100000 in
theorem atr_of_cells {H : Type} {enc : TypeId × Value → H} {W : World} {fuel : Nat} {cs : List Value} {x : DataW H × List MemPlace} (h : DataW.trod enc Tryd.prog W 0 (fun _ => true) true fuel 26 cs = some x) :
    ∃ (a : At) (v1 v2 v3 : Value), cs = [.bool a.inv, v1, v2, v3] ∧ IL W W.heap.size v1 a.ibs ∧ NL W W.heap.size v2 a.prs ∧ SL W W.heap.size v3 a.his ∧ ∀ x ∈ a.ibs, x.g ≤ 9223372036854775807 := by
  obtain ⟨xs, n, _, rfl, hl, hlen, hf⟩ := DataW.trod_struct Tryd.underlying26 h
  rw [frC26] at hl
  match cs, hl with
  | [v0, v1, v2, v3], _ =>
    match xs, hlen with
    | [y0, y1, y2, y3], _ =>
      have q0 := hf 0 _ rfl
      have q1 := hf 1 _ rfl
      have q2 := hf 2 _ rfl
      have q3 := hf 3 _ rfl
      simp [frC4, frC22, frC23, frC24] at q0 q1 q2 q3
      obtain ⟨b0, e0, _⟩ := DataW.trod_bool Tryd.underlying4 q0
      obtain ⟨l1, k1, g1⟩ := open_ibs q1
      obtain ⟨l2, k2⟩ := open_nums q2
      obtain ⟨l3, k3⟩ := open_bytes q3
      simp only [List.cons.injEq, and_true] at e0
      subst e0
      exact ⟨⟨b0, l1, l2, l3⟩, v1, v2, v3, rfl, k1, k2, k3, g1⟩
set_option maxRecDepth 100000 in
theorem open_atr {H : Type} {enc : TypeId × Value → H} {W : World} {b0 : Nat} {v : Value} {d : DataW H} {ps : List MemPlace} (hv : Value.okWide Tryd.prog W .any b0 26 v) (hd : DataW.Trod enc Tryd.prog W 0 (fun _ => true) true 26 v d ps) :
    ∃ a : At, AT W v a ∧ ∀ x ∈ a.ibs, x.g ≤ 9223372036854775807 := by
  obtain ⟨cs, rfl, _⟩ := okWide_struct Tryd.underlying26 hv
  obtain ⟨fuel, hf⟩ := hd
  obtain ⟨l⟩ := cs
  obtain ⟨a, v1, v2, v3, hcs, h1, h2, h3, hg⟩ := atr_of_cells (cs := l) (by simpa [Value.cells] using hf)
  subst hcs
  exact ⟨a, ⟨v1, v2, v3, rfl, h1, h2, h3⟩, hg⟩
end Go.Proofs.YtnbggokmiokhlaaDoor
