/-
  Slices of turns that came in.
-/
import Derived.Test.YtdalcldilmmgmaaDoorFrm
import Derived.Test.YtdalcldilmmgmaaDoorLag
namespace Go.Proofs.YtdalcldilmmgmaaDoor
set_option linter.unusedVariables false
set_option linter.unusedSimpArgs false
open Go.ChangeShapes Go.WideShapes Go.ChangeAt Go.RowKit Go.Deep
set_option maxRecDepth 100000

theorem frC34 : Tryd.prog.cellsOf 34 = 9 := by kernel_rfl
theorem resp_of_cells {H : Type} {enc : TypeId × Value → H} {W : World} {fuel : Nat} {cs : List Value} {x : DataW H × List MemPlace} (h : DataW.trod enc Tryd.prog W 0 (fun _ => true) true fuel 32 cs = some x) :
    ∃ (r : Rs) (d : Value), cs = [d, .int .i64 r.sw] ∧ SL W W.heap.size d r.data := by
  obtain ⟨xs, n, _, rfl, hl, hlen, hf⟩ := DataW.trod_struct Tryd.underlying32 h
  rw [frC32] at hl
  match cs, hl with
  | [v0, v1], _ =>
    match xs, hlen with
    | [y0, y1], _ =>
      have q0 := hf 0 _ rfl
      have q1 := hf 1 _ rfl
      simp [frC3, frC22] at q0 q1
      obtain ⟨l0, hl0⟩ := open_bytes q0
      obtain ⟨n1, e1, _, w1⟩ := DataW.trod_int Tryd.underlying3 q1
      simp only [List.cons.injEq, and_true] at e1
      subst e1
      exact ⟨⟨l0, n1⟩, v0, rfl, hl0⟩
theorem turn_of_cells {H : Type} {enc : TypeId × Value → H} {W : World} {fuel : Nat} {cs : List Value} {x : DataW H × List MemPlace} (h : DataW.trod enc Tryd.prog W 0 (fun _ => true) true fuel 34 cs = some x) :
    ∃ (t : Tn) (A : Option Addr) (k : Nat) (A2 : Option Addr) (k2 : Nat), cs = [.int .i64 t.c.cla, .int .i64 t.c.ins, .int .i64 t.c.p1, .int .i64 t.c.p2, .slice A t.c.data.length k, .int .i64 t.c.le, .bool t.c.long, .slice A2 t.r.data.length k2, .int .i64 t.r.sw] ∧
      SL W W.heap.size (.slice A t.c.data.length k) t.c.data ∧ SL W W.heap.size (.slice A2 t.r.data.length k2) t.r.data ∧ I64 t.c.le := by
  obtain ⟨xs, n, _, rfl, hl, hlen, hf⟩ := DataW.trod_struct Tryd.underlying34 h
  rw [frC34] at hl
  match cs, hl with
  | [v0, v1, v2, v3, v4, v5, v6, v7, v8], _ =>
    match xs, hlen with
    | [y0, y1], _ =>
      have q0 := hf 0 _ rfl
      have q1 := hf 1 _ rfl
      simp [frC30, frC32] at q0 q1
      obtain ⟨c, d, e0, hd, _, _, _, _, hle⟩ := cmd_of_cells q0
      obtain ⟨r, d2, e1, hd2⟩ := resp_of_cells q1
      obtain ⟨A, k, rfl, _⟩ := id hd
      obtain ⟨A2, k2, rfl, _⟩ := id hd2
      simp only [List.cons.injEq, and_true] at e0 e1
      obtain ⟨rfl, rfl, rfl, rfl, rfl, rfl, rfl⟩ := e0
      obtain ⟨rfl, rfl⟩ := e1
      exact ⟨⟨c, r⟩, A, k, A2, k2, rfl, hd, hd2, hle⟩
theorem choose_tn {p : Nat → Tn → Prop} {n : Nat} (h : ∀ i, i < n → ∃ t, p i t) : ∃ f : Nat → Tn, ∀ i, i < n → p i (f i) := by
  classical
  refine ⟨fun i => if hi : i < n then Classical.choose (h i hi) else default, fun i hi => ?_⟩
  simp only [dif_pos hi]
  exact Classical.choose_spec (h i hi)
theorem open_turns {H : Type} {enc : TypeId × Value → H} {W : World} {fuel : Nat} {v : Value} {x : DataW H × List MemPlace}
    (h : DataW.trod enc Tryd.prog W 0 (fun _ => true) true fuel 25 [v] = some x) : ∃ l : List Tn, TuL W W.heap.size v l ∧ ∀ t ∈ l, I64 t.c.le := by
  rcases open_slice Tryd.underlying25 h with ⟨hcs, _⟩ | ⟨a, len, cap, m, n, D, Pl, hcs, _, hl, hm, hmm, hx, hi⟩
  · simp only [List.cons.injEq, and_true] at hcs
    subst hcs
    exact ⟨[], ⟨none, 0, rfl, Nat.le_refl _, Nat.zero_le _, fun hp => absurd hp (by simp)⟩, fun c hc => by cases hc⟩
  · simp only [List.cons.injEq, and_true] at hcs
    subst hcs
    simp only [if_true] at hmm
    subst hmm
    obtain ⟨b, o, sp⟩ := a
    rcases Nat.eq_zero_or_pos len with hz0 | hp0
    · subst hz0
      exact ⟨[], ⟨_, _, rfl, Nat.zero_le _, hm, fun hp => absurd hp (by simp)⟩, fun c hc => by cases hc⟩
    have hsp : sp = none := by
      obtain ⟨cs', h1, _⟩ := hi 0 (by omega)
      rw [frC34] at h1
      obtain ⟨_, hlen, hcell⟩ := World.cells?_some h1
      have e0 := hcell 0 (by omega)
      rw [show cs'[0]? = some cs'[0] from List.getElem?_eq_getElem (by omega)] at e0
      exact World.cell?_spot (by simpa [Addr.add] using e0)
    subst hsp
    have each : ∀ i, i < len → ∃ t : Tn, b < W.heap.size ∧ TnA W W.heap.size b (o + i * 9) t ∧ I64 t.c.le := by
      intro i hil
      obtain ⟨cs', h1, h2⟩ := hi i (by omega)
      rw [frC34] at h1
      obtain ⟨_, hlen, hcell⟩ := World.cells?_some h1
      obtain ⟨t, A, k, A2, k2, hcs, hd, hd2, hle⟩ := turn_of_cells h2
      subst hcs
      have e0 := hcell 0 (by omega)
      have e1 := hcell 1 (by omega)
      have e2 := hcell 2 (by omega)
      have e3 := hcell 3 (by omega)
      have e4 := hcell 4 (by omega)
      have e5 := hcell 5 (by omega)
      have e6 := hcell 6 (by omega)
      have e7 := hcell 7 (by omega)
      have e8 := hcell 8 (by omega)
      simp only [addr_add, Nat.add_zero] at e0 e1 e2 e3 e4 e5 e6 e7 e8
      exact ⟨t, World.block_lt_of_cell? W _ e0, ⟨e0, e1, e2, e3, ⟨A, k, e4, hd⟩, e5, e6, ⟨A2, k2, e7, hd2⟩, e8⟩, hle⟩
    obtain ⟨f, hf⟩ := choose_tn (p := fun i t => b < W.heap.size ∧ TnA W W.heap.size b (o + i * 9) t ∧ I64 t.c.le) each
    have hlen : ((List.range len).map f).length = len := by simp
    refine ⟨(List.range len).map f, ⟨some ⟨b, o, none⟩, _, by rw [hlen], by omega, hm, fun hp => ?_⟩, fun c hc => ?_⟩
    · obtain ⟨r2, _⟩ := hf 0 hp0
      refine ⟨b, o, rfl, r2, fun k hk => ?_⟩
      rw [hlen] at hk
      have := (hf k hk).2.1
      simpa [List.getD, hk] using this
    · obtain ⟨i, hi2, rfl⟩ := List.mem_map.1 hc
      exact (hf i (List.mem_range.1 hi2)).2.2
end Go.Proofs.YtdalcldilmmgmaaDoor
