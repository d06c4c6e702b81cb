/-
  Conditions, security statuses and rules that came in.
-/
import Derived.Test.YtjkbfogjfgnhiaaDoorFrm
namespace Go.Proofs.YtjkbfogjfgnhiaaDoor
set_option linter.unusedVariables false
set_option linter.unusedSimpArgs false
open Go.ChangeShapes Go.WideShapes Go.ChangeAt Go.RowKit Go.Deep

theorem CnsAt.of {w : World} {B b : Nat} : ∀ (ts : List Cn) (o : Nat), (∀ (k : Nat) (h : k < ts.length), CnAt w B b (o + k * 3) ts[k]) → CnsAt w B b o ts
  | [], _, _ => by unfold CnsAt; trivial
  | t :: ts, o, h => by
    unfold CnsAt
    refine ⟨by have := h 0 (by simp); simp only [Nat.zero_mul, Nat.add_zero] at this; exact this, CnsAt.of ts (o + 3) fun k hk => ?_⟩
    have := h (k + 1) (by simpa using hk)
    rw [show o + (k + 1) * 3 = o + 3 + k * 3 by omega] at this
    simpa using this

set_option maxRecDepth 100000 in
theorem open_conds {H : Type} {enc : TypeId × Value → H} {W : World} : ∀ (s fuel : Nat) (v : Value) (x : DataW H × List MemPlace), SizeOf.sizeOf x.1 < s →
    DataW.trod enc Tryd.prog W 0 (fun _ => true) true fuel 22 [v] = some x → ∃ ts : List Cn, KL W W.heap.size v ts
  | 0, _, _, _, h, _ => absurd h (by omega)
  | s + 1, fuel, v, x, hs, h => by
    rcases open_slice Tryd.underlying22 h with ⟨hcs, _⟩ | ⟨a, len, cap, m, n, D, Pl, hcs, _, hl, hm, hmm, hx, hi⟩
    · simp only [List.cons.injEq, and_true] at hcs
      subst hcs
      exact ⟨[], KL.nil _ _ _ _ (Nat.zero_le _)⟩
    · simp only [List.cons.injEq, and_true] at hcs
      subst hcs
      simp only [if_true] at hmm
      subst hmm
      obtain ⟨b, o, sp⟩ := a
      rcases Nat.eq_zero_or_pos len with hz0 | hp0
      · subst hz0
        exact ⟨[], KL.nil _ _ _ _ hm⟩
      have hsp : sp = none := by
        obtain ⟨cs', h1, _⟩ := hi 0 (by omega)
        rw [frC24] at h1
        obtain ⟨_, hlen, hcell⟩ := World.cells?_some h1
        have e0 := hcell 0 (by omega)
        rw [show cs'[0]? = some cs'[0] from List.getElem?_eq_getElem (by omega)] at e0
        exact World.cell?_spot (by simpa [Addr.add] using e0)
      subst hsp
      have each : ∀ i, i < len → ∃ t : Cn, b < W.heap.size ∧ CnAt W W.heap.size b (o + i * 3) t := by
        intro i hil
        obtain ⟨cs', h1, h2⟩ := hi i (by omega)
        rw [frC24] at h1
        obtain ⟨_, hlen, hcell⟩ := World.cells?_some h1
        obtain ⟨y0, y1, y2, k, hy, _, q0, q1, q2⟩ := trod_struct3 Tryd.underlying24 h2
        match cs', hlen with
        | [v0, v1, v2], _ =>
          have e0 := hcell 0 (by omega)
          have e1 := hcell 1 (by omega)
          have e2 := hcell 2 (by omega)
          simp only [addr_add, Nat.add_zero] at e0 e1 e2
          have hblk := World.block_lt_of_cell? W _ e0
          simp [frC3, frC22] at q0 q1 q2
          obtain ⟨z, hz, _⟩ := DataW.trod_int Tryd.underlying3 q0
          obtain ⟨z1, hz1, _⟩ := DataW.trod_int Tryd.underlying3 q1
          simp only [List.cons.injEq, and_true] at hz hz1
          subst hz hz1
          have hmem : D i ∈ (List.range len).map D := List.mem_map.2 ⟨i, List.mem_range.2 hil, rfl⟩
          have hsz : SizeOf.sizeOf y2.1 < s := by
            have a1 := List.sizeOf_lt_of_mem hmem
            have a2 : SizeOf.sizeOf y2.1 < SizeOf.sizeOf (D i) := by
              simp only [Prod.mk.injEq] at hy
              rw [hy.1]
              simp
              omega
            rw [hx] at hs
            simp at hs
            omega
          obtain ⟨ts, hts⟩ := open_conds s k v2 y2 hsz q2
          exact ⟨.mk z z1 ts, hblk, CnAt.make e0 e1 ⟨v2, e2, hts⟩⟩
      haveI : Inhabited Cn := ⟨Cn.zero⟩
      obtain ⟨f, hf⟩ := choose_lt (α := Cn) (p := fun i t => b < W.heap.size ∧ CnAt W W.heap.size b (o + i * 3) t) each
      have hlen : ((List.range len).map f).length = len := by simp
      refine ⟨(List.range len).map f, some ⟨b, o, none⟩, _, by rw [hlen], by omega, hm, fun hp => ?_⟩
      rw [hlen] at hp
      obtain ⟨r2, _⟩ := hf 0 hp
      refine ⟨b, o, rfl, r2, CnsAt.of _ _ fun k hk => ?_⟩
      rw [hlen] at hk
      have := (hf k hk).2
      simpa using this
set_option maxRecDepth 100000 in
/-- The three cells of a condition. -/
theorem cond_cells {H : Type} {enc : TypeId × Value → H} {W : World} {fuel : Nat} {cs : List Value} {x : DataW H × List MemPlace} (h : DataW.trod enc Tryd.prog W 0 (fun _ => true) true fuel 24 cs = some x) :
    ∃ (c : Cn) (dv : Value), cs = [.int .i64 c.op, .int .i64 c.n, dv] ∧ KL W W.heap.size dv c.kids := by
  obtain ⟨y0, y1, y2, k, hy, hl, q0, q1, q2⟩ := trod_struct3 Tryd.underlying24 h
  rw [frC24] at hl
  match cs, hl with
  | [v0, v1, v2], _ =>
    simp [frC3, frC22] at q0 q1 q2
    obtain ⟨z, hz, _⟩ := DataW.trod_int Tryd.underlying3 q0
    obtain ⟨z1, hz1, _⟩ := DataW.trod_int Tryd.underlying3 q1
    simp only [List.cons.injEq, and_true] at hz hz1
    subst hz hz1
    obtain ⟨ts, hts⟩ := open_conds (SizeOf.sizeOf y2.1 + 1) k v2 y2 (by omega) q2
    exact ⟨.mk z z1 ts, v2, rfl, hts⟩
set_option maxRecDepth 100000 in
theorem open_cond {H : Type} {enc : TypeId × Value → H} {W : World} {b0 : Nat} {v : Value} {d : DataW H} {ps : List MemPlace} (hv : Value.okWide Tryd.prog W .any b0 24 v) (hd : DataW.Trod enc Tryd.prog W 0 (fun _ => true) true 24 v d ps) :
    ∃ (c : Cn) (dv : Value), v = .agg #[.int .i64 c.op, .int .i64 c.n, dv] ∧ KL W W.heap.size dv c.kids := by
  obtain ⟨cs, rfl, _⟩ := okWide_struct Tryd.underlying24 hv
  obtain ⟨fuel, hf⟩ := hd
  obtain ⟨l⟩ := cs
  obtain ⟨c, dv, rfl, h⟩ := cond_cells (cs := l) (by simpa [Value.cells] using hf)
  exact ⟨c, dv, rfl, h⟩
set_option maxRecDepth 100000 in
theorem open_sec {H : Type} {enc : TypeId × Value → H} {W : World} {b0 : Nat} {v : Value} {d : DataW H} {ps : List MemPlace} (hv : Value.okWide Tryd.prog W .any b0 31 v) (hd : DataW.Trod enc Tryd.prog W 0 (fun _ => true) true 31 v d ps) :
    ∃ s : Sc, v = .agg #[.int .i64 s.pins, .int .i64 s.keys, .int .i64 s.state, .int .i64 s.level] := by
  obtain ⟨cs, rfl, _⟩ := okWide_struct Tryd.underlying31 hv
  obtain ⟨fuel, hf⟩ := hd
  obtain ⟨l⟩ := cs
  obtain ⟨xs, n, _, hx, hl, hlen, hf⟩ := DataW.trod_struct Tryd.underlying31 (show DataW.trod enc Tryd.prog W 0 (fun _ => true) true fuel 31 l = some _ by simpa [Value.cells] using hf)
  rw [frC31] at hl
  match l, hl with
  | [v0, v1, v2, v3], _ =>
    match xs, hlen with
    | [y0, y1, y2, y3], _ =>
      have q0 := hf 0 _ rfl
      have q1 := hf 1 _ rfl
      have q2 := hf 2 _ rfl
      have q3 := hf 3 _ rfl
      simp [frC3] at q0 q1 q2 q3
      obtain ⟨n0, e0, _, w0⟩ := DataW.trod_int Tryd.underlying3 q0
      obtain ⟨n1, e1, _, w1⟩ := DataW.trod_int Tryd.underlying3 q1
      obtain ⟨n2, e2, _, w2⟩ := DataW.trod_int Tryd.underlying3 q2
      obtain ⟨n3, e3, _, w3⟩ := DataW.trod_int Tryd.underlying3 q3
      simp only [List.cons.injEq, and_true] at e0 e1 e2 e3
      subst e0 e1 e2 e3
      exact ⟨⟨n0, n1, n2, n3⟩, rfl⟩
set_option maxRecDepth 100000 in
theorem open_rules {H : Type} {enc : TypeId × Value → H} {W : World} {fuel : Nat} {v : Value} {x : DataW H × List MemPlace}
    (h : DataW.trod enc Tryd.prog W 0 (fun _ => true) true fuel 33 [v] = some x) : ∃ l : List Rl, RL W W.heap.size v l := by
  rcases open_slice Tryd.underlying33 h with ⟨hcs, _⟩ | ⟨a, len, cap, m, n, D, Pl, hcs, _, hl, hm, hmm, hx, hi⟩
  · simp only [List.cons.injEq, and_true] at hcs
    subst hcs
    exact ⟨[], none, 0, rfl, Nat.le_refl _, Nat.zero_le _, fun h => absurd h (by simp)⟩
  · simp only [List.cons.injEq, and_true] at hcs
    subst hcs
    simp only [if_true] at hmm
    subst hmm
    obtain ⟨b, o, sp⟩ := a
    rcases Nat.eq_zero_or_pos len with hz0 | hp0
    · subst hz0
      exact ⟨[], _, _, rfl, Nat.zero_le _, hm, fun h => absurd h (by simp)⟩
    have hsp : sp = none := by
      obtain ⟨cs', h1, _⟩ := hi 0 (by omega)
      rw [frC53] at h1
      obtain ⟨_, hlen, hcell⟩ := World.cells?_some h1
      have e0 := hcell 0 (by omega)
      rw [show cs'[0]? = some cs'[0] from List.getElem?_eq_getElem (by omega)] at e0
      exact World.cell?_spot (by simpa [Addr.add] using e0)
    subst hsp
    have each : ∀ i, i < len → ∃ r : Rl, b < W.heap.size ∧ RAt W W.heap.size b (o + i * 4) r := by
      intro i hil
      obtain ⟨cs', h1, h2⟩ := hi i (by omega)
      rw [frC53] at h1
      obtain ⟨_, hlen, hcell⟩ := World.cells?_some h1
      obtain ⟨xs, n, _, hy, hl, hxl, hf⟩ := DataW.trod_struct Tryd.underlying53 h2
      match xs, hxl with
      | [y0, y1], _ =>
        have q0 := hf 0 _ rfl
        have q1 := hf 1 _ rfl
        match cs', hlen with
        | [v0, v1, v2, v3], _ =>
          simp [frC3, frC24] at q0 q1
          obtain ⟨z, hz, _⟩ := DataW.trod_int Tryd.underlying3 q0
          obtain ⟨c, dv, hc, hk⟩ := cond_cells q1
          simp only [List.cons.injEq, and_true] at hz hc
          obtain ⟨rfl, rfl, rfl⟩ := hc
          subst hz
          have e0 := hcell 0 (by simp)
          have e1 := hcell 1 (by simp)
          have e2 := hcell 2 (by simp)
          have e3 := hcell 3 (by simp)
          simp only [addr_add, Nat.add_zero] at e0 e1 e2 e3
          have hblk := World.block_lt_of_cell? W _ e0
          exact ⟨⟨z, c⟩, hblk, e0, CnAt.make e1 e2 ⟨_, e3, hk⟩⟩
    haveI : Inhabited Rl := ⟨⟨0, Cn.zero⟩⟩
    obtain ⟨f, hf⟩ := choose_lt (α := Rl) (p := fun i t => b < W.heap.size ∧ RAt W W.heap.size b (o + i * 4) t) each
    have hlen : ((List.range len).map f).length = len := by simp
    refine ⟨(List.range len).map f, some ⟨b, o, none⟩, _, by rw [hlen], by omega, hm, fun hp => ?_⟩
    rw [hlen] at hp
    obtain ⟨r2, _⟩ := hf 0 hp
    refine ⟨b, o, rfl, r2, fun k hk => ?_⟩
    rw [hlen] at hk
    have := (hf k hk).2
    simpa using this
end Go.Proofs.YtjkbfogjfgnhiaaDoor
