/-
  Headers that came in, with the bound on their parts.
-/
import Derived.Test.YtkjcafhaenkpbaaDoorFrm
import Derived.Test.YtkjcafhaenkpbaaDoorSmx
namespace Go.Proofs.YtkjcafhaenkpbaaDoor
set_option linter.unusedVariables false
set_option linter.unusedSimpArgs false
open Go.ChangeShapes Go.WideShapes Go.ChangeAt Go.RowKit Go.Deep

theorem frC22 : Tryd.prog.cellsOf 22 = 1 := by kernel_rfl
theorem frC23 : Tryd.prog.cellsOf 23 = 1 := by kernel_rfl
theorem frC44 : Tryd.prog.cellsOf 44 = 1 := by kernel_rfl
theorem frC46 : Tryd.prog.cellsOf 46 = 3 := by kernel_rfl
theorem frC48 : Tryd.prog.cellsOf 48 = 4 := by kernel_rfl
theorem frC25 : Tryd.prog.cellsOf 25 = 9 := by kernel_rfl
theorem cntK_bulk {H : Type} (f : Nat → Cn) (D : Nat → DataW H) : ∀ l : List Nat, (∀ i ∈ l, (f i).cnt ≤ Rows.uptoBulk (D i)) → cntK (l.map f) ≤ Rows.uptoBulkAll (l.map D)
  | [], _ => Nat.zero_le _
  | i :: l, h => by
    have h1 := cntK_bulk f D l fun j hj => h j (List.mem_cons_of_mem _ hj)
    have h2 := h i (List.mem_cons_self ..)
    simp only [List.map_cons, cntK, Rows.uptoBulkAll]
    omega
theorem cntR_bulk {H : Type} (f : Nat → Rl) (D : Nat → DataW H) : ∀ l : List Nat, (∀ i ∈ l, (f i).cond.cnt ≤ Rows.uptoBulk (D i)) → cntR (l.map f) ≤ Rows.uptoBulkAll (l.map D)
  | [], _ => Nat.zero_le _
  | i :: l, h => by
    have h1 := cntR_bulk f D l fun j hj => h j (List.mem_cons_of_mem _ hj)
    have h2 := h i (List.mem_cons_self ..)
    simp only [List.map_cons, cntR, Rows.uptoBulkAll]
    omega

theorem row_sl (w : World) (a : Option Addr) (len cap : Nat) (zs : List Int)
    (h : (a = none ∧ len = 0 ∧ cap = 0 ∧ zs = []) ∨ ∃ x, a = some x ∧ len ≤ cap ∧ cap ≤ maxLen ∧ zs.length = cap ∧ (∀ i, i < zs.length → w.cell? (x.add i) = some (.int .u8 (zs.getD i 0))) ∧ ∀ n ∈ zs, (Lit.int .u8 n).wf = true) :
    ∃ l : List UInt8, l.length = len ∧ SL w w.heap.size (.slice a len cap) l := by
  rcases h with ⟨rfl, rfl, rfl, rfl⟩ | ⟨x, rfl, h1, h2, h3, h4, h5⟩
  · exact ⟨[], rfl, SL.nil _ _ _ _ (Nat.zero_le _)⟩
  · have hlen : ((zs.take len).map fun n => UInt8.ofNat n.toNat).length = len := by simp; omega
    refine ⟨(zs.take len).map fun n => UInt8.ofNat n.toNat, hlen, some x, cap, by rw [hlen], by omega, h2, fun hp => ?_⟩
    rw [hlen] at hp
    obtain ⟨b, o, sp⟩ := x
    have h0 := h4 0 (by omega)
    have hsp : sp = none := World.cell?_spot (by simpa [Addr.add] using h0)
    subst hsp
    have hblk := World.block_lt_of_cell? w _ h0
    refine ⟨b, o, rfl, by simpa [Addr.add] using hblk, fun k hk => ?_⟩
    rw [hlen] at hk
    have hc := h4 k (by omega)
    rw [addr_add] at hc
    rw [hc]
    have hkz : k < zs.length := by omega
    have hwf := h5 zs[k] (List.getElem_mem hkz)
    have hb : 0 ≤ zs[k] ∧ zs[k] < 256 := by
      simp [Lit.wf, IntKind.min, IntKind.max, IntKind.signed, IntKind.bits] at hwf
      omega
    simp [List.getD, List.getElem?_map, List.getElem?_take, hk, List.getElem?_eq_getElem hkz]
    omega

theorem open_bytes {H : Type} {enc : TypeId × Value → H} {W : World} {fuel : Nat} {v : Value} {x : DataW H × List MemPlace}
    (h : DataW.trod enc Tryd.prog W 0 (fun _ => true) true fuel 22 [v] = some x) : ∃ l : List UInt8, SL W W.heap.size v l := by
  rcases open_ints Tryd.underlying22 Tryd.underlying5 frC5 h with ⟨hcs, _⟩ | ⟨x, l, c, zs, hcs, _, hl, hm, hz, hx, hcell, hwz⟩
  · simp only [List.cons.injEq, and_true] at hcs
    subst hcs
    exact ⟨[], SL.nil _ _ _ _ (Nat.zero_le _)⟩
  · simp only [List.cons.injEq, and_true] at hcs
    subst hcs
    simp only [if_true] at hz
    obtain ⟨m, hml, hms⟩ := row_sl W (some x) l c zs (.inr ⟨x, rfl, hl, hm, hz, hcell, hwz⟩)
    exact ⟨m, hms⟩

theorem CnsAt.of {w : World} {B b : Nat} : ∀ (ts : List Cn) (o : Nat), (∀ (k : Nat) (h : k < ts.length), CnAt w B b (o + k * 3) ts[k]) → CnsAt w B b o ts
  | [], _, _ => by unfold CnsAt; trivial
  | t :: ts, o, h => by
    unfold CnsAt
    refine ⟨by have := h 0 (by simp); simp only [Nat.zero_mul, Nat.add_zero] at this; exact this, CnsAt.of ts (o + 3) fun k hk => ?_⟩
    have := h (k + 1) (by simpa using hk)
    rw [show o + (k + 1) * 3 = o + 3 + k * 3 by omega] at this
    simpa using this

set_option maxRecDepth 100000 in
theorem open_conds {H : Type} {enc : TypeId × Value → H} {W : World} : ∀ (s fuel : Nat) (v : Value) (x : DataW H × List MemPlace), SizeOf.sizeOf x.1 < s →
    DataW.trod enc Tryd.prog W 0 (fun _ => true) true fuel 44 [v] = some x → ∃ ts : List Cn, KL W W.heap.size v ts ∧ cntK ts ≤ Rows.uptoBulk x.1
  | 0, _, _, _, h, _ => absurd h (by omega)
  | s + 1, fuel, v, x, hs, h => by
    rcases open_slice Tryd.underlying44 h with ⟨hcs, _⟩ | ⟨a, len, cap, m, n, D, Pl, hcs, _, hl, hm, hmm, hx, hi⟩
    · simp only [List.cons.injEq, and_true] at hcs
      subst hcs
      exact ⟨[], KL.nil _ _ _ _ (Nat.zero_le _), Nat.zero_le _⟩
    · simp only [List.cons.injEq, and_true] at hcs
      subst hcs
      simp only [if_true] at hmm
      subst hmm
      obtain ⟨b, o, sp⟩ := a
      rcases Nat.eq_zero_or_pos len with hz0 | hp0
      · subst hz0
        exact ⟨[], KL.nil _ _ _ _ hm, Nat.zero_le _⟩
      have hsp : sp = none := by
        obtain ⟨cs', h1, _⟩ := hi 0 (by omega)
        rw [frC46] at h1
        obtain ⟨_, hlen, hcell⟩ := World.cells?_some h1
        have e0 := hcell 0 (by omega)
        rw [show cs'[0]? = some cs'[0] from List.getElem?_eq_getElem (by omega)] at e0
        exact World.cell?_spot (by simpa [Addr.add] using e0)
      subst hsp
      have each : ∀ i, i < len → ∃ t : Cn, b < W.heap.size ∧ CnAt W W.heap.size b (o + i * 3) t ∧ t.cnt ≤ Rows.uptoBulk (D i) := by
        intro i hil
        obtain ⟨cs', h1, h2⟩ := hi i (by omega)
        rw [frC46] at h1
        obtain ⟨_, hlen, hcell⟩ := World.cells?_some h1
        obtain ⟨y0, y1, y2, k, hy, _, q0, q1, q2⟩ := trod_struct3 Tryd.underlying46 h2
        match cs', hlen with
        | [v0, v1, v2], _ =>
          have e0 := hcell 0 (by omega)
          have e1 := hcell 1 (by omega)
          have e2 := hcell 2 (by omega)
          simp only [addr_add, Nat.add_zero] at e0 e1 e2
          have hblk := World.block_lt_of_cell? W _ e0
          simp [frC3, frC44] at q0 q1 q2
          obtain ⟨z, hz, _⟩ := DataW.trod_int Tryd.underlying3 q0
          obtain ⟨z1, hz1, _⟩ := DataW.trod_int Tryd.underlying3 q1
          simp only [List.cons.injEq, and_true] at hz hz1
          subst hz hz1
          have hmem : D i ∈ (List.range len).map D := List.mem_map.2 ⟨i, List.mem_range.2 hil, rfl⟩
          have hsz : SizeOf.sizeOf y2.1 < s := by
            have a1 := List.sizeOf_lt_of_mem hmem
            have a2 : SizeOf.sizeOf y2.1 < SizeOf.sizeOf (D i) := by
              simp only [Prod.mk.injEq] at hy
              rw [hy.1]
              simp
              omega
            rw [hx] at hs
            simp at hs
            omega
          obtain ⟨ts, hts, hbu⟩ := open_conds s k v2 y2 hsz q2
          have hcb : (Cn.mk z z1 ts).cnt ≤ Rows.uptoBulk (D i) := by
            simp only [Prod.mk.injEq] at hy
            rw [hy.1]
            simp only [Cn.cnt, Rows.uptoBulk, Rows.uptoBulkAll]
            omega
          exact ⟨.mk z z1 ts, hblk, CnAt.make e0 e1 ⟨v2, e2, hts⟩, hcb⟩
      haveI : Inhabited Cn := ⟨Cn.zero⟩
      obtain ⟨f, hf⟩ := choose_lt (α := Cn) (p := fun i t => b < W.heap.size ∧ CnAt W W.heap.size b (o + i * 3) t ∧ t.cnt ≤ Rows.uptoBulk (D i)) each
      have hlen : ((List.range len).map f).length = len := by simp
      have hbk : cntK ((List.range len).map f) ≤ Rows.uptoBulk x.1 := by
        have := cntK_bulk f D (List.range len) fun i hi' => (hf i (List.mem_range.1 hi')).2.2
        rw [hx]
        simp only [Rows.uptoBulk]
        omega
      refine ⟨(List.range len).map f, ⟨some ⟨b, o, none⟩, _, by rw [hlen], by omega, hm, fun hp => ?_⟩, hbk⟩
      rw [hlen] at hp
      obtain ⟨r2, _⟩ := hf 0 hp
      refine ⟨b, o, rfl, r2, CnsAt.of _ _ fun k hk => ?_⟩
      rw [hlen] at hk
      have := (hf k hk).2.1
      simpa using this
set_option maxRecDepth 100000 in
/-- The three cells of a condition. -/
theorem cond_cells {H : Type} {enc : TypeId × Value → H} {W : World} {fuel : Nat} {cs : List Value} {x : DataW H × List MemPlace} (h : DataW.trod enc Tryd.prog W 0 (fun _ => true) true fuel 46 cs = some x) :
    ∃ (c : Cn) (dv : Value), cs = [.int .i64 c.op, .int .i64 c.n, dv] ∧ KL W W.heap.size dv c.kids ∧ c.cnt ≤ Rows.uptoBulk x.1 := by
  obtain ⟨y0, y1, y2, k, hy, hl, q0, q1, q2⟩ := trod_struct3 Tryd.underlying46 h
  rw [frC46] at hl
  match cs, hl with
  | [v0, v1, v2], _ =>
    simp [frC3, frC44] at q0 q1 q2
    obtain ⟨z, hz, _⟩ := DataW.trod_int Tryd.underlying3 q0
    obtain ⟨z1, hz1, _⟩ := DataW.trod_int Tryd.underlying3 q1
    simp only [List.cons.injEq, and_true] at hz hz1
    subst hz hz1
    obtain ⟨ts, hts, hbu⟩ := open_conds (SizeOf.sizeOf y2.1 + 1) k v2 y2 (by omega) q2
    refine ⟨.mk z z1 ts, v2, rfl, hts, ?_⟩
    rw [hy]
    simp only [Cn.cnt, Rows.uptoBulk, Rows.uptoBulkAll]
    omega
set_option maxRecDepth 100000 in
theorem open_rules {H : Type} {enc : TypeId × Value → H} {W : World} {fuel : Nat} {v : Value} {x : DataW H × List MemPlace}
    (h : DataW.trod enc Tryd.prog W 0 (fun _ => true) true fuel 23 [v] = some x) : ∃ l : List Rl, RL W W.heap.size v l ∧ cntR l ≤ Rows.uptoBulk x.1 := by
  rcases open_slice Tryd.underlying23 h with ⟨hcs, _⟩ | ⟨a, len, cap, m, n, D, Pl, hcs, _, hl, hm, hmm, hx, hi⟩
  · simp only [List.cons.injEq, and_true] at hcs
    subst hcs
    exact ⟨[], ⟨none, 0, rfl, Nat.le_refl _, Nat.zero_le _, fun h => absurd h (by simp)⟩, Nat.zero_le _⟩
  · simp only [List.cons.injEq, and_true] at hcs
    subst hcs
    simp only [if_true] at hmm
    subst hmm
    obtain ⟨b, o, sp⟩ := a
    rcases Nat.eq_zero_or_pos len with hz0 | hp0
    · subst hz0
      exact ⟨[], ⟨_, _, rfl, Nat.zero_le _, hm, fun h => absurd h (by simp)⟩, Nat.zero_le _⟩
    have hsp : sp = none := by
      obtain ⟨cs', h1, _⟩ := hi 0 (by omega)
      rw [frC48] at h1
      obtain ⟨_, hlen, hcell⟩ := World.cells?_some h1
      have e0 := hcell 0 (by omega)
      rw [show cs'[0]? = some cs'[0] from List.getElem?_eq_getElem (by omega)] at e0
      exact World.cell?_spot (by simpa [Addr.add] using e0)
    subst hsp
    have each : ∀ i, i < len → ∃ r : Rl, b < W.heap.size ∧ RAt W W.heap.size b (o + i * 4) r ∧ r.cond.cnt ≤ Rows.uptoBulk (D i) := by
      intro i hil
      obtain ⟨cs', h1, h2⟩ := hi i (by omega)
      rw [frC48] at h1
      obtain ⟨_, hlen, hcell⟩ := World.cells?_some h1
      obtain ⟨xs, n, _, hy, hl, hxl, hf⟩ := DataW.trod_struct Tryd.underlying48 h2
      match xs, hxl with
      | [y0, y1], _ =>
        have q0 := hf 0 _ rfl
        have q1 := hf 1 _ rfl
        match cs', hlen with
        | [v0, v1, v2, v3], _ =>
          simp [frC3, frC46] at q0 q1
          obtain ⟨z, hz, _⟩ := DataW.trod_int Tryd.underlying3 q0
          obtain ⟨c, dv, hc, hk, hbu⟩ := cond_cells q1
          simp only [List.cons.injEq, and_true] at hz hc
          obtain ⟨rfl, rfl, rfl⟩ := hc
          subst hz
          have e0 := hcell 0 (by simp)
          have e1 := hcell 1 (by simp)
          have e2 := hcell 2 (by simp)
          have e3 := hcell 3 (by simp)
          simp only [addr_add, Nat.add_zero] at e0 e1 e2 e3
          have hblk := World.block_lt_of_cell? W _ e0
          refine ⟨⟨z, c⟩, hblk, ⟨e0, CnAt.make e1 e2 ⟨_, e3, hk⟩⟩, ?_⟩
          simp only [Prod.mk.injEq] at hy
          rw [hy.1]
          simp only [List.map_cons, List.map_nil, Rows.uptoBulk, Rows.uptoBulkAll]
          omega
    haveI : Inhabited Rl := ⟨⟨0, Cn.zero⟩⟩
    obtain ⟨f, hf⟩ := choose_lt (α := Rl) (p := fun i t => b < W.heap.size ∧ RAt W W.heap.size b (o + i * 4) t ∧ t.cond.cnt ≤ Rows.uptoBulk (D i)) each
    have hlen : ((List.range len).map f).length = len := by simp
    have hbk : cntR ((List.range len).map f) ≤ Rows.uptoBulk x.1 := by
      have := cntR_bulk f D (List.range len) fun i hi' => (hf i (List.mem_range.1 hi')).2.2
      rw [hx]
      simp only [Rows.uptoBulk]
      omega
    refine ⟨(List.range len).map f, ⟨some ⟨b, o, none⟩, _, by rw [hlen], by omega, hm, fun hp => ?_⟩, hbk⟩
    rw [hlen] at hp
    obtain ⟨r2, _⟩ := hf 0 hp
    refine ⟨b, o, rfl, r2, fun k hk => ?_⟩
    rw [hlen] at hk
    have := (hf k hk).2.1
    simpa using this
set_option maxRecDepth 100000 in
theorem open_file {H : Type} {enc : TypeId × Value → H} {W : World} {b0 : Nat} {v : Value} {d : DataW H} {ps : List MemPlace} (hv : Value.okWide Tryd.prog W .any b0 25 v) (hd : DataW.Trod enc Tryd.prog W 0 (fun _ => true) true 25 v d ps) :
    ∃ (f : Fl) (A1 : Option Addr) (c1 : Nat) (A2 : Option Addr) (c2 : Nat), v = flV f A1 c1 A2 c2 ∧ SL W W.heap.size (.slice A1 f.name.length c1) f.name ∧ RL W W.heap.size (.slice A2 f.rules.length c2) f.rules ∧ cntR f.rules ≤ Rows.uptoBulk d := by
  obtain ⟨cs, rfl, _⟩ := okWide_struct Tryd.underlying25 hv
  obtain ⟨fuel, hf⟩ := hd
  obtain ⟨l⟩ := cs
  obtain ⟨xs, n, _, hx, hl, hlen, hf⟩ := DataW.trod_struct Tryd.underlying25 (show DataW.trod enc Tryd.prog W 0 (fun _ => true) true fuel 25 l = some _ by simpa [Value.cells] using hf)
  rw [frC25] at hl
  match l, hl with
  | [v0, v1, v2, v3, v4, v5, v6, v7, v8], _ =>
    match xs, hlen with
    | [y0, y1, y2, y3, y4, y5, y6, y7, y8], _ =>
      have q0 := hf 0 _ rfl
      have q1 := hf 1 _ rfl
      have q2 := hf 2 _ rfl
      have q3 := hf 3 _ rfl
      have q4 := hf 4 _ rfl
      have q5 := hf 5 _ rfl
      have q6 := hf 6 _ rfl
      have q7 := hf 7 _ rfl
      have q8 := hf 8 _ rfl
      simp [frC3, frC22, frC23] at q0 q1 q2 q3 q4 q5 q6 q7 q8
      obtain ⟨n0, e0, _⟩ := DataW.trod_int Tryd.underlying3 q0
      obtain ⟨n1, e1, _⟩ := DataW.trod_int Tryd.underlying3 q1
      obtain ⟨n3, e3, _⟩ := DataW.trod_int Tryd.underlying3 q3
      obtain ⟨n4, e4, _⟩ := DataW.trod_int Tryd.underlying3 q4
      obtain ⟨n5, e5, _⟩ := DataW.trod_int Tryd.underlying3 q5
      obtain ⟨n6, e6, _⟩ := DataW.trod_int Tryd.underlying3 q6
      obtain ⟨n7, e7, _⟩ := DataW.trod_int Tryd.underlying3 q7
      obtain ⟨nm, k2⟩ := open_bytes q2
      obtain ⟨rl, k8, hbu⟩ := open_rules q8
      obtain ⟨A1, c1, rfl, _⟩ := id k2
      obtain ⟨A2, c2, rfl, _⟩ := id k8
      simp only [List.cons.injEq, and_true] at e0 e1 e3 e4 e5 e6 e7
      subst e0 e1 e3 e4 e5 e6 e7
      refine ⟨⟨n0, n1, n3, n4, n5, n6, n7, nm, rl⟩, A1, c1, A2, c2, rfl, k2, k8, ?_⟩
      simp only [Prod.mk.injEq] at hx
      rw [hx.1]
      simp only [List.map_cons, List.map_nil, Rows.uptoBulk, Rows.uptoBulkAll]
      show cntR rl ≤ _
      omega
end Go.Proofs.YtkjcafhaenkpbaaDoor
