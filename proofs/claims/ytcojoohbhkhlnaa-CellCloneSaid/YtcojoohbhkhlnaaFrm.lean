/-
  What the frames of the laws open: words, configurations, calls.
-/
import Derived.Test.YtcojoohbhkhlnaaRows
import Derived.Test.YtcojoohbhkhlnaaCin
import Derived.WalkKit
import Derived.ProofKit
import Derived.OpenShut
import Derived.ShutString
import Derived.ChangeOld
import Derived.ChangeSame
import Derived.Below
import Derived.Deep.Slices
import Derived.Deep.Strs
namespace Go.Proofs.Ytcojoohbhkhlnaa
set_option linter.unusedVariables false
set_option linter.unusedSimpArgs false
open Go.ChangeShapes Go.WideShapes Go.ChangeAt Go.RowKit Go.Deep

theorem frOwn : ownKnob Try.prog.godebug = none := by kernel_rfl
theorem frLaidOut : laidOutB Try.prog = true := by kernel_rfl
theorem frC3 : Try.prog.cellsOf 3 = 1 := by kernel_rfl
theorem frC35 : Try.prog.cellsOf 35 = 1 := by kernel_rfl
theorem frC37 : Try.prog.cellsOf 37 = 4 := by kernel_rfl
theorem frC23 : Try.prog.cellsOf 23 = 2 := by kernel_rfl

theorem row_sw (w : World) (x : Addr) (len cap : Nat) (zs : List Int) (h1 : len ≤ cap) (h2 : cap ≤ maxLen) (h3 : zs.length = cap) (h4 : ∀ i, i < zs.length → w.cell? (x.add i) = some (.int .u32 (zs.getD i 0))) (h5 : ∀ n ∈ zs, (Lit.int .u32 n).wf = true) :
    ∃ l : List Nat, l.length = len ∧ SW w w.heap.size (.slice (some x) len cap) l ∧ ∀ n ∈ l, n < 4294967296 := by
  have hlen : ((zs.take len).map Int.toNat).length = len := by simp; omega
  have hall : ∀ n ∈ (zs.take len).map Int.toNat, n < 4294967296 := by
    intro n hn
    obtain ⟨z, hz, rfl⟩ := List.mem_map.1 hn
    have hwf := h5 z (List.mem_of_mem_take hz)
    simp [Lit.wf, IntKind.min, IntKind.max, IntKind.signed, IntKind.bits] at hwf
    omega
  refine ⟨(zs.take len).map Int.toNat, hlen, ⟨some x, cap, by rw [hlen], by omega, h2, fun hp => ?_⟩, hall⟩
  rw [hlen] at hp
  obtain ⟨b, o, sp⟩ := x
  have h0 := h4 0 (by omega)
  have hsp : sp = none := World.cell?_spot (by simpa [Addr.add] using h0)
  subst hsp
  have hblk := World.block_lt_of_cell? w _ h0
  refine ⟨b, o, rfl, by simpa [Addr.add] using hblk, fun k hk => ?_⟩
  rw [hlen] at hk
  have hc := h4 k (by omega)
  rw [addr_add] at hc
  rw [hc]
  have hkz : k < zs.length := by omega
  have hwf := h5 zs[k] (List.getElem_mem hkz)
  have hb : 0 ≤ zs[k] := by
    simp [Lit.wf, IntKind.min, IntKind.max, IntKind.signed, IntKind.bits] at hwf
    omega
  simp [List.getD, List.getElem?_map, List.getElem?_take, hk, List.getElem?_eq_getElem hkz]
  omega
theorem open_words {H : Type} {enc : TypeId × Value → H} {W : World} {fuel : Nat} {v : Value} {x : DataW H × List MemPlace}
    (h : DataW.trod enc Try.prog W 0 (fun _ => true) true fuel 26 [v] = some x) : ∃ l : List Nat, SW W W.heap.size v l ∧ ∀ n ∈ l, n < 4294967296 := by
  rcases open_ints Try.underlying26 Try.underlying35 frC35 h with ⟨hcs, _⟩ | ⟨x, l, c, zs, hcs, _, hl, hm, hz, hx, hcell, hwz⟩
  · simp only [List.cons.injEq, and_true] at hcs
    subst hcs
    exact ⟨[], SW.nil _ _ _ _ (Nat.zero_le _), by simp⟩
  · simp only [List.cons.injEq, and_true] at hcs
    subst hcs
    simp only [if_true] at hz
    obtain ⟨m, hml, hms, hma⟩ := row_sw W x l c zs hl hm hz hcell hwz
    exact ⟨m, hms, hma⟩
theorem bounds_i64 {n : Int} (h : (Lit.int .i64 n).wf = true) : -9223372036854775808 ≤ n ∧ n ≤ 9223372036854775807 := by
  simp [Lit.wf, IntKind.min, IntKind.max, IntKind.signed, IntKind.bits] at h
  omega
theorem bounds_u32 {n : Int} (h : (Lit.int .u32 n).wf = true) : 0 ≤ n ∧ n < 4294967296 := by
  simp [Lit.wf, IntKind.min, IntKind.max, IntKind.signed, IntKind.bits] at h
  omega
theorem bounds_u8 {n : Int} (h : (Lit.int .u8 n).wf = true) : 0 ≤ n ∧ n < 256 := by
  simp [Lit.wf, IntKind.min, IntKind.max, IntKind.signed, IntKind.bits] at h
  omega
def I64 (n : Int) : Prop := -9223372036854775808 ≤ n ∧ n < 9223372036854775808
theorem i64_of {n : Int} (h : (Lit.int .i64 n).wf = true) : I64 n := by have := bounds_i64 h; exact ⟨this.1, by omega⟩

theorem open_cfg {H : Type} {enc : TypeId × Value → H} {W : World} {b0 : Nat} {v : Value} {d : DataW H} {ps : List MemPlace} (hv : Value.okWide Try.prog W .any b0 23 v) (hd : DataW.Trod enc Try.prog W 0 (fun _ => true) true 23 v d ps) :
    ∃ n e : Int, v = .agg #[.int .i64 n, .int .i64 e] ∧ I64 n ∧ I64 e := by
  obtain ⟨cs, rfl, _⟩ := okWide_struct Try.underlying23 hv
  obtain ⟨fuel, hf⟩ := hd
  obtain ⟨l⟩ := cs
  obtain ⟨xs, n, _, hx, hl, hlen, hf⟩ := DataW.trod_struct Try.underlying23 (show DataW.trod enc Try.prog W 0 (fun _ => true) true fuel 23 l = some _ by simpa [Value.cells] using hf)
  rw [frC23] at hl
  match l, hl with
  | [v0, v1], _ =>
    match xs, hlen with
    | [y0, y1], _ =>
      have q0 := hf 0 _ rfl
      have q1 := hf 1 _ rfl
      simp [frC3] at q0 q1
      obtain ⟨n0, e0, _, w0⟩ := DataW.trod_int Try.underlying3 q0
      obtain ⟨n1, e1, _, w1⟩ := DataW.trod_int Try.underlying3 q1
      simp only [List.cons.injEq, and_true] at e0 e1
      subst e0 e1
      exact ⟨n0, n1, rfl, i64_of w0, i64_of w1⟩

/-- A call: its number, a word's, a number, a value. -/
structure Cl where
  op : Int
  a : Int
  n : Int
  v : Nat
def Cl.fit (c : Cl) : Prop := I64 c.op ∧ I64 c.a ∧ I64 c.n ∧ c.v < 4294967296
structure CAt (w : World) (b o : Nat) (c : Cl) : Prop where
  op : w.cell? ⟨b, o, none⟩ = some (.int .i64 c.op)
  a : w.cell? ⟨b, o + 1, none⟩ = some (.int .i64 c.a)
  n : w.cell? ⟨b, o + 2, none⟩ = some (.int .i64 c.n)
  v : w.cell? ⟨b, o + 3, none⟩ = some (.int .u32 (c.v : Int))
def cl0 : Cl := ⟨0, 0, 0, 0⟩
/-- The value v is a slice that reads as the calls l. -/
def CL (w : World) (B : Nat) (v : Value) (l : List Cl) : Prop :=
  ∃ (A : Option Addr) (c : Nat), v = .slice A l.length c ∧ l.length ≤ c ∧ c ≤ maxLen ∧ (0 < l.length → ∃ b o, A = some ⟨b, o, none⟩ ∧ b < B ∧ ∀ k, k < l.length → CAt w b (o + k * 4) (l.getD k cl0))

set_option maxRecDepth 100000 in
theorem cl_of_cells {H : Type} {enc : TypeId × Value → H} {W : World} {fuel : Nat} {cs : List Value} {x : DataW H × List MemPlace} (h : DataW.trod enc Try.prog W 0 (fun _ => true) true fuel 37 cs = some x) :
    ∃ c : Cl, cs = [.int .i64 c.op, .int .i64 c.a, .int .i64 c.n, .int .u32 (c.v : Int)] ∧ c.fit := by
  obtain ⟨xs, n, _, rfl, hl, hlen, hf⟩ := DataW.trod_struct Try.underlying37 h
  rw [frC37] at hl
  match cs, hl with
  | [v0, v1, v2, v3], _ =>
    match xs, hlen with
    | [y0, y1, y2, y3], _ =>
      have q0 := hf 0 _ rfl
      have q1 := hf 1 _ rfl
      have q2 := hf 2 _ rfl
      have q3 := hf 3 _ rfl
      simp [frC3, frC35] at q0 q1 q2 q3
      obtain ⟨n0, e0, _, w0⟩ := DataW.trod_int Try.underlying3 q0
      obtain ⟨n1, e1, _, w1⟩ := DataW.trod_int Try.underlying3 q1
      obtain ⟨n2, e2, _, w2⟩ := DataW.trod_int Try.underlying3 q2
      obtain ⟨n3, e3, _, w3⟩ := DataW.trod_int Try.underlying35 q3
      have hb := bounds_u32 w3
      obtain ⟨m, rfl⟩ : ∃ m : Nat, n3 = m := ⟨n3.toNat, by omega⟩
      simp only [List.cons.injEq, and_true] at e0 e1 e2 e3
      subst e0 e1 e2 e3
      exact ⟨⟨n0, n1, n2, m⟩, rfl, i64_of w0, i64_of w1, i64_of w2, by show m < _; omega⟩

set_option maxRecDepth 100000 in
theorem open_calls {H : Type} {enc : TypeId × Value → H} {W : World} {fuel : Nat} {v : Value} {x : DataW H × List MemPlace}
    (h : DataW.trod enc Try.prog W 0 (fun _ => true) true fuel 24 [v] = some x) : ∃ l : List Cl, CL W W.heap.size v l ∧ ∀ x ∈ l, x.fit := by
  rcases open_slice Try.underlying24 h with ⟨hcs, _⟩ | ⟨a, len, cap, m, n, D, Pl, hcs, _, hl, hm, hmm, hx, hi⟩
  · simp only [List.cons.injEq, and_true] at hcs
    subst hcs
    exact ⟨[], ⟨none, 0, rfl, Nat.le_refl _, Nat.zero_le _, fun h => absurd h (by simp)⟩, fun _ h => by cases h⟩
  · simp only [List.cons.injEq, and_true] at hcs
    subst hcs
    simp only [if_true] at hmm
    subst hmm
    obtain ⟨b, o, sp⟩ := a
    rcases Nat.eq_zero_or_pos len with hz0 | hp0
    · subst hz0
      exact ⟨[], ⟨_, _, rfl, Nat.zero_le _, hm, fun h => absurd h (by simp)⟩, fun _ h => by cases h⟩
    have hsp : sp = none := by
      obtain ⟨cs', h1, _⟩ := hi 0 (by omega)
      rw [frC37] at h1
      obtain ⟨_, hlen, hcell⟩ := World.cells?_some h1
      have e0 := hcell 0 (by omega)
      rw [show cs'[0]? = some cs'[0] from List.getElem?_eq_getElem (by omega)] at e0
      exact World.cell?_spot (by simpa [Addr.add] using e0)
    subst hsp
    have each : ∀ i, i < len → ∃ t : Cl, b < W.heap.size ∧ CAt W b (o + i * 4) t ∧ t.fit := by
      intro i hil
      obtain ⟨cs', h1, h2⟩ := hi i (by omega)
      rw [frC37] at h1
      obtain ⟨_, hlen, hcell⟩ := World.cells?_some h1
      obtain ⟨t, rfl, ht⟩ := cl_of_cells h2
      have e0 := hcell 0 (by simp)
      have e1 := hcell 1 (by simp)
      have e2 := hcell 2 (by simp)
      have e3 := hcell 3 (by simp)
      simp only [addr_add, Nat.add_zero] at e0 e1 e2 e3
      have hblk := World.block_lt_of_cell? W _ e0
      exact ⟨t, hblk, ⟨e0, e1, e2, e3⟩, ht⟩
    haveI : Inhabited Cl := ⟨cl0⟩
    obtain ⟨f, hf⟩ := choose_lt (α := Cl) (p := fun i t => b < W.heap.size ∧ CAt W b (o + i * 4) t ∧ t.fit) each
    have hlen : ((List.range len).map f).length = len := by simp
    refine ⟨(List.range len).map f, ⟨some ⟨b, o, none⟩, _, by rw [hlen], by omega, hm, fun hp => ?_⟩, fun x hx => ?_⟩
    · rw [hlen] at hp
      obtain ⟨r2, _⟩ := hf 0 hp
      refine ⟨b, o, rfl, r2, fun k hk => ?_⟩
      rw [hlen] at hk
      have := (hf k hk).2.1
      simpa [List.getD, hk] using this
    · obtain ⟨i, hi', rfl⟩ := List.mem_map.1 hx
      exact (hf i (List.mem_range.1 hi')).2.2
end Go.Proofs.Ytcojoohbhkhlnaa
