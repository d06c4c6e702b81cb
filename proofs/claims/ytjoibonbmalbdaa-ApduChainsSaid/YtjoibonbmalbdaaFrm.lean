/-
  What the frames of the laws of layer 4 open: byte slices, commands, meanings of class bytes, responses.
-/
import Derived.Test.YtjoibonbmalbdaaRows
import Derived.Test.YtjoibonbmalbdaaCls
import Derived.WalkKit
import Derived.ProofKit
import Derived.OpenShut
import Derived.ShutString
import Derived.ChangeOld
import Derived.ChangeSame
import Derived.Below
import Derived.Deep.Slices
namespace Go.Proofs.Ytjoibonbmalbdaa
set_option linter.unusedVariables false
set_option linter.unusedSimpArgs false
open Go.ChangeShapes Go.WideShapes Go.ChangeAt Go.RowKit

theorem frOwn : ownKnob Try.prog.godebug = none := by kernel_rfl
theorem frLaidOut : laidOutB Try.prog = true := by kernel_rfl
theorem frC5 : Try.prog.cellsOf 5 = 1 := by kernel_rfl
theorem frC3 : Try.prog.cellsOf 3 = 1 := by kernel_rfl
theorem frC4 : Try.prog.cellsOf 4 = 1 := by kernel_rfl
theorem frC22 : Try.prog.cellsOf 22 = 1 := by kernel_rfl
theorem frC24 : Try.prog.cellsOf 24 = 7 := by kernel_rfl
theorem frC47 : Try.prog.cellsOf 47 = 4 := by kernel_rfl
theorem frC36 : Try.prog.cellsOf 36 = 2 := by kernel_rfl

/-- What a row's opening tells of a slice of bytes, as a list of bytes. -/
theorem row_sl (w : World) (a : Option Addr) (len cap : Nat) (zs : List Int)
    (h : (a = none ∧ len = 0 ∧ cap = 0 ∧ zs = []) ∨ ∃ x, a = some x ∧ len ≤ cap ∧ cap ≤ maxLen ∧ zs.length = cap ∧ (∀ i, i < zs.length → w.cell? (x.add i) = some (.int .u8 (zs.getD i 0))) ∧ ∀ n ∈ zs, (Lit.int .u8 n).wf = true) :
    ∃ l : List UInt8, l.length = len ∧ SL w w.heap.size (.slice a len cap) l := by
  rcases h with ⟨rfl, rfl, rfl, rfl⟩ | ⟨x, rfl, h1, h2, h3, h4, h5⟩
  · exact ⟨[], rfl, SL.nil _ _ _ _ (Nat.zero_le _)⟩
  · have hlen : ((zs.take len).map fun n => UInt8.ofNat n.toNat).length = len := by simp; omega
    refine ⟨(zs.take len).map fun n => UInt8.ofNat n.toNat, hlen, some x, cap, by rw [hlen], by omega, h2, fun hp => ?_⟩
    rw [hlen] at hp
    obtain ⟨b, o, sp⟩ := x
    have h0 := h4 0 (by omega)
    have hsp : sp = none := World.cell?_spot (by simpa [Addr.add] using h0)
    subst hsp
    have hblk := World.block_lt_of_cell? w _ h0
    refine ⟨b, o, rfl, by simpa [Addr.add] using hblk, fun k hk => ?_⟩
    rw [hlen] at hk
    have hc := h4 k (by omega)
    rw [addr_add] at hc
    rw [hc]
    have hkz : k < zs.length := by omega
    have hwf := h5 zs[k] (List.getElem_mem hkz)
    have hb : 0 ≤ zs[k] ∧ zs[k] < 256 := by
      simp [Lit.wf, IntKind.min, IntKind.max, IntKind.signed, IntKind.bits] at hwf
      omega
    simp [List.getD, List.getElem?_map, List.getElem?_take, hk, List.getElem?_eq_getElem hkz]
    omega

theorem open_bytes {H : Type} {enc : TypeId × Value → H} {W : World} {fuel : Nat} {v : Value} {x : DataW H × List MemPlace}
    (h : DataW.trod enc Try.prog W 0 (fun _ => true) true fuel 22 [v] = some x) : ∃ l : List UInt8, SL W W.heap.size v l := by
  rcases open_ints Try.underlying22 Try.underlying5 frC5 h with ⟨hcs, _⟩ | ⟨x, l, c, zs, hcs, _, hl, hm, hz, hx, hcell, hwz⟩
  · simp only [List.cons.injEq, and_true] at hcs
    subst hcs
    exact ⟨[], SL.nil _ _ _ _ (Nat.zero_le _)⟩
  · simp only [List.cons.injEq, and_true] at hcs
    subst hcs
    simp only [if_true] at hz
    obtain ⟨m, hml, hms⟩ := row_sl W (some x) l c zs (.inr ⟨x, rfl, hl, hm, hz, hcell, hwz⟩)
    exact ⟨m, hms⟩
theorem bounds_i64 {n : Int} (h : (Lit.int .i64 n).wf = true) : -9223372036854775808 ≤ n ∧ n ≤ 9223372036854775807 := by
  simp [Lit.wf, IntKind.min, IntKind.max, IntKind.signed, IntKind.bits] at h
  omega

def I64 (n : Int) : Prop := -9223372036854775808 ≤ n ∧ n ≤ 9223372036854775807

theorem cmd_of_cells {H : Type} {enc : TypeId × Value → H} {W : World} {fuel : Nat} {cs : List Value} {x : DataW H × List MemPlace} (h : DataW.trod enc Try.prog W 0 (fun _ => true) true fuel 24 cs = some x) :
    ∃ (c : Cm) (d : Value), cs = [.int .i64 c.cla, .int .i64 c.ins, .int .i64 c.p1, .int .i64 c.p2, d, .int .i64 c.le, .bool c.long] ∧ SL W W.heap.size d c.data ∧ I64 c.cla ∧ I64 c.ins ∧ I64 c.p1 ∧ I64 c.p2 ∧ I64 c.le := by
  obtain ⟨xs, n, _, rfl, hl, hlen, hf⟩ := DataW.trod_struct Try.underlying24 h
  rw [frC24] at hl
  match cs, hl with
  | [v0, v1, v2, v3, v4, v5, v6], _ =>
    match xs, hlen with
    | [y0, y1, y2, y3, y4, y5, y6], _ =>
      have q0 := hf 0 _ rfl
      have q1 := hf 1 _ rfl
      have q2 := hf 2 _ rfl
      have q3 := hf 3 _ rfl
      have q4 := hf 4 _ rfl
      have q5 := hf 5 _ rfl
      have q6 := hf 6 _ rfl
      simp [frC3, frC4, frC22] at q0 q1 q2 q3 q4 q5 q6
      obtain ⟨n0, e0, _, w0⟩ := DataW.trod_int Try.underlying3 q0
      obtain ⟨n1, e1, _, w1⟩ := DataW.trod_int Try.underlying3 q1
      obtain ⟨n2, e2, _, w2⟩ := DataW.trod_int Try.underlying3 q2
      obtain ⟨n3, e3, _, w3⟩ := DataW.trod_int Try.underlying3 q3
      obtain ⟨l, hl4⟩ := open_bytes q4
      obtain ⟨n5, e5, _, w5⟩ := DataW.trod_int Try.underlying3 q5
      obtain ⟨b6, e6, _⟩ := DataW.trod_bool Try.underlying4 q6
      simp only [List.cons.injEq, and_true] at e0 e1 e2 e3 e5 e6
      subst e0 e1 e2 e3 e5 e6
      exact ⟨⟨n0, n1, n2, n3, l, n5, b6⟩, v4, rfl, hl4, bounds_i64 w0, bounds_i64 w1, bounds_i64 w2, bounds_i64 w3, bounds_i64 w5⟩

theorem open_cmd {H : Type} {enc : TypeId × Value → H} {W : World} {b0 : Nat} {v : Value} {d : DataW H} {ps : List MemPlace} (hv : Value.okWide Try.prog W .any b0 24 v) (hd : DataW.Trod enc Try.prog W 0 (fun _ => true) true 24 v d ps) :
    ∃ (c : Cm) (dv : Value), v = c.val dv ∧ SL W W.heap.size dv c.data ∧ I64 c.cla ∧ I64 c.ins ∧ I64 c.p1 ∧ I64 c.p2 ∧ I64 c.le := by
  obtain ⟨cs, rfl, _⟩ := okWide_struct Try.underlying24 hv
  obtain ⟨fuel, hf⟩ := hd
  obtain ⟨l⟩ := cs
  obtain ⟨c, dv, hcs, hr⟩ := cmd_of_cells (cs := l) (by simpa [Value.cells] using hf)
  subst hcs
  exact ⟨c, dv, rfl, hr⟩

theorem open_kl {H : Type} {enc : TypeId × Value → H} {W : World} {b0 : Nat} {v : Value} {d : DataW H} {ps : List MemPlace} (hv : Value.okWide Try.prog W .any b0 47 v) (hd : DataW.Trod enc Try.prog W 0 (fun _ => true) true 47 v d ps) :
    ∃ k : Kl, v = k.val := by
  obtain ⟨cs, rfl, _⟩ := okWide_struct Try.underlying47 hv
  obtain ⟨fuel, hf⟩ := hd
  obtain ⟨l⟩ := cs
  obtain ⟨xs, n, _, hx, hl, hlen, hf⟩ := DataW.trod_struct Try.underlying47 (show DataW.trod enc Try.prog W 0 (fun _ => true) true fuel 47 l = some _ by simpa [Value.cells] using hf)
  rw [frC47] at hl
  match l, hl with
  | [v0, v1, v2, v3], _ =>
    match xs, hlen with
    | [y0, y1, y2, y3], _ =>
      have q0 := hf 0 _ rfl
      have q1 := hf 1 _ rfl
      have q2 := hf 2 _ rfl
      have q3 := hf 3 _ rfl
      simp [frC3, frC4] at q0 q1 q2 q3
      obtain ⟨n0, e0, _, w0⟩ := DataW.trod_int Try.underlying3 q0
      obtain ⟨b1, e1, _⟩ := DataW.trod_bool Try.underlying4 q1
      obtain ⟨b2, e2, _⟩ := DataW.trod_bool Try.underlying4 q2
      obtain ⟨b3, e3, _⟩ := DataW.trod_bool Try.underlying4 q3
      simp only [List.cons.injEq, and_true] at e0 e1 e2 e3
      subst e0 e1 e2 e3
      exact ⟨⟨n0, b1, b2, b3⟩, rfl⟩

theorem open_resp {H : Type} {enc : TypeId × Value → H} {W : World} {b0 : Nat} {v : Value} {d : DataW H} {ps : List MemPlace} (hv : Value.okWide Try.prog W .any b0 36 v) (hd : DataW.Trod enc Try.prog W 0 (fun _ => true) true 36 v d ps) :
    ∃ (l : List UInt8) (sw : Int) (dv : Value), v = .agg #[dv, .int .i64 sw] ∧ SL W W.heap.size dv l ∧ I64 sw := by
  obtain ⟨cs, rfl, _⟩ := okWide_struct Try.underlying36 hv
  obtain ⟨fuel, hf⟩ := hd
  obtain ⟨l⟩ := cs
  obtain ⟨xs, n, _, hx, hl, hlen, hf⟩ := DataW.trod_struct Try.underlying36 (show DataW.trod enc Try.prog W 0 (fun _ => true) true fuel 36 l = some _ by simpa [Value.cells] using hf)
  rw [frC36] at hl
  match l, hl with
  | [v0, v1], _ =>
    match xs, hlen with
    | [y0, y1], _ =>
      have q0 := hf 0 _ rfl
      have q1 := hf 1 _ rfl
      simp [frC3, frC22] at q0 q1
      obtain ⟨l0, hl0⟩ := open_bytes q0
      obtain ⟨n1, e1, _, w1⟩ := DataW.trod_int Try.underlying3 q1
      simp only [List.cons.injEq, and_true] at e1
      subst e1
      exact ⟨l0, n1, v0, rfl, hl0, bounds_i64 w1⟩
end Go.Proofs.Ytjoibonbmalbdaa
