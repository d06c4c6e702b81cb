/-
  The type handle that the program's variable is laid with, as the walks read it; commands, responses and sessions that came in.
-/
import Derived.Test.YtdalcldilmmgmaaDoorRows
import Derived.Test.YtdalcldilmmgmaaDoorCards
import Derived.Test.YtdalcldilmmgmaaDoorTie
import Derived.Test.YtdalcldilmmgmaaDoorCva
import Derived.WalkKit
import Derived.ProofKit
import Derived.OpenShut
import Derived.ShutString
import Derived.ChangeOld
import Derived.ChangeVars
import Derived.ChangeSame
import Derived.Below
import Derived.LaidLaws
import Derived.LaidHandle
import Derived.JoinedOf
import Derived.SevenTiedAt
import Derived.Stop.Joined
import Derived.Deep.Slices
namespace Go.Proofs.YtdalcldilmmgmaaDoor
set_option linter.unusedVariables false
set_option linter.unusedSimpArgs false
open Go.ChangeShapes Go.WideShapes Go.ChangeAt Go.RowKit
set_option maxRecDepth 100000

theorem frOwn : ownKnob Tryd.prog.godebug = none := by kernel_rfl
theorem frLaidOut : laidOutB Tryd.prog = true := by kernel_rfl
theorem frVar : Tryd.prog.globalNamed "errors.errorType" = some 0 := by kernel_rfl
theorem frRt : (Tryd.prog.cutTypes.find? (·.1 == "internal/reflectlite.rtype")).map (·.2) = some 125 := by kernel_rfl
theorem frOneRow : ((List.range 179).filter fun t => Tryd.prog.rowNamed t [101, 114, 114, 111, 114]) = [62] := by kernel_rfl
theorem frSize : Tryd.prog.types.size = 179 := by kernel_rfl
theorem frC5 : Tryd.prog.cellsOf 5 = 1 := by kernel_rfl
theorem frC3 : Tryd.prog.cellsOf 3 = 1 := by kernel_rfl
theorem frC4 : Tryd.prog.cellsOf 4 = 1 := by kernel_rfl
theorem frC22 : Tryd.prog.cellsOf 22 = 1 := by kernel_rfl
theorem frC30 : Tryd.prog.cellsOf 30 = 7 := by kernel_rfl
theorem frC32 : Tryd.prog.cellsOf 32 = 2 := by kernel_rfl
theorem frC24 : Tryd.prog.cellsOf 24 = 5 := by kernel_rfl

/-- What the condition on the variable gives a walk: its one cell. -/
theorem frEt {W : World} (h : laidMetH Tryd.prog [("errors.errorType", Rows.laid_errors_errorType)] W) : ET W := by
  have h' : laidMet Tryd.prog [] W ∧ handlesMet Tryd.prog [("errors.errorType", Rows.laid_errors_errorType)] W := h
  obtain ⟨name, u, ty, e1, e2, e3, e4, e5⟩ := h'.2 _ (List.mem_singleton.2 rfl)
  have en : name = [101, 114, 114, 111, 114] := (Option.some.inj e1).symm
  subst en
  obtain rfl := Option.some.inj (frRt.symm.trans e2)
  have hm : ty ∈ (List.range 179).filter fun t => Tryd.prog.rowNamed t [101, 114, 114, 111, 114] := List.mem_filter.2 ⟨List.mem_range.2 (by rw [← frSize]; exact e3), e4⟩
  rw [frOneRow] at hm
  obtain rfl := List.mem_singleton.1 hm
  have hh : typeHandle Tryd.prog 62 = .pointer (some ⟨2, 62, none⟩) := by kernel_rfl
  rw [hh] at e5
  have := World.var?_cell frVar e5 0
  simpa [ET] using this
/-- A world that meets the condition: the settled one, the variable's cell laid. -/
noncomputable def frWorld (os : Os) : World :=
  let w0 := World.holding Tryd.prog os ⟨#[], #[], []⟩
  { w0 with heap := w0.heap.modify 0 fun
      | .cells _ t frozen => .cells #[.iface 125 (.agg #[.pointer (some ⟨2, 62, none⟩)])] t frozen
      | o => o }
theorem frWorld_met (os : Os) (args : Array Value) : laidMetH Tryd.prog [("errors.errorType", Rows.laid_errors_errorType)] ((frWorld os).forCall (fun _ _ => 0) ⟨#[], args, []⟩).memory :=
  laidMetH_of_parts (laidMet_nil _ _) (by kernel_rfl)

/-- What a row's opening tells of a slice of bytes, as a list of bytes. -/
theorem row_sl (w : World) (a : Option Addr) (len cap : Nat) (zs : List Int)
    (h : (a = none ∧ len = 0 ∧ cap = 0 ∧ zs = []) ∨ ∃ x, a = some x ∧ len ≤ cap ∧ cap ≤ maxLen ∧ zs.length = cap ∧ (∀ i, i < zs.length → w.cell? (x.add i) = some (.int .u8 (zs.getD i 0))) ∧ ∀ n ∈ zs, (Lit.int .u8 n).wf = true) :
    ∃ l : List UInt8, l.length = len ∧ SL w w.heap.size (.slice a len cap) l := by
  rcases h with ⟨rfl, rfl, rfl, rfl⟩ | ⟨x, rfl, h1, h2, h3, h4, h5⟩
  · exact ⟨[], rfl, SL.nil _ _ _ _ (Nat.zero_le _)⟩
  · have hlen : ((zs.take len).map fun n => UInt8.ofNat n.toNat).length = len := by simp; omega
    refine ⟨(zs.take len).map fun n => UInt8.ofNat n.toNat, hlen, some x, cap, by rw [hlen], by omega, h2, fun hp => ?_⟩
    rw [hlen] at hp
    obtain ⟨b, o, sp⟩ := x
    have h0 := h4 0 (by omega)
    have hsp : sp = none := World.cell?_spot (by simpa [Addr.add] using h0)
    subst hsp
    have hblk := World.block_lt_of_cell? w _ h0
    refine ⟨b, o, rfl, by simpa [Addr.add] using hblk, fun k hk => ?_⟩
    rw [hlen] at hk
    have hc := h4 k (by omega)
    rw [addr_add] at hc
    rw [hc]
    have hkz : k < zs.length := by omega
    have hwf := h5 zs[k] (List.getElem_mem hkz)
    have hb : 0 ≤ zs[k] ∧ zs[k] < 256 := by
      simp [Lit.wf, IntKind.min, IntKind.max, IntKind.signed, IntKind.bits] at hwf
      omega
    simp [List.getD, List.getElem?_map, List.getElem?_take, hk, List.getElem?_eq_getElem hkz]
    omega

theorem open_bytes {H : Type} {enc : TypeId × Value → H} {W : World} {fuel : Nat} {v : Value} {x : DataW H × List MemPlace}
    (h : DataW.trod enc Tryd.prog W 0 (fun _ => true) true fuel 22 [v] = some x) : ∃ l : List UInt8, SL W W.heap.size v l := by
  rcases open_ints Tryd.underlying22 Tryd.underlying5 frC5 h with ⟨hcs, _⟩ | ⟨x, l, c, zs, hcs, _, hl, hm, hz, hx, hcell, hwz⟩
  · simp only [List.cons.injEq, and_true] at hcs
    subst hcs
    exact ⟨[], SL.nil _ _ _ _ (Nat.zero_le _)⟩
  · simp only [List.cons.injEq, and_true] at hcs
    subst hcs
    simp only [if_true] at hz
    obtain ⟨m, hml, hms⟩ := row_sl W (some x) l c zs (.inr ⟨x, rfl, hl, hm, hz, hcell, hwz⟩)
    exact ⟨m, hms⟩
theorem bounds_i64 {n : Int} (h : (Lit.int .i64 n).wf = true) : -9223372036854775808 ≤ n ∧ n ≤ 9223372036854775807 := by
  simp [Lit.wf, IntKind.min, IntKind.max, IntKind.signed, IntKind.bits] at h
  omega

def I64 (n : Int) : Prop := -9223372036854775808 ≤ n ∧ n ≤ 9223372036854775807

theorem cmd_of_cells {H : Type} {enc : TypeId × Value → H} {W : World} {fuel : Nat} {cs : List Value} {x : DataW H × List MemPlace} (h : DataW.trod enc Tryd.prog W 0 (fun _ => true) true fuel 30 cs = some x) :
    ∃ (c : Cm) (d : Value), cs = [.int .i64 c.cla, .int .i64 c.ins, .int .i64 c.p1, .int .i64 c.p2, d, .int .i64 c.le, .bool c.long] ∧ SL W W.heap.size d c.data ∧ I64 c.cla ∧ I64 c.ins ∧ I64 c.p1 ∧ I64 c.p2 ∧ I64 c.le := by
  obtain ⟨xs, n, _, rfl, hl, hlen, hf⟩ := DataW.trod_struct Tryd.underlying30 h
  rw [frC30] at hl
  match cs, hl with
  | [v0, v1, v2, v3, v4, v5, v6], _ =>
    match xs, hlen with
    | [y0, y1, y2, y3, y4, y5, y6], _ =>
      have q0 := hf 0 _ rfl
      have q1 := hf 1 _ rfl
      have q2 := hf 2 _ rfl
      have q3 := hf 3 _ rfl
      have q4 := hf 4 _ rfl
      have q5 := hf 5 _ rfl
      have q6 := hf 6 _ rfl
      simp [frC3, frC4, frC22] at q0 q1 q2 q3 q4 q5 q6
      obtain ⟨n0, e0, _, w0⟩ := DataW.trod_int Tryd.underlying3 q0
      obtain ⟨n1, e1, _, w1⟩ := DataW.trod_int Tryd.underlying3 q1
      obtain ⟨n2, e2, _, w2⟩ := DataW.trod_int Tryd.underlying3 q2
      obtain ⟨n3, e3, _, w3⟩ := DataW.trod_int Tryd.underlying3 q3
      obtain ⟨l, hl4⟩ := open_bytes q4
      obtain ⟨n5, e5, _, w5⟩ := DataW.trod_int Tryd.underlying3 q5
      obtain ⟨b6, e6, _⟩ := DataW.trod_bool Tryd.underlying4 q6
      simp only [List.cons.injEq, and_true] at e0 e1 e2 e3 e5 e6
      subst e0 e1 e2 e3 e5 e6
      exact ⟨⟨n0, n1, n2, n3, l, n5, b6⟩, v4, rfl, hl4, bounds_i64 w0, bounds_i64 w1, bounds_i64 w2, bounds_i64 w3, bounds_i64 w5⟩

theorem open_cmd {H : Type} {enc : TypeId × Value → H} {W : World} {b0 : Nat} {v : Value} {d : DataW H} {ps : List MemPlace} (hv : Value.okWide Tryd.prog W .any b0 30 v) (hd : DataW.Trod enc Tryd.prog W 0 (fun _ => true) true 30 v d ps) :
    ∃ (c : Cm) (dv : Value), v = c.val dv ∧ SL W W.heap.size dv c.data ∧ I64 c.cla ∧ I64 c.ins ∧ I64 c.p1 ∧ I64 c.p2 ∧ I64 c.le := by
  obtain ⟨cs, rfl, _⟩ := okWide_struct Tryd.underlying30 hv
  obtain ⟨fuel, hf⟩ := hd
  obtain ⟨l⟩ := cs
  obtain ⟨c, dv, hcs, hr⟩ := cmd_of_cells (cs := l) (by simpa [Value.cells] using hf)
  subst hcs
  exact ⟨c, dv, rfl, hr⟩

theorem open_resp {H : Type} {enc : TypeId × Value → H} {W : World} {b0 : Nat} {v : Value} {d : DataW H} {ps : List MemPlace} (hv : Value.okWide Tryd.prog W .any b0 32 v) (hd : DataW.Trod enc Tryd.prog W 0 (fun _ => true) true 32 v d ps) :
    ∃ (l : List UInt8) (sw : Int) (dv : Value), v = .agg #[dv, .int .i64 sw] ∧ SL W W.heap.size dv l ∧ I64 sw := by
  obtain ⟨cs, rfl, _⟩ := okWide_struct Tryd.underlying32 hv
  obtain ⟨fuel, hf⟩ := hd
  obtain ⟨l⟩ := cs
  obtain ⟨xs, n, _, hx, hl, hlen, hf⟩ := DataW.trod_struct Tryd.underlying32 (show DataW.trod enc Tryd.prog W 0 (fun _ => true) true fuel 32 l = some _ by simpa [Value.cells] using hf)
  rw [frC32] at hl
  match l, hl with
  | [v0, v1], _ =>
    match xs, hlen with
    | [y0, y1], _ =>
      have q0 := hf 0 _ rfl
      have q1 := hf 1 _ rfl
      simp [frC3, frC22] at q0 q1
      obtain ⟨l0, hl0⟩ := open_bytes q0
      obtain ⟨n1, e1, _, w1⟩ := DataW.trod_int Tryd.underlying3 q1
      simp only [List.cons.injEq, and_true] at e1
      subst e1
      exact ⟨l0, n1, v0, rfl, hl0, bounds_i64 w1⟩

theorem open_sess {H : Type} {enc : TypeId × Value → H} {W : World} {b0 : Nat} {v : Value} {d : DataW H} {ps : List MemPlace} (hv : Value.okWide Tryd.prog W .any b0 24 v) (hd : DataW.Trod enc Tryd.prog W 0 (fun _ => true) true 24 v d ps) :
    ∃ (s : Ss) (v0 v1 v2 v3 : Value), v = s.val v0 v1 v2 v3 ∧ SL W W.heap.size v0 s.enc ∧ SL W W.heap.size v1 s.mac ∧ SL W W.heap.size v2 s.rmac ∧ SL W W.heap.size v3 s.dat ∧ I64 s.lvl := by
  obtain ⟨cs, rfl, _⟩ := okWide_struct Tryd.underlying24 hv
  obtain ⟨fuel, hf⟩ := hd
  obtain ⟨l⟩ := cs
  obtain ⟨xs, n, _, hx, hl, hlen, hf⟩ := DataW.trod_struct Tryd.underlying24 (show DataW.trod enc Tryd.prog W 0 (fun _ => true) true fuel 24 l = some _ by simpa [Value.cells] using hf)
  rw [frC24] at hl
  match l, hl with
  | [v0, v1, v2, v3, v4], _ =>
    match xs, hlen with
    | [y0, y1, y2, y3, y4], _ =>
      have q0 := hf 0 _ rfl
      have q1 := hf 1 _ rfl
      have q2 := hf 2 _ rfl
      have q3 := hf 3 _ rfl
      have q4 := hf 4 _ rfl
      simp [frC3, frC22] at q0 q1 q2 q3 q4
      obtain ⟨l0, hl0⟩ := open_bytes q0
      obtain ⟨l1, hl1⟩ := open_bytes q1
      obtain ⟨l2, hl2⟩ := open_bytes q2
      obtain ⟨l3, hl3⟩ := open_bytes q3
      obtain ⟨n4, e4, _, w4⟩ := DataW.trod_int Tryd.underlying3 q4
      simp only [List.cons.injEq, and_true] at e4
      subst e4
      exact ⟨⟨l0, l1, l2, l3, n4⟩, v0, v1, v2, v3, rfl, hl0, hl1, hl2, hl3, bounds_i64 w4⟩
end Go.Proofs.YtdalcldilmmgmaaDoor
