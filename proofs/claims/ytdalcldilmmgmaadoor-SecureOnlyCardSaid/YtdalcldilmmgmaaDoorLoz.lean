/-
  The law of changed commands and responses, all ways; the case that comes in.
-/
import Derived.Test.YtdalcldilmmgmaaDoorLoya
import Derived.Test.YtdalcldilmmgmaaDoorLoyb
import Derived.Test.YtdalcldilmmgmaaDoorLoyc
import Derived.Test.YtdalcldilmmgmaaDoorLoyd
import Derived.Test.YtdalcldilmmgmaaDoorFrm
namespace Go.Proofs.YtdalcldilmmgmaaDoor
set_option linter.unusedVariables false
set_option linter.unusedSimpArgs false
open Go.ChangeShapes Go.WideShapes Go.ChangeAt Go.RowKit Go.Deep
set_option maxRecDepth 100000

theorem law_only (s : Ss) (m : List UInt8) (a : Cm) (r : Rs) (at' : Nat) (v0 v1 v2 v3 vm : Value) (da dr : Value) (w : World) (h0 : SL w w.heap.size v0 s.enc) (h1 : SL w w.heap.size v1 s.mac) (h2 : SL w w.heap.size v2 s.rmac) (h3 : SL w w.heap.size v3 s.dat) (hm : SL w w.heap.size vm m) (ha : SL w w.heap.size da a.data) (hr : SL w w.heap.size dr r.data)
    (ht : ET w) (hla : I64 a.le) (hat : at' < 65536) :
    Calls Tryd.prog 5 #[s.val v0 v1 v2 v3, vm, .agg #[.int .i64 a.cla, .int .i64 a.ins, .int .i64 a.p1, .int .i64 a.p2, da, .int .i64 a.le, .bool a.long, dr, .int .i64 r.sw, .int .u16 (at' : Int)]] w fun e w' => e = .returned (.bool true) ∧ Below w.heap.size w w' := by
  obtain ⟨Aa, ka, rfl, _⟩ := id ha
  obtain ⟨Ar, kr, rfl, _⟩ := id hr
  by_cases hd : at' % (8 * (onX (Ch.new s m) a).data.length + 24) < 8 * (onX (Ch.new s m) a).data.length
  · exact law_only_d s m a r at' v0 v1 v2 v3 vm Aa Ar ka kr w h0 h1 h2 h3 hm ha hr ht hla hat hd
  have h3c : at' % (8 * (onX (Ch.new s m) a).data.length + 24) % 3 < 3 := Nat.mod_lt _ (by decide)
  by_cases h30 : at' % (8 * (onX (Ch.new s m) a).data.length + 24) % 3 = 0
  · exact law_only_p1 s m a r at' v0 v1 v2 v3 vm Aa Ar ka kr w h0 h1 h2 h3 hm ha hr ht hla hat ⟨hd, h30⟩
  by_cases h31 : at' % (8 * (onX (Ch.new s m) a).data.length + 24) % 3 = 1
  · exact law_only_p2 s m a r at' v0 v1 v2 v3 vm Aa Ar ka kr w h0 h1 h2 h3 hm ha hr ht hla hat ⟨hd, h31⟩
  · exact law_only_ins s m a r at' v0 v1 v2 v3 vm Aa Ar ka kr w h0 h1 h2 h3 hm ha hr ht hla hat ⟨hd, by omega⟩

theorem caseC34 : Tryd.prog.cellsOf 34 = 9 := by kernel_rfl
theorem caseResp {H : Type} {enc : TypeId × Value → H} {W : World} {fuel : Nat} {cs : List Value} {x : DataW H × List MemPlace} (h : DataW.trod enc Tryd.prog W 0 (fun _ => true) true fuel 32 cs = some x) :
    ∃ (r : Rs) (d : Value), cs = [d, .int .i64 r.sw] ∧ SL W W.heap.size d r.data := by
  obtain ⟨xs, n, _, rfl, hl, hlen, hf⟩ := DataW.trod_struct Tryd.underlying32 h
  rw [frC32] at hl
  match cs, hl with
  | [v0, v1], _ =>
    match xs, hlen with
    | [y0, y1], _ =>
      have q0 := hf 0 _ rfl
      have q1 := hf 1 _ rfl
      simp [frC3, frC22] at q0 q1
      obtain ⟨l0, hl0⟩ := open_bytes q0
      obtain ⟨n1, e1, _, w1⟩ := DataW.trod_int Tryd.underlying3 q1
      simp only [List.cons.injEq, and_true] at e1
      subst e1
      exact ⟨⟨l0, n1⟩, v0, rfl, hl0⟩
theorem caseTurn {H : Type} {enc : TypeId × Value → H} {W : World} {fuel : Nat} {cs : List Value} {x : DataW H × List MemPlace} (h : DataW.trod enc Tryd.prog W 0 (fun _ => true) true fuel 34 cs = some x) :
    ∃ (c : Cm) (r : Rs) (A : Option Addr) (k : Nat) (A2 : Option Addr) (k2 : Nat), cs = [.int .i64 c.cla, .int .i64 c.ins, .int .i64 c.p1, .int .i64 c.p2, .slice A c.data.length k, .int .i64 c.le, .bool c.long, .slice A2 r.data.length k2, .int .i64 r.sw] ∧
      SL W W.heap.size (.slice A c.data.length k) c.data ∧ SL W W.heap.size (.slice A2 r.data.length k2) r.data ∧ I64 c.le := by
  obtain ⟨xs, n, _, rfl, hl, hlen, hf⟩ := DataW.trod_struct Tryd.underlying34 h
  rw [caseC34] at hl
  match cs, hl with
  | [v0, v1, v2, v3, v4, v5, v6, v7, v8], _ =>
    match xs, hlen with
    | [y0, y1], _ =>
      have q0 := hf 0 _ rfl
      have q1 := hf 1 _ rfl
      simp [frC30, frC32] at q0 q1
      obtain ⟨c, d, e0, hd, _, _, _, _, hle⟩ := cmd_of_cells q0
      obtain ⟨r, d2, e1, hd2⟩ := caseResp q1
      obtain ⟨A, k, rfl, _⟩ := id hd
      obtain ⟨A2, k2, rfl, _⟩ := id hd2
      simp only [List.cons.injEq, and_true] at e0 e1
      obtain ⟨rfl, rfl, rfl, rfl, rfl, rfl, rfl⟩ := e0
      obtain ⟨rfl, rfl⟩ := e1
      exact ⟨c, r, A, k, A2, k2, rfl, hd, hd2, hle⟩
theorem frC49 : Tryd.prog.cellsOf 49 = 1 := by kernel_rfl
theorem frC51 : Tryd.prog.cellsOf 51 = 10 := by kernel_rfl
theorem bounds_u16 {n : Int} (h : (Lit.int .u16 n).wf = true) : 0 ≤ n ∧ n ≤ 65535 := by
  simp [Lit.wf, IntKind.min, IntKind.max, IntKind.signed, IntKind.bits] at h
  omega

theorem open_case {H : Type} {enc : TypeId × Value → H} {W : World} {b0 : Nat} {v : Value} {d : DataW H} {ps : List MemPlace} (hv : Value.okWide Tryd.prog W .any b0 51 v) (hd : DataW.Trod enc Tryd.prog W 0 (fun _ => true) true 51 v d ps) :
    ∃ (c : Cm) (r : Rs) (n : Nat) (da db : Value), v = .agg #[.int .i64 c.cla, .int .i64 c.ins, .int .i64 c.p1, .int .i64 c.p2, da, .int .i64 c.le, .bool c.long, db, .int .i64 r.sw, .int .u16 (n : Int)] ∧ SL W W.heap.size da c.data ∧ SL W W.heap.size db r.data ∧ I64 c.le ∧ n < 65536 := by
  obtain ⟨cs, rfl, _⟩ := okWide_struct Tryd.underlying51 hv
  obtain ⟨fuel, hf⟩ := hd
  obtain ⟨l⟩ := cs
  obtain ⟨xs, n, _, hx, hl, hlen, hf⟩ := DataW.trod_struct Tryd.underlying51 (show DataW.trod enc Tryd.prog W 0 (fun _ => true) true fuel 51 l = some _ by simpa [Value.cells] using hf)
  rw [frC51] at hl
  match l, hl with
  | [v0, v1, v2, v3, v4, v5, v6, v7, v8, v9], _ =>
    match xs, hlen with
    | [y0, y1], _ =>
      have q0 := hf 0 _ rfl
      have q1 := hf 1 _ rfl
      simp [caseC34, frC49] at q0 q1
      obtain ⟨c, r, A, k, A2, k2, e0, hda, hdb, hle⟩ := caseTurn q0
      obtain ⟨n1, e1, _, w1⟩ := DataW.trod_int Tryd.underlying49 q1
      simp only [List.cons.injEq, and_true] at e0 e1
      obtain ⟨rfl, rfl, rfl, rfl, rfl, rfl, rfl, rfl, rfl⟩ := e0
      subst e1
      have hb := bounds_u16 w1
      obtain ⟨nn, rfl⟩ : ∃ nn : Nat, n1 = (nn : Int) := ⟨n1.toNat, by omega⟩
      exact ⟨c, r, nn, _, _, rfl, hda, hdb, hle, by omega⟩
end Go.Proofs.YtdalcldilmmgmaaDoor
