
/-
  The table that the program's variable is laid with, as the walks read it; a slice of bytes that came in.
-/
import Derived.Test.YtnbggokmiokhlaaDoorRows
import Derived.Test.YtnbggokmiokhlaaDoorCards
import Derived.Test.YtnbggokmiokhlaaDoorTie
import Derived.Test.YtnbggokmiokhlaaDoorBlk
import Derived.Test.YtnbggokmiokhlaaDoorLaw
import Derived.Deep.Slices
import Derived.WalkKit
import Derived.ProofKit
import Derived.OpenShut
import Derived.ShutString
import Derived.ChangeOld
import Derived.ChangeVars
import Derived.ChangeSame
import Derived.Below
import Derived.LaidLaws
import Derived.JoinedOf
import Derived.SevenTiedAt
namespace Go.Proofs.YtnbggokmiokhlaaDoor
set_option linter.unusedVariables false
set_option linter.unusedSimpArgs false
open Go.ChangeShapes Go.WideShapes Go.ChangeAt Go.RowKit

theorem frOwn : ownKnob Tryd.prog.godebug = none := by kernel_rfl
theorem frLaidOut : laidOutB Tryd.prog = true := by kernel_rfl
theorem frVar : Tryd.prog.globalNamed "smartcard/check.shifted" = some 0 := by kernel_rfl
theorem frVarType : (Tryd.prog.globals[0]?).map (·.type) = some 137 := by kernel_rfl
theorem frC42 : Tryd.prog.cellsOf 137 = 16 := by kernel_rfl
theorem frC32 : Tryd.prog.cellsOf 133 = 1 := by kernel_rfl
theorem frC5 : Tryd.prog.cellsOf 5 = 1 := by kernel_rfl

theorem int_of_trod {H : Type} {enc : TypeId × Value → H} {P : Program} {w : World} {base : Nat} {sp : Nat → Bool} {held : Bool} {fuel : Nat} {t : TypeId} {k : IntKind} {c : Value} {y : DataW H × List MemPlace}
    (ht : P.underlying t = some (.int k)) (h : DataW.trod enc P w base sp held fuel t [c] = some y) : ∃ n, c = .int k n ∧ y = (.lit (.int k n), []) := by
  cases fuel with
  | zero => simp [DataW.trod] at h
  | succ fuel =>
    cases c <;> simp [DataW.trod, ht] at h
    rename_i k' n
    obtain ⟨⟨rfl, _⟩, rfl⟩ := h
    exact ⟨n, rfl, rfl⟩

def frCells : Array Value := #[.int .u16 0, .int .u16 4225, .int .u16 8450, .int .u16 12675, .int .u16 16900, .int .u16 21125, .int .u16 25350, .int .u16 29575, .int .u16 33800, .int .u16 38025, .int .u16 42250, .int .u16 46475, .int .u16 50700, .int .u16 54925, .int .u16 59150, .int .u16 63375]

theorem frCells_of {W : World} (h : laidMet Tryd.prog [("smartcard/check.shifted", Rows.laid_smartcard_check_shifted)] W) : W.var? Tryd.prog "smartcard/check.shifted" = some frCells := by
  obtain ⟨ps, ⟨g, t, cs, fuel, p, q, hg, ht, hvar, hd, _, _⟩, _⟩ := h
  obtain rfl := Option.some.inj (frVar.symm.trans hg)
  obtain rfl := Option.some.inj (frVarType.symm.trans ht)
  rw [hvar]
  congr 1
  obtain ⟨l⟩ := cs
  cases fuel with
  | zero => simp [DataW.trod] at hd
  | succ fuel =>
    simp only [DataW.trod, Tryd.underlying137, frC42, frC32] at hd
    split at hd
    · rename_i hl
      obtain ⟨c0, c1, c2, c3, c4, c5, c6, c7, c8, c9, c10, c11, c12, c13, c14, c15, rfl⟩ : ∃ c0 c1 c2 c3 c4 c5 c6 c7 c8 c9 c10 c11 c12 c13 c14 c15, l = [c0, c1, c2, c3, c4, c5, c6, c7, c8, c9, c10, c11, c12, c13, c14, c15] := by
        match l, hl with
        | [c0, c1, c2, c3, c4, c5, c6, c7, c8, c9, c10, c11, c12, c13, c14, c15], _ => exact ⟨c0, c1, c2, c3, c4, c5, c6, c7, c8, c9, c10, c11, c12, c13, c14, c15, rfl⟩
      have e : List.range 16 = [0, 1, 2, 3, 4, 5, 6, 7, 8, 9, 10, 11, 12, 13, 14, 15] := rfl
      rw [e] at hd
      simp only [Option.map_eq_some_iff, List.mapM_cons, List.mapM_nil, Option.bind_eq_bind, Option.bind_eq_some_iff, Option.pure_def, Option.some.injEq] at hd
      obtain ⟨xs, ⟨y0, h0, _, ⟨y1, h1, _, ⟨y2, h2, _, ⟨y3, h3, _, ⟨y4, h4, _, ⟨y5, h5, _, ⟨y6, h6, _, ⟨y7, h7, _, ⟨y8, h8, _, ⟨y9, h9, _, ⟨y10, h10, _, ⟨y11, h11, _, ⟨y12, h12, _, ⟨y13, h13, _, ⟨y14, h14, _, ⟨y15, h15, _, rfl, rfl⟩, rfl⟩, rfl⟩, rfl⟩, rfl⟩, rfl⟩, rfl⟩, rfl⟩, rfl⟩, rfl⟩, rfl⟩, rfl⟩, rfl⟩, rfl⟩, rfl⟩, rfl⟩, hx⟩ := hd
      obtain ⟨n0, rfl, rfl⟩ := int_of_trod Tryd.underlying133 h0
      obtain ⟨n1, rfl, rfl⟩ := int_of_trod Tryd.underlying133 h1
      obtain ⟨n2, rfl, rfl⟩ := int_of_trod Tryd.underlying133 h2
      obtain ⟨n3, rfl, rfl⟩ := int_of_trod Tryd.underlying133 h3
      obtain ⟨n4, rfl, rfl⟩ := int_of_trod Tryd.underlying133 h4
      obtain ⟨n5, rfl, rfl⟩ := int_of_trod Tryd.underlying133 h5
      obtain ⟨n6, rfl, rfl⟩ := int_of_trod Tryd.underlying133 h6
      obtain ⟨n7, rfl, rfl⟩ := int_of_trod Tryd.underlying133 h7
      obtain ⟨n8, rfl, rfl⟩ := int_of_trod Tryd.underlying133 h8
      obtain ⟨n9, rfl, rfl⟩ := int_of_trod Tryd.underlying133 h9
      obtain ⟨n10, rfl, rfl⟩ := int_of_trod Tryd.underlying133 h10
      obtain ⟨n11, rfl, rfl⟩ := int_of_trod Tryd.underlying133 h11
      obtain ⟨n12, rfl, rfl⟩ := int_of_trod Tryd.underlying133 h12
      obtain ⟨n13, rfl, rfl⟩ := int_of_trod Tryd.underlying133 h13
      obtain ⟨n14, rfl, rfl⟩ := int_of_trod Tryd.underlying133 h14
      obtain ⟨n15, rfl, rfl⟩ := int_of_trod Tryd.underlying133 h15
      simp [Rows.laid_smartcard_check_shifted] at hx
      obtain ⟨⟨rfl, rfl, rfl, rfl, rfl, rfl, rfl, rfl, rfl, rfl, rfl, rfl, rfl, rfl, rfl, rfl⟩, _⟩ := hx
      rfl
    · cases hd

theorem frTb {W : World} (h : laidMet Tryd.prog [("smartcard/check.shifted", Rows.laid_smartcard_check_shifted)] W) : Tb W := by
  have hv := frCells_of h
  intro k hk
  have := World.var?_cell frVar hv k
  match k, hk with
  | 0, _ | 1, _ | 2, _ | 3, _ | 4, _ | 5, _ | 6, _ | 7, _ | 8, _ | 9, _ | 10, _ | 11, _ | 12, _ | 13, _ | 14, _ | 15, _ => exact this
  | n + 16, h => exact absurd h (by omega)

/-- A world that meets the condition. -/
noncomputable def frWorld (os : Os) : World :=
  { World.holding Tryd.prog os ⟨#[], #[], []⟩ with heap := (World.holding Tryd.prog os ⟨#[], #[], []⟩).heap.modify 0 fun
      | .cells _ t frozen => .cells frCells t frozen
      | o => o }
theorem frWorld_met (os : Os) (args : Array Value) : laidMet Tryd.prog [("smartcard/check.shifted", Rows.laid_smartcard_check_shifted)] ((frWorld os).forCall (fun _ _ => 0) ⟨#[], args, []⟩).memory :=
  laidMet_of_run' 8 (by kernel_rfl) (by kernel_rfl)

/-- What a row's opening tells of a slice of bytes, as a list of bytes. -/
theorem row_sl (w : World) (a : Option Addr) (len cap : Nat) (zs : List Int)
    (h : (a = none ∧ len = 0 ∧ cap = 0 ∧ zs = []) ∨ ∃ x, a = some x ∧ len ≤ cap ∧ cap ≤ maxLen ∧ zs.length = cap ∧ (∀ i, i < zs.length → w.cell? (x.add i) = some (.int .u8 (zs.getD i 0))) ∧ ∀ n ∈ zs, (Lit.int .u8 n).wf = true) :
    ∃ l : List UInt8, l.length = len ∧ SL w w.heap.size (.slice a len cap) l := by
  rcases h with ⟨rfl, rfl, rfl, rfl⟩ | ⟨x, rfl, h1, h2, h3, h4, h5⟩
  · exact ⟨[], rfl, SL.nil _ _ _ _ (Nat.zero_le _)⟩
  · have hlen : ((zs.take len).map fun n => UInt8.ofNat n.toNat).length = len := by simp; omega
    refine ⟨(zs.take len).map fun n => UInt8.ofNat n.toNat, hlen, some x, cap, by rw [hlen], by omega, h2, fun hp => ?_⟩
    rw [hlen] at hp
    obtain ⟨b, o, sp⟩ := x
    have h0 := h4 0 (by omega)
    have hsp : sp = none := World.cell?_spot (by simpa [Addr.add] using h0)
    subst hsp
    have hblk := World.block_lt_of_cell? w _ h0
    refine ⟨b, o, rfl, by simpa [Addr.add] using hblk, fun k hk => ?_⟩
    rw [hlen] at hk
    have hc := h4 k (by omega)
    rw [addr_add] at hc
    rw [hc]
    have hkz : k < zs.length := by omega
    have hwf := h5 zs[k] (List.getElem_mem hkz)
    have hb : 0 ≤ zs[k] ∧ zs[k] < 256 := by
      simp [Lit.wf, IntKind.min, IntKind.max, IntKind.signed, IntKind.bits] at hwf
      omega
    simp [List.getD, List.getElem?_map, List.getElem?_take, hk, List.getElem?_eq_getElem hkz]
    omega

theorem open_bytes {H : Type} {enc : TypeId × Value → H} {W : World} {fuel : Nat} {v : Value} {x : DataW H × List MemPlace}
    (h : DataW.trod enc Tryd.prog W 0 (fun _ => true) true fuel 24 [v] = some x) : ∃ l : List UInt8, SL W W.heap.size v l := by
  rcases open_ints Tryd.underlying24 Tryd.underlying5 frC5 h with ⟨hcs, _⟩ | ⟨x, l, c, zs, hcs, _, hl, hm, hz, hx, hcell, hwz⟩
  · simp only [List.cons.injEq, and_true] at hcs
    subst hcs
    exact ⟨[], SL.nil _ _ _ _ (Nat.zero_le _)⟩
  · simp only [List.cons.injEq, and_true] at hcs
    subst hcs
    simp only [if_true] at hz
    obtain ⟨m, hml, hms⟩ := row_sl W (some x) l c zs (.inr ⟨x, rfl, hl, hm, hz, hcell, hwz⟩)
    exact ⟨m, hms⟩
theorem bounds_i64 {n : Int} (h : (Lit.int .i64 n).wf = true) : -9223372036854775808 ≤ n ∧ n ≤ 9223372036854775807 := by
  simp [Lit.wf, IntKind.min, IntKind.max, IntKind.signed, IntKind.bits] at h
  omega
theorem bounds_u16 {n : Int} (h : (Lit.int .u16 n).wf = true) : 0 ≤ n ∧ n ≤ 65535 := by
  simp [Lit.wf, IntKind.min, IntKind.max, IntKind.signed, IntKind.bits] at h
  omega

theorem frC3 : Tryd.prog.cellsOf 3 = 1 := by kernel_rfl
theorem frC4 : Tryd.prog.cellsOf 4 = 1 := by kernel_rfl
theorem frC24 : Tryd.prog.cellsOf 24 = 1 := by kernel_rfl
theorem frC47 : Tryd.prog.cellsOf 47 = 7 := by kernel_rfl
def I64 (n : Int) : Prop := -9223372036854775808 ≤ n ∧ n ≤ 9223372036854775807
set_option maxRecDepth 100000 in
theorem blk_of_cells {H : Type} {enc : TypeId × Value → H} {W : World} {fuel : Nat} {cs : List Value} {x : DataW H × List MemPlace} (h : DataW.trod enc Tryd.prog W 0 (fun _ => true) true fuel 47 cs = some x) :
    ∃ (b : Bk) (d : Value), cs = [.int .i64 b.nad, .int .i64 b.kind, .int .i64 b.seq, .bool b.more, .int .i64 b.code, .bool b.ans, d] ∧ SL W W.heap.size d b.inf := by
  obtain ⟨xs, n, _, rfl, hl, hlen, hf⟩ := DataW.trod_struct Tryd.underlying47 h
  rw [frC47] at hl
  match cs, hl with
  | [v0, v1, v2, v3, v4, v5, v6], _ =>
    match xs, hlen with
    | [y0, y1, y2, y3, y4, y5, y6], _ =>
      have q0 := hf 0 _ rfl
      have q1 := hf 1 _ rfl
      have q2 := hf 2 _ rfl
      have q3 := hf 3 _ rfl
      have q4 := hf 4 _ rfl
      have q5 := hf 5 _ rfl
      have q6 := hf 6 _ rfl
      simp [frC3, frC4, frC24] at q0 q1 q2 q3 q4 q5 q6
      obtain ⟨n0, e0, _, w0⟩ := DataW.trod_int Tryd.underlying3 q0
      obtain ⟨n1, e1, _, w1⟩ := DataW.trod_int Tryd.underlying3 q1
      obtain ⟨n2, e2, _, w2⟩ := DataW.trod_int Tryd.underlying3 q2
      obtain ⟨b3, e3, _⟩ := DataW.trod_bool Tryd.underlying4 q3
      obtain ⟨n4, e4, _, w4⟩ := DataW.trod_int Tryd.underlying3 q4
      obtain ⟨b5, e5, _⟩ := DataW.trod_bool Tryd.underlying4 q5
      obtain ⟨l, hl6⟩ := open_bytes q6
      simp only [List.cons.injEq, and_true] at e0 e1 e2 e3 e4 e5
      subst e0 e1 e2 e3 e4 e5
      exact ⟨⟨n0, n1, n2, b3, n4, b5, l⟩, v6, rfl, hl6⟩
set_option maxRecDepth 100000 in
theorem open_blk {H : Type} {enc : TypeId × Value → H} {W : World} {b0 : Nat} {v : Value} {d : DataW H} {ps : List MemPlace} (hv : Value.okWide Tryd.prog W .any b0 47 v) (hd : DataW.Trod enc Tryd.prog W 0 (fun _ => true) true 47 v d ps) :
    ∃ (b : Bk) (dv : Value), v = b.val dv ∧ SL W W.heap.size dv b.inf := by
  obtain ⟨cs, rfl, _⟩ := okWide_struct Tryd.underlying47 hv
  obtain ⟨fuel, hf⟩ := hd
  obtain ⟨l⟩ := cs
  obtain ⟨b, dv, hcs, hr⟩ := blk_of_cells (cs := l) (by simpa [Value.cells] using hf)
  subst hcs
  exact ⟨b, dv, rfl, hr⟩
end Go.Proofs.YtnbggokmiokhlaaDoor
