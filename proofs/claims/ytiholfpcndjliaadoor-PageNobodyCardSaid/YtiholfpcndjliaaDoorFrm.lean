/-
  The tables that the program's variables are laid with, as the walks read them; a slice of bytes that came in.
-/
import Derived.Test.YtiholfpcndjliaaDoorRows
import Derived.Test.YtiholfpcndjliaaDoorCards
import Derived.Test.YtiholfpcndjliaaDoorTie
import Derived.Test.YtiholfpcndjliaaDoorEcn
import Derived.WalkKit
import Derived.ProofKit
import Derived.OpenShut
import Derived.ShutString
import Derived.ChangeOld
import Derived.ChangeVars
import Derived.ChangeSame
import Derived.Below
import Derived.LaidLaws
import Derived.JoinedOf
import Derived.SevenTiedAt
namespace Go.Proofs.YtiholfpcndjliaaDoor
set_option linter.unusedVariables false
set_option linter.unusedSimpArgs false
open Go.ChangeShapes Go.WideShapes Go.ChangeAt Go.RowKit

theorem frOwn : ownKnob Tryd.prog.godebug = none := by kernel_rfl
theorem frLaidOut : laidOutB Tryd.prog = true := by kernel_rfl
theorem frVar0 : Tryd.prog.globalNamed "smartcard/ecc.groups" = some 0 := by kernel_rfl
theorem frVar1 : Tryd.prog.globalNamed "smartcard/ecc.places" = some 1 := by kernel_rfl
theorem frVarType0 : (Tryd.prog.globals[0]?).map (·.type) = some 153 := by kernel_rfl
theorem frVarType1 : (Tryd.prog.globals[1]?).map (·.type) = some 157 := by kernel_rfl
theorem frC53 : Tryd.prog.cellsOf 157 = 24 := by kernel_rfl
theorem frC46 : Tryd.prog.cellsOf 153 = 8 := by kernel_rfl
theorem frC3 : Tryd.prog.cellsOf 3 = 1 := by kernel_rfl
theorem frC22 : Tryd.prog.cellsOf 59 = 1 := by kernel_rfl
theorem frC5 : Tryd.prog.cellsOf 5 = 1 := by kernel_rfl

theorem int_of_trod {H : Type} {enc : TypeId × Value → H} {P : Program} {w : World} {base : Nat} {sp : Nat → Bool} {held : Bool} {fuel : Nat} {t : TypeId} {k : IntKind} {c : Value} {y : DataW H × List MemPlace}
    (ht : P.underlying t = some (.int k)) (h : DataW.trod enc P w base sp held fuel t [c] = some y) : ∃ n, c = .int k n ∧ y = (.lit (.int k n), []) := by
  cases fuel with
  | zero => simp [DataW.trod] at h
  | succ fuel =>
    cases c <;> simp [DataW.trod, ht] at h
    rename_i k' n
    obtain ⟨⟨rfl, _⟩, rfl⟩ := h
    exact ⟨n, rfl, rfl⟩
set_option maxRecDepth 100000 in
theorem pl_of {H : Type} {enc : TypeId × Value → H} {W : World} {cs : Array Value} {fuel : Nat} {p : List MemPlace} {base : Nat} {sp : Nat → Bool} {held : Bool} (hd : DataW.trod enc Tryd.prog W base sp held fuel 157 cs.toList = some (Rows.laid_smartcard_ecc_places, p)) : cs = plA := by
  obtain ⟨l⟩ := cs
  cases fuel with
  | zero => simp [DataW.trod] at hd
  | succ fuel =>
    simp only [DataW.trod, Tryd.underlying157, frC53, frC3] at hd
    split at hd
    · rename_i hl
      obtain ⟨c0, c1, c2, c3, c4, c5, c6, c7, c8, c9, c10, c11, c12, c13, c14, c15, c16, c17, c18, c19, c20, c21, c22, c23, rfl⟩ : ∃ c0 c1 c2 c3 c4 c5 c6 c7 c8 c9 c10 c11 c12 c13 c14 c15 c16 c17 c18 c19 c20 c21 c22 c23, l = [c0, c1, c2, c3, c4, c5, c6, c7, c8, c9, c10, c11, c12, c13, c14, c15, c16, c17, c18, c19, c20, c21, c22, c23] := by
        match l, hl with
        | [c0, c1, c2, c3, c4, c5, c6, c7, c8, c9, c10, c11, c12, c13, c14, c15, c16, c17, c18, c19, c20, c21, c22, c23], _ => exact ⟨c0, c1, c2, c3, c4, c5, c6, c7, c8, c9, c10, c11, c12, c13, c14, c15, c16, c17, c18, c19, c20, c21, c22, c23, rfl⟩
      have e : List.range 24 = [0, 1, 2, 3, 4, 5, 6, 7, 8, 9, 10, 11, 12, 13, 14, 15, 16, 17, 18, 19, 20, 21, 22, 23] := rfl
      rw [e] at hd
      simp only [Option.map_eq_some_iff, List.mapM_cons, List.mapM_nil, Option.bind_eq_bind, Option.bind_eq_some_iff, Option.pure_def, Option.some.injEq] at hd
      obtain ⟨xs, ⟨y0, h0, _, ⟨y1, h1, _, ⟨y2, h2, _, ⟨y3, h3, _, ⟨y4, h4, _, ⟨y5, h5, _, ⟨y6, h6, _, ⟨y7, h7, _, ⟨y8, h8, _, ⟨y9, h9, _, ⟨y10, h10, _, ⟨y11, h11, _, ⟨y12, h12, _, ⟨y13, h13, _, ⟨y14, h14, _, ⟨y15, h15, _, ⟨y16, h16, _, ⟨y17, h17, _, ⟨y18, h18, _, ⟨y19, h19, _, ⟨y20, h20, _, ⟨y21, h21, _, ⟨y22, h22, _, ⟨y23, h23, _, rfl, rfl⟩, rfl⟩, rfl⟩, rfl⟩, rfl⟩, rfl⟩, rfl⟩, rfl⟩, rfl⟩, rfl⟩, rfl⟩, rfl⟩, rfl⟩, rfl⟩, rfl⟩, rfl⟩, rfl⟩, rfl⟩, rfl⟩, rfl⟩, rfl⟩, rfl⟩, rfl⟩, rfl⟩, hx⟩ := hd
      obtain ⟨n0, rfl, rfl⟩ := int_of_trod Tryd.underlying3 h0
      obtain ⟨n1, rfl, rfl⟩ := int_of_trod Tryd.underlying3 h1
      obtain ⟨n2, rfl, rfl⟩ := int_of_trod Tryd.underlying3 h2
      obtain ⟨n3, rfl, rfl⟩ := int_of_trod Tryd.underlying3 h3
      obtain ⟨n4, rfl, rfl⟩ := int_of_trod Tryd.underlying3 h4
      obtain ⟨n5, rfl, rfl⟩ := int_of_trod Tryd.underlying3 h5
      obtain ⟨n6, rfl, rfl⟩ := int_of_trod Tryd.underlying3 h6
      obtain ⟨n7, rfl, rfl⟩ := int_of_trod Tryd.underlying3 h7
      obtain ⟨n8, rfl, rfl⟩ := int_of_trod Tryd.underlying3 h8
      obtain ⟨n9, rfl, rfl⟩ := int_of_trod Tryd.underlying3 h9
      obtain ⟨n10, rfl, rfl⟩ := int_of_trod Tryd.underlying3 h10
      obtain ⟨n11, rfl, rfl⟩ := int_of_trod Tryd.underlying3 h11
      obtain ⟨n12, rfl, rfl⟩ := int_of_trod Tryd.underlying3 h12
      obtain ⟨n13, rfl, rfl⟩ := int_of_trod Tryd.underlying3 h13
      obtain ⟨n14, rfl, rfl⟩ := int_of_trod Tryd.underlying3 h14
      obtain ⟨n15, rfl, rfl⟩ := int_of_trod Tryd.underlying3 h15
      obtain ⟨n16, rfl, rfl⟩ := int_of_trod Tryd.underlying3 h16
      obtain ⟨n17, rfl, rfl⟩ := int_of_trod Tryd.underlying3 h17
      obtain ⟨n18, rfl, rfl⟩ := int_of_trod Tryd.underlying3 h18
      obtain ⟨n19, rfl, rfl⟩ := int_of_trod Tryd.underlying3 h19
      obtain ⟨n20, rfl, rfl⟩ := int_of_trod Tryd.underlying3 h20
      obtain ⟨n21, rfl, rfl⟩ := int_of_trod Tryd.underlying3 h21
      obtain ⟨n22, rfl, rfl⟩ := int_of_trod Tryd.underlying3 h22
      obtain ⟨n23, rfl, rfl⟩ := int_of_trod Tryd.underlying3 h23
      simp [Rows.laid_smartcard_ecc_places] at hx
      obtain ⟨⟨rfl, rfl, rfl, rfl, rfl, rfl, rfl, rfl, rfl, rfl, rfl, rfl, rfl, rfl, rfl, rfl, rfl, rfl, rfl, rfl, rfl, rfl, rfl, rfl⟩, _⟩ := hx
      rfl
    · cases hd
set_option maxRecDepth 100000 in
theorem gr_of {H : Type} {enc : TypeId × Value → H} {W : World} {cs : Array Value} {fuel : Nat} {p : List MemPlace} {base : Nat} {sp : Nat → Bool} {held : Bool} (hd : DataW.trod enc Tryd.prog W base sp held fuel 153 cs.toList = some (Rows.laid_smartcard_ecc_groups, p)) : cs = grA := by
  obtain ⟨l⟩ := cs
  cases fuel with
  | zero => simp [DataW.trod] at hd
  | succ fuel =>
    simp only [DataW.trod, Tryd.underlying153, frC46, frC22] at hd
    split at hd
    · rename_i hl
      obtain ⟨c0, c1, c2, c3, c4, c5, c6, c7, rfl⟩ : ∃ c0 c1 c2 c3 c4 c5 c6 c7, l = [c0, c1, c2, c3, c4, c5, c6, c7] := by
        match l, hl with
        | [c0, c1, c2, c3, c4, c5, c6, c7], _ => exact ⟨c0, c1, c2, c3, c4, c5, c6, c7, rfl⟩
      have e : List.range 8 = [0, 1, 2, 3, 4, 5, 6, 7] := rfl
      rw [e] at hd
      simp only [Option.map_eq_some_iff, List.mapM_cons, List.mapM_nil, Option.bind_eq_bind, Option.bind_eq_some_iff, Option.pure_def, Option.some.injEq] at hd
      obtain ⟨xs, ⟨y0, h0, _, ⟨y1, h1, _, ⟨y2, h2, _, ⟨y3, h3, _, ⟨y4, h4, _, ⟨y5, h5, _, ⟨y6, h6, _, ⟨y7, h7, _, rfl, rfl⟩, rfl⟩, rfl⟩, rfl⟩, rfl⟩, rfl⟩, rfl⟩, rfl⟩, hx⟩ := hd
      obtain ⟨n0, rfl, rfl⟩ := int_of_trod Tryd.underlying59 h0
      obtain ⟨n1, rfl, rfl⟩ := int_of_trod Tryd.underlying59 h1
      obtain ⟨n2, rfl, rfl⟩ := int_of_trod Tryd.underlying59 h2
      obtain ⟨n3, rfl, rfl⟩ := int_of_trod Tryd.underlying59 h3
      obtain ⟨n4, rfl, rfl⟩ := int_of_trod Tryd.underlying59 h4
      obtain ⟨n5, rfl, rfl⟩ := int_of_trod Tryd.underlying59 h5
      obtain ⟨n6, rfl, rfl⟩ := int_of_trod Tryd.underlying59 h6
      obtain ⟨n7, rfl, rfl⟩ := int_of_trod Tryd.underlying59 h7
      simp [Rows.laid_smartcard_ecc_groups] at hx
      obtain ⟨⟨rfl, rfl, rfl, rfl, rfl, rfl, rfl, rfl⟩, _⟩ := hx
      rfl
    · cases hd

theorem var_heap {P : Program} {w : World} {n : String} {g : Nat} {cs : Array Value} (hg : P.globalNamed n = some g) (h : w.var? P n = some cs) : ∃ t fr, w.heap[g]? = some (.cells cs t fr) := by
  unfold World.var? at h
  rw [hg] at h
  simp only [Option.bind_some] at h
  split at h
  · rename_i c t fr he
    cases h
    exact ⟨_, _, he⟩
  · cases h

theorem frTb {W : World} (h : laidMet Tryd.prog [("smartcard/ecc.places", Rows.laid_smartcard_ecc_places), ("smartcard/ecc.groups", Rows.laid_smartcard_ecc_groups)] W) : Tb W := by
  obtain ⟨ps, ⟨g, t, cs, fuel, p, q, hg, ht, hvar, hd, hq, _⟩, _⟩ := h
  obtain ⟨g2, t2, cs2, fuel2, p2, q2, hg2, ht2, hvar2, hd2, _, _⟩ := hq
  obtain rfl := Option.some.inj (frVar1.symm.trans hg)
  obtain rfl := Option.some.inj (frVarType1.symm.trans ht)
  obtain rfl := Option.some.inj (frVar0.symm.trans hg2)
  obtain rfl := Option.some.inj (frVarType0.symm.trans ht2)
  obtain rfl := pl_of hd
  obtain rfl := gr_of hd2
  exact ⟨var_heap frVar1 hvar, var_heap frVar0 hvar2⟩

def grPut : Obj → Obj
  | .cells _ t frozen => .cells grA t frozen
  | o => o
def plPut : Obj → Obj
  | .cells _ t frozen => .cells plA t frozen
  | o => o
/-- A world that meets the condition. -/
noncomputable def frWorld (os : Os) : World :=
  { World.holding Tryd.prog os ⟨#[], #[], []⟩ with heap := ((World.holding Tryd.prog os ⟨#[], #[], []⟩).heap.modify 0 grPut).modify 1 plPut }
theorem frWorld_met (os : Os) (args : Array Value) : laidMet Tryd.prog [("smartcard/ecc.places", Rows.laid_smartcard_ecc_places), ("smartcard/ecc.groups", Rows.laid_smartcard_ecc_groups)] ((frWorld os).forCall (fun _ _ => 0) ⟨#[], args, []⟩).memory :=
  laidMet_of_run' 8 (by kernel_rfl) (by kernel_rfl)

/-- What a row's opening tells of a slice of bytes, as a list of bytes. -/
theorem row_sl (w : World) (a : Option Addr) (len cap : Nat) (zs : List Int)
    (h : (a = none ∧ len = 0 ∧ cap = 0 ∧ zs = []) ∨ ∃ x, a = some x ∧ len ≤ cap ∧ cap ≤ maxLen ∧ zs.length = cap ∧ (∀ i, i < zs.length → w.cell? (x.add i) = some (.int .u8 (zs.getD i 0))) ∧ ∀ n ∈ zs, (Lit.int .u8 n).wf = true) :
    ∃ l : List UInt8, l.length = len ∧ SL w w.heap.size (.slice a len cap) l := by
  rcases h with ⟨rfl, rfl, rfl, rfl⟩ | ⟨x, rfl, h1, h2, h3, h4, h5⟩
  · exact ⟨[], rfl, SL.nil _ _ _ _ (Nat.zero_le _)⟩
  · have hlen : ((zs.take len).map fun n => UInt8.ofNat n.toNat).length = len := by simp; omega
    refine ⟨(zs.take len).map fun n => UInt8.ofNat n.toNat, hlen, some x, cap, by rw [hlen], by omega, h2, fun hp => ?_⟩
    rw [hlen] at hp
    obtain ⟨b, o, sp⟩ := x
    have h0 := h4 0 (by omega)
    have hsp : sp = none := World.cell?_spot (by simpa [Addr.add] using h0)
    subst hsp
    have hblk := World.block_lt_of_cell? w _ h0
    refine ⟨b, o, rfl, by simpa [Addr.add] using hblk, fun k hk => ?_⟩
    rw [hlen] at hk
    have hc := h4 k (by omega)
    rw [addr_add] at hc
    rw [hc]
    have hkz : k < zs.length := by omega
    have hwf := h5 zs[k] (List.getElem_mem hkz)
    have hb : 0 ≤ zs[k] ∧ zs[k] < 256 := by
      simp [Lit.wf, IntKind.min, IntKind.max, IntKind.signed, IntKind.bits] at hwf
      omega
    simp [List.getD, List.getElem?_map, List.getElem?_take, hk, List.getElem?_eq_getElem hkz]
    omega
theorem open_bytes {H : Type} {enc : TypeId × Value → H} {W : World} {fuel : Nat} {v : Value} {x : DataW H × List MemPlace}
    (h : DataW.trod enc Tryd.prog W 0 (fun _ => true) true fuel 39 [v] = some x) : ∃ l : List UInt8, SL W W.heap.size v l := by
  rcases open_ints Tryd.underlying39 Tryd.underlying5 frC5 h with ⟨hcs, _⟩ | ⟨x, l, c, zs, hcs, _, hl, hm, hz, hx, hcell, hwz⟩
  · simp only [List.cons.injEq, and_true] at hcs
    subst hcs
    exact ⟨[], SL.nil _ _ _ _ (Nat.zero_le _)⟩
  · simp only [List.cons.injEq, and_true] at hcs
    subst hcs
    simp only [if_true] at hz
    obtain ⟨m, hml, hms⟩ := row_sl W (some x) l c zs (.inr ⟨x, rfl, hl, hm, hz, hcell, hwz⟩)
    exact ⟨m, hms⟩
/-- .. of a slice of words. -/
theorem row_sw (w : World) (x : Addr) (len cap : Nat) (zs : List Int) (h1 : len ≤ cap) (h2 : cap ≤ maxLen) (h3 : zs.length = cap) (h4 : ∀ i, i < zs.length → w.cell? (x.add i) = some (.int .u32 (zs.getD i 0))) (h5 : ∀ n ∈ zs, (Lit.int .u32 n).wf = true) :
    ∃ l : List Nat, l.length = len ∧ SW w w.heap.size (.slice (some x) len cap) l ∧ ∀ n ∈ l, n < 4294967296 := by
  have hlen : ((zs.take len).map Int.toNat).length = len := by simp; omega
  have hall : ∀ n ∈ (zs.take len).map Int.toNat, n < 4294967296 := by
    intro n hn
    obtain ⟨z, hz, rfl⟩ := List.mem_map.1 hn
    have hwf := h5 z (List.mem_of_mem_take hz)
    simp [Lit.wf, IntKind.min, IntKind.max, IntKind.signed, IntKind.bits] at hwf
    omega
  refine ⟨(zs.take len).map Int.toNat, hlen, ⟨some x, cap, by rw [hlen], by omega, h2, fun hp => ?_⟩, hall⟩
  rw [hlen] at hp
  obtain ⟨b, o, sp⟩ := x
  have h0 := h4 0 (by omega)
  have hsp : sp = none := World.cell?_spot (by simpa [Addr.add] using h0)
  subst hsp
  have hblk := World.block_lt_of_cell? w _ h0
  refine ⟨b, o, rfl, by simpa [Addr.add] using hblk, fun k hk => ?_⟩
  rw [hlen] at hk
  have hc := h4 k (by omega)
  rw [addr_add] at hc
  rw [hc]
  have hkz : k < zs.length := by omega
  have hwf := h5 zs[k] (List.getElem_mem hkz)
  have hb : 0 ≤ zs[k] := by
    simp [Lit.wf, IntKind.min, IntKind.max, IntKind.signed, IntKind.bits] at hwf
    omega
  simp [List.getD, List.getElem?_map, List.getElem?_take, hk, List.getElem?_eq_getElem hkz]
  omega
theorem open_words {H : Type} {enc : TypeId × Value → H} {W : World} {fuel : Nat} {v : Value} {x : DataW H × List MemPlace}
    (h : DataW.trod enc Tryd.prog W 0 (fun _ => true) true fuel 57 [v] = some x) : ∃ l : List Nat, SW W W.heap.size v l ∧ ∀ n ∈ l, n < 4294967296 := by
  rcases open_ints Tryd.underlying57 Tryd.underlying59 frC22 h with ⟨hcs, _⟩ | ⟨x, l, c, zs, hcs, _, hl, hm, hz, hx, hcell, hwz⟩
  · simp only [List.cons.injEq, and_true] at hcs
    subst hcs
    exact ⟨[], SW.nil _ _ _ _ (Nat.zero_le _), by simp⟩
  · simp only [List.cons.injEq, and_true] at hcs
    subst hcs
    simp only [if_true] at hz
    obtain ⟨m, hml, hms, hma⟩ := row_sw W x l c zs hl hm hz hcell hwz
    exact ⟨m, hms, hma⟩
theorem bounds_i64 {n : Int} (h : (Lit.int .i64 n).wf = true) : -9223372036854775808 ≤ n ∧ n ≤ 9223372036854775807 := by
  simp [Lit.wf, IntKind.min, IntKind.max, IntKind.signed, IntKind.bits] at h
  omega
theorem bounds_u32 {n : Int} (h : (Lit.int .u32 n).wf = true) : 0 ≤ n ∧ n < 4294967296 := by
  simp [Lit.wf, IntKind.min, IntKind.max, IntKind.signed, IntKind.bits] at h
  omega
end Go.Proofs.YtiholfpcndjliaaDoor
