/-
  The table that the program's variable is laid with, as the walks read it; conditions, rules and statuses that came in.
-/
import Derived.Test.YtkjcafhaenkpbaaDoorRows
import Derived.Test.YtkjcafhaenkpbaaDoorCards
import Derived.Test.YtkjcafhaenkpbaaDoorTie
import Derived.Test.YtkjcafhaenkpbaaDoorFle
import Derived.WalkKit
import Derived.ProofKit
import Derived.OpenShut
import Derived.ShutString
import Derived.ChangeOld
import Derived.ChangeVars
import Derived.ChangeSame
import Derived.Below
import Derived.LaidLaws
import Derived.JoinedOf
import Derived.SevenTiedAt
import Derived.Deep.Slices
import Derived.Deep.Strs
namespace Go.Proofs.YtkjcafhaenkpbaaDoor
set_option linter.unusedVariables false
set_option linter.unusedSimpArgs false
open Go.ChangeShapes Go.WideShapes Go.ChangeAt Go.RowKit Go.Deep

theorem frOwn : ownKnob Tryd.prog.godebug = none := by kernel_rfl
theorem frLaidOut : laidOutB Tryd.prog = true := by kernel_rfl
theorem frVar0 : Tryd.prog.globalNamed "smartcard/access.kinds" = some 0 := by kernel_rfl
theorem frVarType0 : (Tryd.prog.globals[0]?).map (·.type) = some 129 := by kernel_rfl
theorem frC129 : Tryd.prog.cellsOf 129 = 40 := by kernel_rfl
theorem frC128 : Tryd.prog.cellsOf 128 = 5 := by kernel_rfl
theorem frC9 : Tryd.prog.cellsOf 9 = 1 := by kernel_rfl
theorem frC4 : Tryd.prog.cellsOf 4 = 1 := by kernel_rfl
theorem frC3 : Tryd.prog.cellsOf 3 = 1 := by kernel_rfl
theorem frC5 : Tryd.prog.cellsOf 5 = 1 := by kernel_rfl

def Kd.dat {H : Type} (x : Kd) : DataW H := .agg [.lit (.string x.nm.data.toList), .lit (.bool x.kd), .lit (.int .i64 x.lo), .lit (.int .i64 x.hi), .lit (.int .i64 x.bs)]
set_option maxRecDepth 100000 in
theorem kd_of {H : Type} {enc : TypeId × Value → H} {W : World} {fuel : Nat} {cs : List Value} {y : DataW H × List MemPlace} {base : Nat} {sp : Nat → Bool} {held : Bool} (h : DataW.trod enc Tryd.prog W base sp held fuel 128 cs = some y) :
    ∃ x : Kd, cs = x.row ∧ y.1 = x.dat := by
  obtain ⟨xs, n, _, hy, hl, hlen, hf⟩ := DataW.trod_struct Tryd.underlying128 h
  rw [frC128] at hl
  match cs, hl with
  | [v0, v1, v2, v3, v4], _ =>
    match xs, hlen with
    | [y0, y1, y2, y3, y4], _ =>
      have q0 := hf 0 _ rfl
      have q1 := hf 1 _ rfl
      have q2 := hf 2 _ rfl
      have q3 := hf 3 _ rfl
      have q4 := hf 4 _ rfl
      simp [frC3, frC4, frC9] at q0 q1 q2 q3 q4
      obtain ⟨n0, e0, z0, _⟩ := DataW.trod_string Tryd.underlying9 q0
      obtain ⟨n1, e1, z1⟩ := DataW.trod_bool Tryd.underlying4 q1
      obtain ⟨n2, e2, z2, _⟩ := DataW.trod_int Tryd.underlying3 q2
      obtain ⟨n3, e3, z3, _⟩ := DataW.trod_int Tryd.underlying3 q3
      obtain ⟨n4, e4, z4, _⟩ := DataW.trod_int Tryd.underlying3 q4
      simp only [List.cons.injEq, and_true] at e0 e1 e2 e3 e4
      subst e0 e1 e2 e3 e4 z0 z1 z2 z3 z4 hy
      exact ⟨⟨n0, n1, n2, n3, n4⟩, rfl, rfl⟩
theorem kd_is {H : Type} (x : Kd) (k : Nat) (h : (x.dat : DataW H) = (kindOf k).dat) : x = kindOf k := by
  obtain ⟨nm, kd, lo, hi, bs⟩ := x
  generalize kindOf k = z at *
  obtain ⟨nm', kd', lo', hi', bs'⟩ := z
  simp only [Kd.dat, DataW.agg.injEq, List.cons.injEq, DataW.lit.injEq, Lit.string.injEq, Lit.bool.injEq, Lit.int.injEq, and_true, true_and] at h
  obtain ⟨h1, rfl, rfl, rfl, rfl⟩ := h
  have : nm = nm' := by
    apply ByteArray.ext
    apply Array.ext'
    exact h1
  subst this
  rfl
theorem chunks (cs : List Value) (h : cs.length = 40) : cs = (cs.drop 0).take 5 ++ (cs.drop 5).take 5 ++ (cs.drop 10).take 5 ++ (cs.drop 15).take 5 ++ (cs.drop 20).take 5 ++ (cs.drop 25).take 5 ++ (cs.drop 30).take 5 ++ (cs.drop 35).take 5 := by
  have step : ∀ k, (cs.drop k).take 5 ++ cs.drop (k + 5) = cs.drop k := fun k => by
    have := List.take_append_drop 5 (cs.drop k)
    rw [List.drop_drop] at this
    exact this
  have e40 : cs.drop (35 + 5) = [] := List.drop_eq_nil_of_le (by omega)
  have s35 := step 35
  rw [e40, List.append_nil] at s35
  simp only [List.append_assoc]
  rw [s35, show (35 : Nat) = 30 + 5 from rfl, step 30, show (30 : Nat) = 25 + 5 from rfl, step 25, show (25 : Nat) = 20 + 5 from rfl, step 20, show (20 : Nat) = 15 + 5 from rfl, step 15, show (15 : Nat) = 10 + 5 from rfl, step 10, show (10 : Nat) = 5 + 5 from rfl, step 5, show (5 : Nat) = 0 + 5 from rfl, step 0]
  rfl
set_option maxRecDepth 100000 in
theorem ki_of {H : Type} {enc : TypeId × Value → H} {W : World} {cs : Array Value} {fuel : Nat} {p : List MemPlace} {base : Nat} {sp : Nat → Bool} {held : Bool} (hd : DataW.trod enc Tryd.prog W base sp held fuel 129 cs.toList = some (Rows.laid_smartcard_access_kinds, p)) : cs = kiA := by
  obtain ⟨l⟩ := cs
  obtain ⟨xs, m, _, hx, hl, hlen, hf⟩ := DataW.trod_array Tryd.underlying129 hd
  rw [frC129] at hl
  match xs, hlen with
  | [y0, y1, y2, y3, y4, y5, y6, y7], _ =>
    simp only [frC128] at hf
    have hl' : (Rows.laid_smartcard_access_kinds : DataW H) = .agg [y0.1, y1.1, y2.1, y3.1, y4.1, y5.1, y6.1, y7.1] := congrArg Prod.fst hx
    have hk : (Rows.laid_smartcard_access_kinds : DataW H) = .agg [(kindOf 0).dat, (kindOf 1).dat, (kindOf 2).dat, (kindOf 3).dat, (kindOf 4).dat, (kindOf 5).dat, (kindOf 6).dat, (kindOf 7).dat] := rfl
    rw [hk] at hl'
    simp only [DataW.agg.injEq, List.cons.injEq, and_true] at hl'
    obtain ⟨d0, d1, d2, d3, d4, d5, d6, d7⟩ := hl'
    obtain ⟨x0, r0, z0⟩ := kd_of ((hf 0 (by omega)).trans rfl)
    obtain rfl := kd_is x0 0 (z0.symm.trans d0.symm)
    obtain ⟨x1, r1, z1⟩ := kd_of ((hf 1 (by omega)).trans rfl)
    obtain rfl := kd_is x1 1 (z1.symm.trans d1.symm)
    obtain ⟨x2, r2, z2⟩ := kd_of ((hf 2 (by omega)).trans rfl)
    obtain rfl := kd_is x2 2 (z2.symm.trans d2.symm)
    obtain ⟨x3, r3, z3⟩ := kd_of ((hf 3 (by omega)).trans rfl)
    obtain rfl := kd_is x3 3 (z3.symm.trans d3.symm)
    obtain ⟨x4, r4, z4⟩ := kd_of ((hf 4 (by omega)).trans rfl)
    obtain rfl := kd_is x4 4 (z4.symm.trans d4.symm)
    obtain ⟨x5, r5, z5⟩ := kd_of ((hf 5 (by omega)).trans rfl)
    obtain rfl := kd_is x5 5 (z5.symm.trans d5.symm)
    obtain ⟨x6, r6, z6⟩ := kd_of ((hf 6 (by omega)).trans rfl)
    obtain rfl := kd_is x6 6 (z6.symm.trans d6.symm)
    obtain ⟨x7, r7, z7⟩ := kd_of ((hf 7 (by omega)).trans rfl)
    obtain rfl := kd_is x7 7 (z7.symm.trans d7.symm)
    have hc := chunks l hl
    have e : l = (kindOf 0).row ++ (kindOf 1).row ++ (kindOf 2).row ++ (kindOf 3).row ++ (kindOf 4).row ++ (kindOf 5).row ++ (kindOf 6).row ++ (kindOf 7).row := by
      rw [← r0, ← r1, ← r2, ← r3, ← r4, ← r5, ← r6, ← r7]
      exact hc
    show (Array.mk l) = _
    rw [e]
    rfl

theorem var_heap {P : Program} {w : World} {n : String} {g : Nat} {cs : Array Value} (hg : P.globalNamed n = some g) (h : w.var? P n = some cs) : ∃ t fr, w.heap[g]? = some (.cells cs t fr) := by
  unfold World.var? at h
  rw [hg] at h
  simp only [Option.bind_some] at h
  split at h
  · rename_i c t fr he
    cases h
    exact ⟨_, _, he⟩
  · cases h
theorem frTb {W : World} (h : laidMet Tryd.prog [("smartcard/access.kinds", Rows.laid_smartcard_access_kinds)] W) : Tb W := by
  obtain ⟨ps, ⟨g2, t2, cs2, fuel2, p2, q2, hg2, ht2, hvar2, hd2, _, _⟩, _⟩ := h
  obtain rfl := Option.some.inj (frVar0.symm.trans hg2)
  obtain rfl := Option.some.inj (frVarType0.symm.trans ht2)
  obtain rfl := ki_of hd2
  exact var_heap frVar0 hvar2

def frPut (a : Array Value) : Obj → Obj
  | .cells _ t frozen => .cells a t frozen
  | o => o
/-- A world that meets the condition. -/
noncomputable def frWorld (os : Os) : World :=
  { World.holding Tryd.prog os ⟨#[], #[], []⟩ with heap := (World.holding Tryd.prog os ⟨#[], #[], []⟩).heap.modify 0 (frPut kiA) }
theorem frWorld_met (os : Os) (args : Array Value) : laidMet Tryd.prog [("smartcard/access.kinds", Rows.laid_smartcard_access_kinds)] ((frWorld os).forCall (fun _ _ => 0) ⟨#[], args, []⟩).memory :=
  laidMet_of_run' 8 (by kernel_rfl) (by kernel_rfl)
end Go.Proofs.YtkjcafhaenkpbaaDoor
