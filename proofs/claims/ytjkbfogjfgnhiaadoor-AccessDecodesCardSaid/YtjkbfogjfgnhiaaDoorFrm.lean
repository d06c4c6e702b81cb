/-
  The table that the program's variable is laid with, as the walks read it; conditions, rules and statuses that came in.
-/
import Derived.Test.YtjkbfogjfgnhiaaDoorRows
import Derived.Test.YtjkbfogjfgnhiaaDoorCards
import Derived.Test.YtjkbfogjfgnhiaaDoorTie
import Derived.Test.YtjkbfogjfgnhiaaDoorWks
import Derived.WalkKit
import Derived.ProofKit
import Derived.OpenShut
import Derived.ShutString
import Derived.ChangeOld
import Derived.ChangeVars
import Derived.ChangeSame
import Derived.Below
import Derived.LaidLaws
import Derived.JoinedOf
import Derived.SevenTiedAt
import Derived.Deep.Slices
import Derived.Deep.Strs
namespace Go.Proofs.YtjkbfogjfgnhiaaDoor
set_option linter.unusedVariables false
set_option linter.unusedSimpArgs false
open Go.ChangeShapes Go.WideShapes Go.ChangeAt Go.RowKit Go.Deep

theorem frOwn : ownKnob Tryd.prog.godebug = none := by kernel_rfl
theorem frLaidOut : laidOutB Tryd.prog = true := by kernel_rfl
theorem frVar0 : Tryd.prog.globalNamed "smartcard/access.kinds" = some 0 := by kernel_rfl
theorem frVarType0 : (Tryd.prog.globals[0]?).map (·.type) = some 94 := by kernel_rfl
theorem frC94 : Tryd.prog.cellsOf 94 = 40 := by kernel_rfl
theorem frC93 : Tryd.prog.cellsOf 93 = 5 := by kernel_rfl
theorem frC53 : Tryd.prog.cellsOf 53 = 4 := by kernel_rfl
theorem frC31 : Tryd.prog.cellsOf 31 = 4 := by kernel_rfl
theorem frC24 : Tryd.prog.cellsOf 24 = 3 := by kernel_rfl
theorem frC22 : Tryd.prog.cellsOf 22 = 1 := by kernel_rfl
theorem frC9 : Tryd.prog.cellsOf 9 = 1 := by kernel_rfl
theorem frC4 : Tryd.prog.cellsOf 4 = 1 := by kernel_rfl
theorem frC3 : Tryd.prog.cellsOf 3 = 1 := by kernel_rfl
theorem frC5 : Tryd.prog.cellsOf 5 = 1 := by kernel_rfl

def Kd.dat {H : Type} (x : Kd) : DataW H := .agg [.lit (.string x.nm.data.toList), .lit (.bool x.kd), .lit (.int .i64 x.lo), .lit (.int .i64 x.hi), .lit (.int .i64 x.bs)]
set_option maxRecDepth 100000 in
theorem kd_of {H : Type} {enc : TypeId × Value → H} {W : World} {fuel : Nat} {cs : List Value} {y : DataW H × List MemPlace} {base : Nat} {sp : Nat → Bool} {held : Bool} (h : DataW.trod enc Tryd.prog W base sp held fuel 93 cs = some y) :
    ∃ x : Kd, cs = x.row ∧ y.1 = x.dat := by
  obtain ⟨xs, n, _, hy, hl, hlen, hf⟩ := DataW.trod_struct Tryd.underlying93 h
  rw [frC93] at hl
  match cs, hl with
  | [v0, v1, v2, v3, v4], _ =>
    match xs, hlen with
    | [y0, y1, y2, y3, y4], _ =>
      have q0 := hf 0 _ rfl
      have q1 := hf 1 _ rfl
      have q2 := hf 2 _ rfl
      have q3 := hf 3 _ rfl
      have q4 := hf 4 _ rfl
      simp [frC3, frC4, frC9] at q0 q1 q2 q3 q4
      obtain ⟨n0, e0, z0, _⟩ := DataW.trod_string Tryd.underlying9 q0
      obtain ⟨n1, e1, z1⟩ := DataW.trod_bool Tryd.underlying4 q1
      obtain ⟨n2, e2, z2, _⟩ := DataW.trod_int Tryd.underlying3 q2
      obtain ⟨n3, e3, z3, _⟩ := DataW.trod_int Tryd.underlying3 q3
      obtain ⟨n4, e4, z4, _⟩ := DataW.trod_int Tryd.underlying3 q4
      simp only [List.cons.injEq, and_true] at e0 e1 e2 e3 e4
      subst e0 e1 e2 e3 e4 z0 z1 z2 z3 z4 hy
      exact ⟨⟨n0, n1, n2, n3, n4⟩, rfl, rfl⟩
theorem kd_is {H : Type} (x : Kd) (k : Nat) (h : (x.dat : DataW H) = (kindOf k).dat) : x = kindOf k := by
  obtain ⟨nm, kd, lo, hi, bs⟩ := x
  generalize kindOf k = z at *
  obtain ⟨nm', kd', lo', hi', bs'⟩ := z
  simp only [Kd.dat, DataW.agg.injEq, List.cons.injEq, DataW.lit.injEq, Lit.string.injEq, Lit.bool.injEq, Lit.int.injEq, and_true, true_and] at h
  obtain ⟨h1, rfl, rfl, rfl, rfl⟩ := h
  have : nm = nm' := by
    apply ByteArray.ext
    apply Array.ext'
    exact h1
  subst this
  rfl
theorem chunks (cs : List Value) (h : cs.length = 40) : cs = (cs.drop 0).take 5 ++ (cs.drop 5).take 5 ++ (cs.drop 10).take 5 ++ (cs.drop 15).take 5 ++ (cs.drop 20).take 5 ++ (cs.drop 25).take 5 ++ (cs.drop 30).take 5 ++ (cs.drop 35).take 5 := by
  have step : ∀ k, (cs.drop k).take 5 ++ cs.drop (k + 5) = cs.drop k := fun k => by
    have := List.take_append_drop 5 (cs.drop k)
    rw [List.drop_drop] at this
    exact this
  have e40 : cs.drop (35 + 5) = [] := List.drop_eq_nil_of_le (by omega)
  have s35 := step 35
  rw [e40, List.append_nil] at s35
  simp only [List.append_assoc]
  rw [s35, show (35 : Nat) = 30 + 5 from rfl, step 30, show (30 : Nat) = 25 + 5 from rfl, step 25, show (25 : Nat) = 20 + 5 from rfl, step 20, show (20 : Nat) = 15 + 5 from rfl, step 15, show (15 : Nat) = 10 + 5 from rfl, step 10, show (10 : Nat) = 5 + 5 from rfl, step 5, show (5 : Nat) = 0 + 5 from rfl, step 0]
  rfl
set_option maxRecDepth 100000 in
theorem ki_of {H : Type} {enc : TypeId × Value → H} {W : World} {cs : Array Value} {fuel : Nat} {p : List MemPlace} {base : Nat} {sp : Nat → Bool} {held : Bool} (hd : DataW.trod enc Tryd.prog W base sp held fuel 94 cs.toList = some (Rows.laid_smartcard_access_kinds, p)) : cs = kiA := by
  obtain ⟨l⟩ := cs
  obtain ⟨xs, m, _, hx, hl, hlen, hf⟩ := DataW.trod_array Tryd.underlying94 hd
  rw [frC94] at hl
  match xs, hlen with
  | [y0, y1, y2, y3, y4, y5, y6, y7], _ =>
    simp only [frC93] at hf
    have hl' : (Rows.laid_smartcard_access_kinds : DataW H) = .agg [y0.1, y1.1, y2.1, y3.1, y4.1, y5.1, y6.1, y7.1] := congrArg Prod.fst hx
    have hk : (Rows.laid_smartcard_access_kinds : DataW H) = .agg [(kindOf 0).dat, (kindOf 1).dat, (kindOf 2).dat, (kindOf 3).dat, (kindOf 4).dat, (kindOf 5).dat, (kindOf 6).dat, (kindOf 7).dat] := rfl
    rw [hk] at hl'
    simp only [DataW.agg.injEq, List.cons.injEq, and_true] at hl'
    obtain ⟨d0, d1, d2, d3, d4, d5, d6, d7⟩ := hl'
    obtain ⟨x0, r0, z0⟩ := kd_of ((hf 0 (by omega)).trans rfl)
    obtain rfl := kd_is x0 0 (z0.symm.trans d0.symm)
    obtain ⟨x1, r1, z1⟩ := kd_of ((hf 1 (by omega)).trans rfl)
    obtain rfl := kd_is x1 1 (z1.symm.trans d1.symm)
    obtain ⟨x2, r2, z2⟩ := kd_of ((hf 2 (by omega)).trans rfl)
    obtain rfl := kd_is x2 2 (z2.symm.trans d2.symm)
    obtain ⟨x3, r3, z3⟩ := kd_of ((hf 3 (by omega)).trans rfl)
    obtain rfl := kd_is x3 3 (z3.symm.trans d3.symm)
    obtain ⟨x4, r4, z4⟩ := kd_of ((hf 4 (by omega)).trans rfl)
    obtain rfl := kd_is x4 4 (z4.symm.trans d4.symm)
    obtain ⟨x5, r5, z5⟩ := kd_of ((hf 5 (by omega)).trans rfl)
    obtain rfl := kd_is x5 5 (z5.symm.trans d5.symm)
    obtain ⟨x6, r6, z6⟩ := kd_of ((hf 6 (by omega)).trans rfl)
    obtain rfl := kd_is x6 6 (z6.symm.trans d6.symm)
    obtain ⟨x7, r7, z7⟩ := kd_of ((hf 7 (by omega)).trans rfl)
    obtain rfl := kd_is x7 7 (z7.symm.trans d7.symm)
    have hc := chunks l hl
    have e : l = (kindOf 0).row ++ (kindOf 1).row ++ (kindOf 2).row ++ (kindOf 3).row ++ (kindOf 4).row ++ (kindOf 5).row ++ (kindOf 6).row ++ (kindOf 7).row := by
      rw [← r0, ← r1, ← r2, ← r3, ← r4, ← r5, ← r6, ← r7]
      exact hc
    show (Array.mk l) = _
    rw [e]
    rfl

theorem var_heap {P : Program} {w : World} {n : String} {g : Nat} {cs : Array Value} (hg : P.globalNamed n = some g) (h : w.var? P n = some cs) : ∃ t fr, w.heap[g]? = some (.cells cs t fr) := by
  unfold World.var? at h
  rw [hg] at h
  simp only [Option.bind_some] at h
  split at h
  · rename_i c t fr he
    cases h
    exact ⟨_, _, he⟩
  · cases h
theorem frTb {W : World} (h : laidMet Tryd.prog [("math/bits.deBruijn32tab", Rows.laid_math_bits_deBruijn32tab), ("math/bits.deBruijn64tab", Rows.laid_math_bits_deBruijn64tab), ("internal/strconv.uint64pow10", Rows.laid_internal_strconv_uint64pow10), ("smartcard/access.kinds", Rows.laid_smartcard_access_kinds)] W) : Tb W := by
  obtain ⟨ps, ⟨_, _, _, _, _, _, _, _, _, _, h2, _⟩, _⟩ := h
  obtain ⟨_, _, _, _, _, _, _, _, _, _, h3, _⟩ := h2
  obtain ⟨_, _, _, _, _, _, _, _, _, _, h4, _⟩ := h3
  obtain ⟨g2, t2, cs2, fuel2, p2, q2, hg2, ht2, hvar2, hd2, _, _⟩ := h4
  obtain rfl := Option.some.inj (frVar0.symm.trans hg2)
  obtain rfl := Option.some.inj (frVarType0.symm.trans ht2)
  obtain rfl := ki_of hd2
  exact var_heap frVar0 hvar2

def frA32 : Array Value := #[.int .u8 0, .int .u8 1, .int .u8 28, .int .u8 2, .int .u8 29, .int .u8 14, .int .u8 24, .int .u8 3, .int .u8 30, .int .u8 22, .int .u8 20, .int .u8 15, .int .u8 25, .int .u8 17, .int .u8 4, .int .u8 8, .int .u8 31, .int .u8 27, .int .u8 13, .int .u8 23, .int .u8 21, .int .u8 19, .int .u8 16, .int .u8 7, .int .u8 26, .int .u8 12, .int .u8 18, .int .u8 6, .int .u8 11, .int .u8 5, .int .u8 10, .int .u8 9]
def frA64 : Array Value := #[.int .u8 0, .int .u8 1, .int .u8 56, .int .u8 2, .int .u8 57, .int .u8 49, .int .u8 28, .int .u8 3, .int .u8 61, .int .u8 58, .int .u8 42, .int .u8 50, .int .u8 38, .int .u8 29, .int .u8 17, .int .u8 4, .int .u8 62, .int .u8 47, .int .u8 59, .int .u8 36, .int .u8 45, .int .u8 43, .int .u8 51, .int .u8 22, .int .u8 53, .int .u8 39, .int .u8 33, .int .u8 30, .int .u8 24, .int .u8 18, .int .u8 12, .int .u8 5, .int .u8 63, .int .u8 55, .int .u8 48, .int .u8 27, .int .u8 60, .int .u8 41, .int .u8 37, .int .u8 16, .int .u8 46, .int .u8 35, .int .u8 44, .int .u8 21, .int .u8 52, .int .u8 32, .int .u8 23, .int .u8 11, .int .u8 54, .int .u8 26, .int .u8 40, .int .u8 15, .int .u8 34, .int .u8 20, .int .u8 31, .int .u8 10, .int .u8 25, .int .u8 14, .int .u8 19, .int .u8 9, .int .u8 13, .int .u8 8, .int .u8 7, .int .u8 6]
def frA10 : Array Value := #[.int .u64 1, .int .u64 10, .int .u64 100, .int .u64 1000, .int .u64 10000, .int .u64 100000, .int .u64 1000000, .int .u64 10000000, .int .u64 100000000, .int .u64 1000000000, .int .u64 10000000000, .int .u64 100000000000, .int .u64 1000000000000, .int .u64 10000000000000, .int .u64 100000000000000, .int .u64 1000000000000000, .int .u64 10000000000000000, .int .u64 100000000000000000, .int .u64 1000000000000000000, .int .u64 10000000000000000000]
def frPut (a : Array Value) : Obj → Obj
  | .cells _ t frozen => .cells a t frozen
  | o => o
/-- A world that meets the condition. -/
noncomputable def frWorld (os : Os) : World :=
  { World.holding Tryd.prog os ⟨#[], #[], []⟩ with heap := ((((World.holding Tryd.prog os ⟨#[], #[], []⟩).heap.modify 0 (frPut kiA)).modify 2 (frPut frA10)).modify 3 (frPut frA32)).modify 4 (frPut frA64) }
theorem frWorld_met (os : Os) (args : Array Value) : laidMet Tryd.prog [("math/bits.deBruijn32tab", Rows.laid_math_bits_deBruijn32tab), ("math/bits.deBruijn64tab", Rows.laid_math_bits_deBruijn64tab), ("internal/strconv.uint64pow10", Rows.laid_internal_strconv_uint64pow10), ("smartcard/access.kinds", Rows.laid_smartcard_access_kinds)] ((frWorld os).forCall (fun _ _ => 0) ⟨#[], args, []⟩).memory :=
  laidMet_of_run' 8 (by kernel_rfl) (by kernel_rfl)
end Go.Proofs.YtjkbfogjfgnhiaaDoor
