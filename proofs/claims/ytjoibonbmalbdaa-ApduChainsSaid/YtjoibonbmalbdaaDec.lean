/-
  The walk of the program's Decode.
-/
import Derived.Test.YtjoibonbmalbdaaBod
import Derived.Test.YtjoibonbmalbdaaCls
import Derived.Deep.RegionHeld3
namespace Go.Proofs.Ytjoibonbmalbdaa
set_option linter.unusedVariables false
set_option linter.unusedSimpArgs false
open Go.RowKit

def zeroC : Cm := ⟨0, 0, 0, 0, [], 0, false⟩
def longB (l : List UInt8) : Bool := decide (5 < l.length) && (l.getD 4 0 == 0)
def restL (l : List UInt8) : List UInt8 := if longB l = true then l.drop 5 else l.drop 4
def readC (l : List UInt8) : Cm := ⟨(l.getD 0 0).toNat, (l.getD 1 0).toNat, (l.getD 2 0).toNat, (l.getD 3 0).toNat, (bodyL (widN (longB l)) (restL l)).1, (bodyL (widN (longB l)) (restL l)).2.1, longB l⟩
/-- What Decode answers. -/
def decE (l : List UInt8) : Int := if l.length < 4 then 5 else if (bodyL (widN (longB l)) (restL l)).2.2 ≠ 0 then (bodyL (widN (longB l)) (restL l)).2.2 else chkC (readC l)
def decV (l : List UInt8) : Cm := if decE l = 0 then readC l else zeroC
def DecR (l : List UInt8) (w : World) (e : Ending) (w' : World) : Prop :=
  ∃ d, e = .returned (.tuple #[(decV l).val d, .int .i64 (decE l)]) ∧ SL w' w'.heap.size d (decV l).data ∧ Below w.heap.size w w'

theorem row7_set (w : World) (g : Nat) (ty : TypeId) (a0 a1 a2 a3 a4 a5 a6 x0 x1 x2 x3 x4 x5 x6 : Value) (hg : w.heap[g]? = some (.cells #[a0, a1, a2, a3, a4, a5, a6] ty (0, 0))) :
    (((((((w.setCell ⟨g, 0, none⟩ x0).setCell ⟨g, 1, none⟩ x1).setCell ⟨g, 2, none⟩ x2).setCell ⟨g, 3, none⟩ x3).setCell ⟨g, 4, none⟩ x4).setCell ⟨g, 5, none⟩ x5).setCell ⟨g, 6, none⟩ x6).heap[g]? = some (.cells #[x0, x1, x2, x3, x4, x5, x6] ty (0, 0)) := by
  have h0 := heap_setCell_same w g 0 _ ty x0 hg
  have h1 := heap_setCell_same _ g 1 _ ty x1 h0
  have h2 := heap_setCell_same _ g 2 _ ty x2 h1
  have h3 := heap_setCell_same _ g 3 _ ty x3 h2
  have h4 := heap_setCell_same _ g 4 _ ty x4 h3
  have h5 := heap_setCell_same _ g 5 _ ty x5 h4
  have h6 := heap_setCell_same _ g 6 _ ty x6 h5
  rw [h6]
  simp

set_option maxRecDepth 100000 in
theorem pdec_few (l : List UInt8) (v : Value) (w : World) (h : SL w w.heap.size v l) (h4 : l.length < 4) : Calls Try.prog 19 #[v] w (DecR l w) := by
  have HE : Hid (decE l = 5) := by show _ = _; rw [decE, if_pos h4]
  have HV : Hid (decV l = zeroC) := by show _ = _; rw [decV, HE.out, if_neg (by decide)]
  obtain ⟨A, c, rfl, k1, k2, k3⟩ := h
  go_enter Try.func19, Try.ntmps19
  go_wp2_with fail
  refine bodyPost_ret (results_cell2 rfl _ _ w.heap.size 24 _ (0, 0) _ rfl (heap_alloc_new w _) Try.underlying24 rfl (by kernel_rfl)) rfl ⟨.slice none 0 0, by rw [HE.out, HV.out]; rfl, by rw [HV.out]; exact SL.nil _ _ _ _ (Nat.zero_le _), alloc_below _ _⟩

/-- The two blocks of Decode: its result and its command. -/
def DW (w : World) (x0 x1 x2 x3 : UInt8) (long : Bool) : World :=
  ((w.alloc (.cells #[.int .i64 0, .int .i64 0, .int .i64 0, .int .i64 0, .slice none 0 0, .int .i64 0, .bool false] 24)).alloc (.cells #[.int .i64 (x0.toNat : Int), .int .i64 (x1.toNat : Int), .int .i64 (x2.toNat : Int), .int .i64 (x3.toNat : Int), .slice none 0 0, .int .i64 0, .bool long] 24)).drew
theorem DW_size (w : World) (x0 x1 x2 x3 : UInt8) (long : Bool) : (DW w x0 x1 x2 x3 long).heap.size = w.heap.size + 2 := by
  show ((w.alloc _).alloc _).heap.size = _
  rw [alloc_size, alloc_size]
theorem DW_below (w : World) (x0 x1 x2 x3 : UInt8) (long : Bool) : Below w.heap.size w (DW w x0 x1 x2 x3 long) :=
  ((alloc_below w _).alloc (by rw [alloc_size]; omega) _).drew
theorem DW_zero (w : World) (x0 x1 x2 x3 : UInt8) (long : Bool) : (DW w x0 x1 x2 x3 long).heap[w.heap.size]? = some (.cells #[.int .i64 0, .int .i64 0, .int .i64 0, .int .i64 0, .slice none 0 0, .int .i64 0, .bool false] 24 (0, 0)) :=
  heap_alloc2_old w _ _
theorem DW_row (w : World) (x0 x1 x2 x3 : UInt8) (long : Bool) : (DW w x0 x1 x2 x3 long).heap[w.heap.size + 1]? = some (.cells #[.int .i64 (x0.toNat : Int), .int .i64 (x1.toNat : Int), .int .i64 (x2.toNat : Int), .int .i64 (x3.toNat : Int), .slice none 0 0, .int .i64 0, .bool long] 24 (0, 0)) := by
  have := heap_alloc_new (w.alloc (.cells #[.int .i64 0, .int .i64 0, .int .i64 0, .int .i64 0, .slice none 0 0, .int .i64 0, .bool false] 24)) (.cells #[.int .i64 (x0.toNat : Int), .int .i64 (x1.toNat : Int), .int .i64 (x2.toNat : Int), .int .i64 (x3.toNat : Int), .slice none 0 0, .int .i64 0, .bool long] 24)
  rw [alloc_size] at this
  exact this
theorem below7 {w w' : World} (h : Below w.heap.size w w') (x0 x1 x2 x3 x4 x5 x6 : Value) :
    Below w.heap.size w (((((((w'.setCell ⟨w.heap.size, 0, none⟩ x0).setCell ⟨w.heap.size, 1, none⟩ x1).setCell ⟨w.heap.size, 2, none⟩ x2).setCell ⟨w.heap.size, 3, none⟩ x3).setCell ⟨w.heap.size, 4, none⟩ x4).setCell ⟨w.heap.size, 5, none⟩ x5).setCell ⟨w.heap.size, 6, none⟩ x6) :=
  ((((((h.setCell (p := ⟨w.heap.size, 0, none⟩) (Nat.le_refl _) _).setCell (p := ⟨w.heap.size, 1, none⟩) (Nat.le_refl _) _).setCell (p := ⟨w.heap.size, 2, none⟩) (Nat.le_refl _) _).setCell (p := ⟨w.heap.size, 3, none⟩) (Nat.le_refl _) _).setCell (p := ⟨w.heap.size, 4, none⟩) (Nat.le_refl _) _).setCell (p := ⟨w.heap.size, 5, none⟩) (Nat.le_refl _) _).setCell (p := ⟨w.heap.size, 6, none⟩) (Nat.le_refl _) _
theorem setRow45 (w : World) (g : Nat) (a0 a1 a2 a3 a4 a5 a6 x y : Value) (h : w.heap[g]? = some (.cells #[a0, a1, a2, a3, a4, a5, a6] 24 (0, 0))) :
    ((w.setCell ⟨g, 4, none⟩ x).setCell ⟨g, 5, none⟩ y).heap[g]? = some (.cells #[a0, a1, a2, a3, x, y, a6] 24 (0, 0)) := by
  have h0 := heap_setCell_same w g 4 _ 24 x h
  have h1 := heap_setCell_same _ g 5 _ 24 y h0
  rw [h1]
  simp
theorem sl_kept {w w' : World} {B : Nat} {v : Value} {l : List UInt8} (h : SL w B v l) (hk : ∀ p : Addr, p.block < B → w'.cell? p = w.cell? p) : SL w' B v l := h.keep hk
theorem bodyL_ok (W : Nat) (l : List UInt8) (h : l.length ≤ 80000) : -9223372036854775808 ≤ (bodyL W l).2.1 ∧ (bodyL W l).2.1 ≤ 9223372036854775807 ∨ W > 2 := by
  by_cases hW : W ≤ 2
  · left
    have hle : ∀ m : List UInt8, m.length ≤ 2 → 0 ≤ leN m ∧ leN m ≤ 65536 := by
      intro m hm
      have hb := numL_bound m
      have hp : 256 ^ m.length ≤ 256 ^ 2 := Nat.pow_le_pow_right (by omega) hm
      unfold leN
      split <;> omega
    unfold bodyL
    by_cases c0 : l.length = 0
    · rw [if_pos c0]; exact ⟨by decide, by decide⟩
    rw [if_neg c0]
    by_cases c1 : l.length < W
    · rw [if_pos c1]; exact ⟨by decide, by decide⟩
    rw [if_neg c1]
    by_cases c2 : l.length = W
    · rw [if_pos c2]; have := hle l (by omega); exact ⟨by show _ ≤ leN l; omega, by show leN l ≤ _; omega⟩
    rw [if_neg c2]
    by_cases c3 : numL (l.take W) = 0
    · rw [if_pos c3]; exact ⟨by decide, by decide⟩
    rw [if_neg c3]
    by_cases c4 : (l.drop W).length < numL (l.take W)
    · rw [if_pos c4]; exact ⟨by decide, by decide⟩
    rw [if_neg c4]
    by_cases c5 : (l.drop W).length = numL (l.take W)
    · rw [if_pos c5]; exact ⟨by show (_ : Int) ≤ 0; decide, by show (0 : Int) ≤ _; decide⟩
    rw [if_neg c5]
    by_cases c6 : (l.drop W).length = numL (l.take W) + W
    · rw [if_pos c6]
      have hr : ((l.drop W).drop (numL (l.take W))).length ≤ 2 := by rw [List.length_drop]; omega
      have := hle _ hr
      exact ⟨by show _ ≤ leN _; omega, by show leN _ ≤ _; omega⟩
    rw [if_neg c6]; exact ⟨by decide, by decide⟩
  · exact .inr (by omega)

/-- The data of the command that was read, in the result. -/
theorem dec_data {w w1 w2 : World} {A : Option Addr} {c : Nat} {l : List UInt8} {x y x0 x1 x2 x3 x4 x5 x6 : Value} (h : 0 < l.length → ∃ b o, A = some ⟨b, o, none⟩ ∧ w.heap.size + 2 ≤ b ∧ b < w1.heap.size ∧ ∀ k, k < l.length → w1.cell? ⟨b, o + k, none⟩ = some (.int .u8 ((l.getD k 0).toNat : Int))) (e1 : l.length ≤ c) (e2 : c ≤ maxLen)
    (hb : Below ((w1.setCell ⟨w.heap.size + 1, 4, none⟩ x).setCell ⟨w.heap.size + 1, 5, none⟩ y).heap.size ((w1.setCell ⟨w.heap.size + 1, 4, none⟩ x).setCell ⟨w.heap.size + 1, 5, none⟩ y) w2) :
    SL (((((((w2.setCell ⟨w.heap.size, 0, none⟩ x0).setCell ⟨w.heap.size, 1, none⟩ x1).setCell ⟨w.heap.size, 2, none⟩ x2).setCell ⟨w.heap.size, 3, none⟩ x3).setCell ⟨w.heap.size, 4, none⟩ x4).setCell ⟨w.heap.size, 5, none⟩ x5).setCell ⟨w.heap.size, 6, none⟩ x6)
      (((((((w2.setCell ⟨w.heap.size, 0, none⟩ x0).setCell ⟨w.heap.size, 1, none⟩ x1).setCell ⟨w.heap.size, 2, none⟩ x2).setCell ⟨w.heap.size, 3, none⟩ x3).setCell ⟨w.heap.size, 4, none⟩ x4).setCell ⟨w.heap.size, 5, none⟩ x5).setCell ⟨w.heap.size, 6, none⟩ x6).heap.size (.slice A l.length c) l := by
  have hsz := hb.size
  simp at hsz
  refine ⟨A, c, rfl, e1, e2, fun hp => ?_⟩
  obtain ⟨b, o, hA, hbb, hbl, hc⟩ := h hp
  have n1 : b ≠ w.heap.size := by omega
  have n2 : b ≠ w.heap.size + 1 := by omega
  refine ⟨b, o, hA, by simp; omega, fun k hk => ?_⟩
  rw [far_set _ _ (by simpa using n1), far_set _ _ (by simpa using n1), far_set _ _ (by simpa using n1), far_set _ _ (by simpa using n1), far_set _ _ (by simpa using n1), far_set _ _ (by simpa using n1), far_set _ _ (by simpa using n1)]
  rw [hb.cell (p := ⟨b, o + k, none⟩) (by simp; omega), far_set _ _ (by simpa using n2), far_set _ _ (by simpa using n2)]
  exact hc k hk

set_option maxRecDepth 100000 in
set_option maxHeartbeats 3200000 in
theorem pdec_C3 (l : List UInt8) (v : Value) (w : World) (h : SL w w.heap.size v l) (hl : l.length ≤ 80000) (h5 : 5 < l.length) (hb : l.getD 4 0 ≠ 0) : Calls Try.prog 19 #[v] w (DecR l w) := by
  have HS := Lib.hid h
  obtain ⟨A, c, rfl, k1, k2, k3⟩ := h
  unfold maxLen at k2
  obtain ⟨b, o, rfl, hbl, hc⟩ := k3 (by omega)
  have g0 : w.cell? ⟨b, o, none⟩ = some (.int .u8 ((l.getD 0 0).toNat : Int)) := hc 0 (by omega)
  have g1 := hc 1 (by omega)
  have g2 := hc 2 (by omega)
  have g3 := hc 3 (by omega)
  have hlong : longB l = false := by rw [longB]; simp only [Bool.and_eq_false_iff]; right; rw [beq_eq_false_iff_ne]; exact hb
  have hrest : restL l = l.drop 4 := by rw [restL, hlong]; rfl
  have hread : readC l = ⟨((l.getD 0 0).toNat : Int), ((l.getD 1 0).toNat : Int), ((l.getD 2 0).toNat : Int), ((l.getD 3 0).toNat : Int), (bodyL (widN false) (l.drop 4)).1, (bodyL (widN false) (l.drop 4)).2.1, false⟩ := by rw [readC, hlong, hrest]
  have hdec : decE l = if (bodyL (widN false) (l.drop 4)).2.2 ≠ 0 then (bodyL (widN false) (l.drop 4)).2.2 else chkC (readC l) := by rw [decE, if_neg (by omega), hlong, hrest]
  rw [hread] at hdec
  have HYES : (bodyL (widN false) (l.drop 4)).2.2 = 0 → chkC ⟨((l.getD 0 0).toNat : Int), ((l.getD 1 0).toNat : Int), ((l.getD 2 0).toNat : Int), ((l.getD 3 0).toNat : Int), (bodyL (widN false) (l.drop 4)).1, (bodyL (widN false) (l.drop 4)).2.1, false⟩ = 0 → (decV l = ⟨((l.getD 0 0).toNat : Int), ((l.getD 1 0).toNat : Int), ((l.getD 2 0).toNat : Int), ((l.getD 3 0).toNat : Int), (bodyL (widN false) (l.drop 4)).1, (bodyL (widN false) (l.drop 4)).2.1, false⟩ ∧ decE l = 0) := by
    intro a1 a2
    rw [if_neg (by rw [a1]; decide), a2] at hdec
    exact ⟨by rw [decV, if_pos hdec, hread], hdec⟩
  have HBAD : (bodyL (widN false) (l.drop 4)).2.2 = 0 → chkC ⟨((l.getD 0 0).toNat : Int), ((l.getD 1 0).toNat : Int), ((l.getD 2 0).toNat : Int), ((l.getD 3 0).toNat : Int), (bodyL (widN false) (l.drop 4)).1, (bodyL (widN false) (l.drop 4)).2.1, false⟩ ≠ 0 → (decV l = zeroC ∧ decE l = chkC ⟨((l.getD 0 0).toNat : Int), ((l.getD 1 0).toNat : Int), ((l.getD 2 0).toNat : Int), ((l.getD 3 0).toNat : Int), (bodyL (widN false) (l.drop 4)).1, (bodyL (widN false) (l.drop 4)).2.1, false⟩) := by
    intro a1 a2
    rw [if_neg (by rw [a1]; decide)] at hdec
    exact ⟨by rw [decV, if_neg (by rw [hdec]; exact a2)], hdec⟩
  have HERR : (bodyL (widN false) (l.drop 4)).2.2 ≠ 0 → (decV l = zeroC ∧ decE l = (bodyL (widN false) (l.drop 4)).2.2) := by
    intro a1
    rw [if_pos a1] at hdec
    exact ⟨by rw [decV, if_neg (by rw [hdec]; exact a1)], hdec⟩
  have g4 := hc 4 (by omega)
  have hx4 : (((l.getD 4 0).toNat : Int) == 0) = false := by rw [beq_eq_false_iff_ne]; intro e; exact hb (UInt8.toNat_inj.1 (by simpa using e))
  have hx0 := (l.getD 0 0).toNat_lt
  have hx1 := (l.getD 1 0).toNat_lt
  have hx2 := (l.getD 2 0).toNat_lt
  have hx3 := (l.getD 3 0).toNat_lt
  have HBODY := pbody_any (l.drop 4) (.slice (some ⟨b, o + 4, none⟩) (l.length - 4) (c - 4)) false (DW w (l.getD 0 0) (l.getD 1 0) (l.getD 2 0) (l.getD 3 0) false) ((HS.out.cut (by omega)).on (DW_below _ _ _ _ _ _)) (by rw [List.length_drop]; omega)
  unfold BodR at HBODY
  have hrl : (l.drop 4).length ≤ 80000 := by rw [List.length_drop]; omega
  generalize l.drop 4 = rest at *
  generalize l.getD 0 0 = x0 at *
  generalize l.getD 1 0 = x1 at *
  generalize l.getD 2 0 = x2 at *
  generalize l.getD 3 0 = x3 at *
  have HYES := Lib.hid HYES
  have HBAD := Lib.hid HBAD
  have HERR := Lib.hid HERR
  have HBODY := Lib.hid HBODY
  have j0 : 0 < l.length := by omega
  have j1 : (1 : Int) < (l.length : Int) := by omega
  have j2 : (2 : Int) < (l.length : Int) := by omega
  have j3 : (3 : Int) < (l.length : Int) := by omega
  generalize l.getD 4 0 = x4 at *
  clear hb
  clear hc k3 hlong hrest hread hdec
  go_enter Try.func19, Try.ntmps19
  go_wp2_with fail
  go_region_held3 (fun w' => w'.cell? ⟨b, o, none⟩ = some (.int .u8 (x0.toNat : Int)) ∧ w'.cell? ⟨b, o + 1, none⟩ = some (.int .u8 (x1.toNat : Int)) ∧ w'.cell? ⟨b, o + 2, none⟩ = some (.int .u8 (x2.toNat : Int)) ∧ w'.cell? ⟨b, o + 3, none⟩ = some (.int .u8 (x3.toNat : Int)))
    (first | (go_keep; done) | exact ⟨g0, g1, g2, g3⟩) (fail)
  go_wp2_with fail
  refine HBODY.out.mono ?_
  rintro e w1 ⟨d, rfl, hd, hb1⟩
  have hz1 := (hb1.block _ (by rw [DW_size]; omega)).trans (DW_zero w x0 x1 x2 x3 false)
  have hr1 := (hb1.block _ (by rw [DW_size]; omega)).trans (DW_row w x0 x1 x2 x3 false)
  have hw1 : Below w.heap.size w w1 := (DW_below _ _ _ _ _ _).trans (hb1.mono (by rw [DW_size]; omega))
  have hs1 := hb1.size
  rw [DW_size] at hs1
  obtain ⟨Ad, cd, rfl, e1, e2, e3⟩ := hd.rd
  rw [DW_size] at e3
  have HD := Lib.hid e3
  clear hb1 e3
  have q0 := cell_of_row _ _ 0 _ _ _ hz1
  have q1 := cell_of_row _ _ 1 _ _ _ hz1
  have q2 := cell_of_row _ _ 2 _ _ _ hz1
  have q3 := cell_of_row _ _ 3 _ _ _ hz1
  have q4 := cell_of_row _ _ 4 _ _ _ hz1
  have q5 := cell_of_row _ _ 5 _ _ _ hz1
  have q6 := cell_of_row _ _ 6 _ _ _ hz1
  have fz := fun j => frozen_of_row _ _ j _ _ hz1
  have r0 := fz 0
  have r1 := fz 1
  have r2 := fz 2
  have r3 := fz 3
  have r4 := fz 4
  have r5 := fz 5
  have r6 := fz 6
  have p0 := cell_of_row _ _ 0 _ _ _ hr1
  have p1 := cell_of_row _ _ 1 _ _ _ hr1
  have p2 := cell_of_row _ _ 2 _ _ _ hr1
  have p3 := cell_of_row _ _ 3 _ _ _ hr1
  have p4 := cell_of_row _ _ 4 _ _ _ hr1
  have p5 := cell_of_row _ _ 5 _ _ _ hr1
  have p6 := cell_of_row _ _ 6 _ _ _ hr1
  have fr := fun j => frozen_of_row _ _ j _ _ hr1
  have s4 := fr 4
  have s5 := fr 5
  have HZ1 := Lib.hid hz1
  have HR1 := Lib.hid hr1
  have HW1 := Lib.hid hw1
  clear hz1 hr1 hw1 fz fr
  by_cases he : (bodyL (widN false) rest).2.2 = 0
  · by_cases hk : chkC ⟨(x0.toNat : Int), (x1.toNat : Int), (x2.toNat : Int), (x3.toNat : Int), (bodyL (widN false) rest).1, (bodyL (widN false) rest).2.1, false⟩ = 0
    · have HV : Hid (decV l = ⟨(x0.toNat : Int), (x1.toNat : Int), (x2.toNat : Int), (x3.toNat : Int), (bodyL (widN false) rest).1, (bodyL (widN false) rest).2.1, false⟩ ∧ decE l = 0) := HYES.out he hk
      have hle := (bodyL_ok (widN false) rest hrl).resolve_right (by decide)
      have HCK := Lib.hid (fun (W : World) => pchk_any ⟨(x0.toNat : Int), (x1.toNat : Int), (x2.toNat : Int), (x3.toNat : Int), (bodyL (widN false) rest).1, (bodyL (widN false) rest).2.1, false⟩ Ad _ cd W rfl hle)
      have HK := Lib.hid hk
      simp only [Cm.val] at HCK
      generalize (bodyL (widN false) rest).2.1 = le at *
      generalize (bodyL (widN false) rest).1 = dat at *
      rw [he]
      clear he hk hle
      go_wp2_with fail
      refine (HCK.out _).mono ?_
      rintro e w2 ⟨rfl, hb2⟩
      rw [HK.out]
      have hzz : ((w1.setCell ⟨w.heap.size + 1, 4, none⟩ (.slice Ad dat.length cd)).setCell ⟨w.heap.size + 1, 5, none⟩ (.int .i64 le)).heap[w.heap.size]? = some (.cells #[.int .i64 0, .int .i64 0, .int .i64 0, .int .i64 0, .slice none 0 0, .int .i64 0, .bool false] 24 (0, 0)) := by rw [heap_setCell_other _ _ _ _ (by simp), heap_setCell_other _ _ _ _ (by simp)]; exact HZ1.out
      have hrr := setRow45 w1 (w.heap.size + 1) _ _ _ _ _ _ _ (.slice Ad dat.length cd) (.int .i64 le) HR1.out
      have hww : Below w.heap.size w ((w1.setCell ⟨w.heap.size + 1, 4, none⟩ (.slice Ad dat.length cd)).setCell ⟨w.heap.size + 1, 5, none⟩ (.int .i64 le)) := (HW1.out.setCell (p := ⟨w.heap.size + 1, 4, none⟩) (by show w.heap.size ≤ w.heap.size + 1; omega) _).setCell (p := ⟨w.heap.size + 1, 5, none⟩) (by show w.heap.size ≤ w.heap.size + 1; omega) _
      have hsz : ((w1.setCell ⟨w.heap.size + 1, 4, none⟩ (.slice Ad dat.length cd)).setCell ⟨w.heap.size + 1, 5, none⟩ (.int .i64 le)).heap.size = w1.heap.size := by simp
      have hz2 := (hb2.block _ (by rw [hsz]; omega)).trans hzz
      have hr2 := (hb2.block _ (by rw [hsz]; omega)).trans hrr
      have hw2 : Below w.heap.size w w2 := hww.trans (hb2.mono hww.size)
      have HB2 := Lib.hid hb2
      clear q0 q1 q2 q3 q4 q5 q6 r0 r1 r2 r3 r4 r5 r6 p0 p1 p2 p3 p4 p5 p6 s4 s5 hzz hrr hww hb2
      have q0 := cell_of_row _ _ 0 _ _ _ hz2
      have q1 := cell_of_row _ _ 1 _ _ _ hz2
      have q2 := cell_of_row _ _ 2 _ _ _ hz2
      have q3 := cell_of_row _ _ 3 _ _ _ hz2
      have q4 := cell_of_row _ _ 4 _ _ _ hz2
      have q5 := cell_of_row _ _ 5 _ _ _ hz2
      have q6 := cell_of_row _ _ 6 _ _ _ hz2
      have fz := fun j => frozen_of_row _ _ j _ _ hz2
      have r0 := fz 0
      have r1 := fz 1
      have r2 := fz 2
      have r3 := fz 3
      have r4 := fz 4
      have r5 := fz 5
      have r6 := fz 6
      have p0 := cell_of_row _ _ 0 _ _ _ hr2
      have p1 := cell_of_row _ _ 1 _ _ _ hr2
      have p2 := cell_of_row _ _ 2 _ _ _ hr2
      have p3 := cell_of_row _ _ 3 _ _ _ hr2
      have p4 := cell_of_row _ _ 4 _ _ _ hr2
      have p5 := cell_of_row _ _ 5 _ _ _ hr2
      have p6 := cell_of_row _ _ 6 _ _ _ hr2
      have HZ2 := Lib.hid hz2
      have HW2 := Lib.hid hw2
      clear hz2 hr2 hw2 fz hsz
      go_wp2_with fail
      refine bodyPost_ret (results_cell2 rfl _ _ w.heap.size 24 _ (0, 0) _ rfl (row7_set _ _ _ _ _ _ _ _ _ _ _ _ _ _ _ _ _ HZ2.out) Try.underlying24 rfl (by kernel_rfl)) rfl ⟨.slice Ad dat.length cd, by rw [HV.out.1, HV.out.2]; rfl, ?_, below7 HW2.out _ _ _ _ _ _ _⟩
      rw [HV.out.1]
      exact dec_data HD.out e1 e2 HB2.out
    · have HV : Hid (decV l = zeroC ∧ decE l = chkC ⟨(x0.toNat : Int), (x1.toNat : Int), (x2.toNat : Int), (x3.toNat : Int), (bodyL (widN false) rest).1, (bodyL (widN false) rest).2.1, false⟩) := HBAD.out he hk
      have hle := (bodyL_ok (widN false) rest hrl).resolve_right (by decide)
      have HCK := Lib.hid (fun (W : World) => pchk_any ⟨(x0.toNat : Int), (x1.toNat : Int), (x2.toNat : Int), (x3.toNat : Int), (bodyL (widN false) rest).1, (bodyL (widN false) rest).2.1, false⟩ Ad _ cd W rfl hle)
      have hkn : (chkC ⟨(x0.toNat : Int), (x1.toNat : Int), (x2.toNat : Int), (x3.toNat : Int), (bodyL (widN false) rest).1, (bodyL (widN false) rest).2.1, false⟩ != 0) = true := by rw [bne_iff_ne]; exact hk
      have HK := Lib.hid hk
      simp only [Cm.val] at HCK
      generalize (bodyL (widN false) rest).2.1 = le at *
      generalize (bodyL (widN false) rest).1 = dat at *
      rw [he]
      clear he hk hle
      go_wp2_with fail
      refine (HCK.out _).mono ?_
      rintro e w2 ⟨rfl, hb2⟩
      have hzz : ((w1.setCell ⟨w.heap.size + 1, 4, none⟩ (.slice Ad dat.length cd)).setCell ⟨w.heap.size + 1, 5, none⟩ (.int .i64 le)).heap[w.heap.size]? = some (.cells #[.int .i64 0, .int .i64 0, .int .i64 0, .int .i64 0, .slice none 0 0, .int .i64 0, .bool false] 24 (0, 0)) := by rw [heap_setCell_other _ _ _ _ (by simp), heap_setCell_other _ _ _ _ (by simp)]; exact HZ1.out
      have hrr := setRow45 w1 (w.heap.size + 1) _ _ _ _ _ _ _ (.slice Ad dat.length cd) (.int .i64 le) HR1.out
      have hww : Below w.heap.size w ((w1.setCell ⟨w.heap.size + 1, 4, none⟩ (.slice Ad dat.length cd)).setCell ⟨w.heap.size + 1, 5, none⟩ (.int .i64 le)) := (HW1.out.setCell (p := ⟨w.heap.size + 1, 4, none⟩) (by show w.heap.size ≤ w.heap.size + 1; omega) _).setCell (p := ⟨w.heap.size + 1, 5, none⟩) (by show w.heap.size ≤ w.heap.size + 1; omega) _
      have hsz : ((w1.setCell ⟨w.heap.size + 1, 4, none⟩ (.slice Ad dat.length cd)).setCell ⟨w.heap.size + 1, 5, none⟩ (.int .i64 le)).heap.size = w1.heap.size := by simp
      have hz2 := (hb2.block _ (by rw [hsz]; omega)).trans hzz
      have hr2 := (hb2.block _ (by rw [hsz]; omega)).trans hrr
      have hw2 : Below w.heap.size w w2 := hww.trans (hb2.mono hww.size)
      have HB2 := Lib.hid hb2
      clear q0 q1 q2 q3 q4 q5 q6 r0 r1 r2 r3 r4 r5 r6 p0 p1 p2 p3 p4 p5 p6 s4 s5 hzz hrr hww hb2
      have q0 := cell_of_row _ _ 0 _ _ _ hz2
      have q1 := cell_of_row _ _ 1 _ _ _ hz2
      have q2 := cell_of_row _ _ 2 _ _ _ hz2
      have q3 := cell_of_row _ _ 3 _ _ _ hz2
      have q4 := cell_of_row _ _ 4 _ _ _ hz2
      have q5 := cell_of_row _ _ 5 _ _ _ hz2
      have q6 := cell_of_row _ _ 6 _ _ _ hz2
      have fz := fun j => frozen_of_row _ _ j _ _ hz2
      have r0 := fz 0
      have r1 := fz 1
      have r2 := fz 2
      have r3 := fz 3
      have r4 := fz 4
      have r5 := fz 5
      have r6 := fz 6
      have p0 := cell_of_row _ _ 0 _ _ _ hr2
      have p1 := cell_of_row _ _ 1 _ _ _ hr2
      have p2 := cell_of_row _ _ 2 _ _ _ hr2
      have p3 := cell_of_row _ _ 3 _ _ _ hr2
      have p4 := cell_of_row _ _ 4 _ _ _ hr2
      have p5 := cell_of_row _ _ 5 _ _ _ hr2
      have p6 := cell_of_row _ _ 6 _ _ _ hr2
      have HZ2 := Lib.hid hz2
      have HW2 := Lib.hid hw2
      clear hz2 hr2 hw2 fz hsz
      go_wp2_with fail
      exact bodyPost_ret (results_cell2 rfl _ _ w.heap.size 24 _ (0, 0) _ rfl (row7_set _ _ _ _ _ _ _ _ _ _ _ _ _ _ _ _ _ HZ2.out) Try.underlying24 rfl (by kernel_rfl)) rfl ⟨.slice none 0 0, by rw [HV.out.1, HV.out.2]; rfl, by rw [HV.out.1]; exact SL.nil _ _ _ _ (Nat.zero_le _), below7 HW2.out _ _ _ _ _ _ _⟩
  · have HV : Hid (decV l = zeroC ∧ decE l = (bodyL (widN false) rest).2.2) := HERR.out he
    have hen : ((bodyL (widN false) rest).2.2 != 0) = true := by rw [bne_iff_ne]; exact he
    generalize (bodyL (widN false) rest).2.2 = er at *
    clear he
    go_wp2_with fail
    exact bodyPost_ret (results_cell2 rfl _ _ w.heap.size 24 _ (0, 0) _ rfl (row7_set _ _ _ _ _ _ _ _ _ _ _ _ _ _ _ _ _ (by rw [heap_setCell_other _ _ _ _ (by simp), heap_setCell_other _ _ _ _ (by simp)]; exact HZ1.out)) Try.underlying24 rfl (by kernel_rfl)) rfl ⟨.slice none 0 0, by rw [HV.out.1, HV.out.2]; rfl, by rw [HV.out.1]; exact SL.nil _ _ _ _ (Nat.zero_le _), below7 ((HW1.out.setCell (p := ⟨w.heap.size + 1, 4, none⟩) (by show w.heap.size ≤ w.heap.size + 1; omega) _).setCell (p := ⟨w.heap.size + 1, 5, none⟩) (by show w.heap.size ≤ w.heap.size + 1; omega) _) _ _ _ _ _ _ _⟩

set_option maxRecDepth 100000 in
set_option maxHeartbeats 3200000 in
theorem pdec_C2 (l : List UInt8) (v : Value) (w : World) (h : SL w w.heap.size v l) (hl : l.length ≤ 80000) (h5 : 5 < l.length) (hb : l.getD 4 0 = 0) : Calls Try.prog 19 #[v] w (DecR l w) := by
  have HS := Lib.hid h
  obtain ⟨A, c, rfl, k1, k2, k3⟩ := h
  unfold maxLen at k2
  obtain ⟨b, o, rfl, hbl, hc⟩ := k3 (by omega)
  have g0 : w.cell? ⟨b, o, none⟩ = some (.int .u8 ((l.getD 0 0).toNat : Int)) := hc 0 (by omega)
  have g1 := hc 1 (by omega)
  have g2 := hc 2 (by omega)
  have g3 := hc 3 (by omega)
  have hlong : longB l = true := by rw [longB, hb]; simp; omega
  have hrest : restL l = l.drop 5 := by rw [restL, hlong]; rfl
  have hread : readC l = ⟨((l.getD 0 0).toNat : Int), ((l.getD 1 0).toNat : Int), ((l.getD 2 0).toNat : Int), ((l.getD 3 0).toNat : Int), (bodyL (widN true) (l.drop 5)).1, (bodyL (widN true) (l.drop 5)).2.1, true⟩ := by rw [readC, hlong, hrest]
  have hdec : decE l = if (bodyL (widN true) (l.drop 5)).2.2 ≠ 0 then (bodyL (widN true) (l.drop 5)).2.2 else chkC (readC l) := by rw [decE, if_neg (by omega), hlong, hrest]
  rw [hread] at hdec
  have HYES : (bodyL (widN true) (l.drop 5)).2.2 = 0 → chkC ⟨((l.getD 0 0).toNat : Int), ((l.getD 1 0).toNat : Int), ((l.getD 2 0).toNat : Int), ((l.getD 3 0).toNat : Int), (bodyL (widN true) (l.drop 5)).1, (bodyL (widN true) (l.drop 5)).2.1, true⟩ = 0 → (decV l = ⟨((l.getD 0 0).toNat : Int), ((l.getD 1 0).toNat : Int), ((l.getD 2 0).toNat : Int), ((l.getD 3 0).toNat : Int), (bodyL (widN true) (l.drop 5)).1, (bodyL (widN true) (l.drop 5)).2.1, true⟩ ∧ decE l = 0) := by
    intro a1 a2
    rw [if_neg (by rw [a1]; decide), a2] at hdec
    exact ⟨by rw [decV, if_pos hdec, hread], hdec⟩
  have HBAD : (bodyL (widN true) (l.drop 5)).2.2 = 0 → chkC ⟨((l.getD 0 0).toNat : Int), ((l.getD 1 0).toNat : Int), ((l.getD 2 0).toNat : Int), ((l.getD 3 0).toNat : Int), (bodyL (widN true) (l.drop 5)).1, (bodyL (widN true) (l.drop 5)).2.1, true⟩ ≠ 0 → (decV l = zeroC ∧ decE l = chkC ⟨((l.getD 0 0).toNat : Int), ((l.getD 1 0).toNat : Int), ((l.getD 2 0).toNat : Int), ((l.getD 3 0).toNat : Int), (bodyL (widN true) (l.drop 5)).1, (bodyL (widN true) (l.drop 5)).2.1, true⟩) := by
    intro a1 a2
    rw [if_neg (by rw [a1]; decide)] at hdec
    exact ⟨by rw [decV, if_neg (by rw [hdec]; exact a2)], hdec⟩
  have HERR : (bodyL (widN true) (l.drop 5)).2.2 ≠ 0 → (decV l = zeroC ∧ decE l = (bodyL (widN true) (l.drop 5)).2.2) := by
    intro a1
    rw [if_pos a1] at hdec
    exact ⟨by rw [decV, if_neg (by rw [hdec]; exact a1)], hdec⟩
  have g4 := hc 4 (by omega)
  rw [hb] at g4
  have hx0 := (l.getD 0 0).toNat_lt
  have hx1 := (l.getD 1 0).toNat_lt
  have hx2 := (l.getD 2 0).toNat_lt
  have hx3 := (l.getD 3 0).toNat_lt
  have HBODY := pbody_any (l.drop 5) (.slice (some ⟨b, o + 4 + 1, none⟩) (l.length - 4 - 1) (c - 4 - 1)) true (DW w (l.getD 0 0) (l.getD 1 0) (l.getD 2 0) (l.getD 3 0) true) (by have := (HS.out.cut (n := 5) (by omega)).on (DW_below w (l.getD 0 0) (l.getD 1 0) (l.getD 2 0) (l.getD 3 0) true); exact this) (by rw [List.length_drop]; omega)
  unfold BodR at HBODY
  have hrl : (l.drop 5).length ≤ 80000 := by rw [List.length_drop]; omega
  generalize l.drop 5 = rest at *
  generalize l.getD 0 0 = x0 at *
  generalize l.getD 1 0 = x1 at *
  generalize l.getD 2 0 = x2 at *
  generalize l.getD 3 0 = x3 at *
  have HYES := Lib.hid HYES
  have HBAD := Lib.hid HBAD
  have HERR := Lib.hid HERR
  have HBODY := Lib.hid HBODY
  have j0 : 0 < l.length := by omega
  have j1 : (1 : Int) < (l.length : Int) := by omega
  have j2 : (2 : Int) < (l.length : Int) := by omega
  have j3 : (3 : Int) < (l.length : Int) := by omega
  clear hb
  clear hc k3 hlong hrest hread hdec
  go_enter Try.func19, Try.ntmps19
  go_wp2_with fail
  go_region_held3 (fun w' => w'.cell? ⟨b, o, none⟩ = some (.int .u8 (x0.toNat : Int)) ∧ w'.cell? ⟨b, o + 1, none⟩ = some (.int .u8 (x1.toNat : Int)) ∧ w'.cell? ⟨b, o + 2, none⟩ = some (.int .u8 (x2.toNat : Int)) ∧ w'.cell? ⟨b, o + 3, none⟩ = some (.int .u8 (x3.toNat : Int)))
    (first | (go_keep; done) | exact ⟨g0, g1, g2, g3⟩) (fail)
  go_wp2_with fail
  refine HBODY.out.mono ?_
  rintro e w1 ⟨d, rfl, hd, hb1⟩
  have hz1 := (hb1.block _ (by rw [DW_size]; omega)).trans (DW_zero w x0 x1 x2 x3 true)
  have hr1 := (hb1.block _ (by rw [DW_size]; omega)).trans (DW_row w x0 x1 x2 x3 true)
  have hw1 : Below w.heap.size w w1 := (DW_below _ _ _ _ _ _).trans (hb1.mono (by rw [DW_size]; omega))
  have hs1 := hb1.size
  rw [DW_size] at hs1
  obtain ⟨Ad, cd, rfl, e1, e2, e3⟩ := hd.rd
  rw [DW_size] at e3
  have HD := Lib.hid e3
  clear hb1 e3
  have q0 := cell_of_row _ _ 0 _ _ _ hz1
  have q1 := cell_of_row _ _ 1 _ _ _ hz1
  have q2 := cell_of_row _ _ 2 _ _ _ hz1
  have q3 := cell_of_row _ _ 3 _ _ _ hz1
  have q4 := cell_of_row _ _ 4 _ _ _ hz1
  have q5 := cell_of_row _ _ 5 _ _ _ hz1
  have q6 := cell_of_row _ _ 6 _ _ _ hz1
  have fz := fun j => frozen_of_row _ _ j _ _ hz1
  have r0 := fz 0
  have r1 := fz 1
  have r2 := fz 2
  have r3 := fz 3
  have r4 := fz 4
  have r5 := fz 5
  have r6 := fz 6
  have p0 := cell_of_row _ _ 0 _ _ _ hr1
  have p1 := cell_of_row _ _ 1 _ _ _ hr1
  have p2 := cell_of_row _ _ 2 _ _ _ hr1
  have p3 := cell_of_row _ _ 3 _ _ _ hr1
  have p4 := cell_of_row _ _ 4 _ _ _ hr1
  have p5 := cell_of_row _ _ 5 _ _ _ hr1
  have p6 := cell_of_row _ _ 6 _ _ _ hr1
  have fr := fun j => frozen_of_row _ _ j _ _ hr1
  have s4 := fr 4
  have s5 := fr 5
  have HZ1 := Lib.hid hz1
  have HR1 := Lib.hid hr1
  have HW1 := Lib.hid hw1
  clear hz1 hr1 hw1 fz fr
  by_cases he : (bodyL (widN true) rest).2.2 = 0
  · by_cases hk : chkC ⟨(x0.toNat : Int), (x1.toNat : Int), (x2.toNat : Int), (x3.toNat : Int), (bodyL (widN true) rest).1, (bodyL (widN true) rest).2.1, true⟩ = 0
    · have HV : Hid (decV l = ⟨(x0.toNat : Int), (x1.toNat : Int), (x2.toNat : Int), (x3.toNat : Int), (bodyL (widN true) rest).1, (bodyL (widN true) rest).2.1, true⟩ ∧ decE l = 0) := HYES.out he hk
      have hle := (bodyL_ok (widN true) rest hrl).resolve_right (by decide)
      have HCK := Lib.hid (fun (W : World) => pchk_any ⟨(x0.toNat : Int), (x1.toNat : Int), (x2.toNat : Int), (x3.toNat : Int), (bodyL (widN true) rest).1, (bodyL (widN true) rest).2.1, true⟩ Ad _ cd W rfl hle)
      have HK := Lib.hid hk
      simp only [Cm.val] at HCK
      generalize (bodyL (widN true) rest).2.1 = le at *
      generalize (bodyL (widN true) rest).1 = dat at *
      rw [he]
      clear he hk hle
      go_wp2_with fail
      refine (HCK.out _).mono ?_
      rintro e w2 ⟨rfl, hb2⟩
      rw [HK.out]
      have hzz : ((w1.setCell ⟨w.heap.size + 1, 4, none⟩ (.slice Ad dat.length cd)).setCell ⟨w.heap.size + 1, 5, none⟩ (.int .i64 le)).heap[w.heap.size]? = some (.cells #[.int .i64 0, .int .i64 0, .int .i64 0, .int .i64 0, .slice none 0 0, .int .i64 0, .bool false] 24 (0, 0)) := by rw [heap_setCell_other _ _ _ _ (by simp), heap_setCell_other _ _ _ _ (by simp)]; exact HZ1.out
      have hrr := setRow45 w1 (w.heap.size + 1) _ _ _ _ _ _ _ (.slice Ad dat.length cd) (.int .i64 le) HR1.out
      have hww : Below w.heap.size w ((w1.setCell ⟨w.heap.size + 1, 4, none⟩ (.slice Ad dat.length cd)).setCell ⟨w.heap.size + 1, 5, none⟩ (.int .i64 le)) := (HW1.out.setCell (p := ⟨w.heap.size + 1, 4, none⟩) (by show w.heap.size ≤ w.heap.size + 1; omega) _).setCell (p := ⟨w.heap.size + 1, 5, none⟩) (by show w.heap.size ≤ w.heap.size + 1; omega) _
      have hsz : ((w1.setCell ⟨w.heap.size + 1, 4, none⟩ (.slice Ad dat.length cd)).setCell ⟨w.heap.size + 1, 5, none⟩ (.int .i64 le)).heap.size = w1.heap.size := by simp
      have hz2 := (hb2.block _ (by rw [hsz]; omega)).trans hzz
      have hr2 := (hb2.block _ (by rw [hsz]; omega)).trans hrr
      have hw2 : Below w.heap.size w w2 := hww.trans (hb2.mono hww.size)
      have HB2 := Lib.hid hb2
      clear q0 q1 q2 q3 q4 q5 q6 r0 r1 r2 r3 r4 r5 r6 p0 p1 p2 p3 p4 p5 p6 s4 s5 hzz hrr hww hb2
      have q0 := cell_of_row _ _ 0 _ _ _ hz2
      have q1 := cell_of_row _ _ 1 _ _ _ hz2
      have q2 := cell_of_row _ _ 2 _ _ _ hz2
      have q3 := cell_of_row _ _ 3 _ _ _ hz2
      have q4 := cell_of_row _ _ 4 _ _ _ hz2
      have q5 := cell_of_row _ _ 5 _ _ _ hz2
      have q6 := cell_of_row _ _ 6 _ _ _ hz2
      have fz := fun j => frozen_of_row _ _ j _ _ hz2
      have r0 := fz 0
      have r1 := fz 1
      have r2 := fz 2
      have r3 := fz 3
      have r4 := fz 4
      have r5 := fz 5
      have r6 := fz 6
      have p0 := cell_of_row _ _ 0 _ _ _ hr2
      have p1 := cell_of_row _ _ 1 _ _ _ hr2
      have p2 := cell_of_row _ _ 2 _ _ _ hr2
      have p3 := cell_of_row _ _ 3 _ _ _ hr2
      have p4 := cell_of_row _ _ 4 _ _ _ hr2
      have p5 := cell_of_row _ _ 5 _ _ _ hr2
      have p6 := cell_of_row _ _ 6 _ _ _ hr2
      have HZ2 := Lib.hid hz2
      have HW2 := Lib.hid hw2
      clear hz2 hr2 hw2 fz hsz
      go_wp2_with fail
      refine bodyPost_ret (results_cell2 rfl _ _ w.heap.size 24 _ (0, 0) _ rfl (row7_set _ _ _ _ _ _ _ _ _ _ _ _ _ _ _ _ _ HZ2.out) Try.underlying24 rfl (by kernel_rfl)) rfl ⟨.slice Ad dat.length cd, by rw [HV.out.1, HV.out.2]; rfl, ?_, below7 HW2.out _ _ _ _ _ _ _⟩
      rw [HV.out.1]
      exact dec_data HD.out e1 e2 HB2.out
    · have HV : Hid (decV l = zeroC ∧ decE l = chkC ⟨(x0.toNat : Int), (x1.toNat : Int), (x2.toNat : Int), (x3.toNat : Int), (bodyL (widN true) rest).1, (bodyL (widN true) rest).2.1, true⟩) := HBAD.out he hk
      have hle := (bodyL_ok (widN true) rest hrl).resolve_right (by decide)
      have HCK := Lib.hid (fun (W : World) => pchk_any ⟨(x0.toNat : Int), (x1.toNat : Int), (x2.toNat : Int), (x3.toNat : Int), (bodyL (widN true) rest).1, (bodyL (widN true) rest).2.1, true⟩ Ad _ cd W rfl hle)
      have hkn : (chkC ⟨(x0.toNat : Int), (x1.toNat : Int), (x2.toNat : Int), (x3.toNat : Int), (bodyL (widN true) rest).1, (bodyL (widN true) rest).2.1, true⟩ != 0) = true := by rw [bne_iff_ne]; exact hk
      have HK := Lib.hid hk
      simp only [Cm.val] at HCK
      generalize (bodyL (widN true) rest).2.1 = le at *
      generalize (bodyL (widN true) rest).1 = dat at *
      rw [he]
      clear he hk hle
      go_wp2_with fail
      refine (HCK.out _).mono ?_
      rintro e w2 ⟨rfl, hb2⟩
      have hzz : ((w1.setCell ⟨w.heap.size + 1, 4, none⟩ (.slice Ad dat.length cd)).setCell ⟨w.heap.size + 1, 5, none⟩ (.int .i64 le)).heap[w.heap.size]? = some (.cells #[.int .i64 0, .int .i64 0, .int .i64 0, .int .i64 0, .slice none 0 0, .int .i64 0, .bool false] 24 (0, 0)) := by rw [heap_setCell_other _ _ _ _ (by simp), heap_setCell_other _ _ _ _ (by simp)]; exact HZ1.out
      have hrr := setRow45 w1 (w.heap.size + 1) _ _ _ _ _ _ _ (.slice Ad dat.length cd) (.int .i64 le) HR1.out
      have hww : Below w.heap.size w ((w1.setCell ⟨w.heap.size + 1, 4, none⟩ (.slice Ad dat.length cd)).setCell ⟨w.heap.size + 1, 5, none⟩ (.int .i64 le)) := (HW1.out.setCell (p := ⟨w.heap.size + 1, 4, none⟩) (by show w.heap.size ≤ w.heap.size + 1; omega) _).setCell (p := ⟨w.heap.size + 1, 5, none⟩) (by show w.heap.size ≤ w.heap.size + 1; omega) _
      have hsz : ((w1.setCell ⟨w.heap.size + 1, 4, none⟩ (.slice Ad dat.length cd)).setCell ⟨w.heap.size + 1, 5, none⟩ (.int .i64 le)).heap.size = w1.heap.size := by simp
      have hz2 := (hb2.block _ (by rw [hsz]; omega)).trans hzz
      have hr2 := (hb2.block _ (by rw [hsz]; omega)).trans hrr
      have hw2 : Below w.heap.size w w2 := hww.trans (hb2.mono hww.size)
      have HB2 := Lib.hid hb2
      clear q0 q1 q2 q3 q4 q5 q6 r0 r1 r2 r3 r4 r5 r6 p0 p1 p2 p3 p4 p5 p6 s4 s5 hzz hrr hww hb2
      have q0 := cell_of_row _ _ 0 _ _ _ hz2
      have q1 := cell_of_row _ _ 1 _ _ _ hz2
      have q2 := cell_of_row _ _ 2 _ _ _ hz2
      have q3 := cell_of_row _ _ 3 _ _ _ hz2
      have q4 := cell_of_row _ _ 4 _ _ _ hz2
      have q5 := cell_of_row _ _ 5 _ _ _ hz2
      have q6 := cell_of_row _ _ 6 _ _ _ hz2
      have fz := fun j => frozen_of_row _ _ j _ _ hz2
      have r0 := fz 0
      have r1 := fz 1
      have r2 := fz 2
      have r3 := fz 3
      have r4 := fz 4
      have r5 := fz 5
      have r6 := fz 6
      have p0 := cell_of_row _ _ 0 _ _ _ hr2
      have p1 := cell_of_row _ _ 1 _ _ _ hr2
      have p2 := cell_of_row _ _ 2 _ _ _ hr2
      have p3 := cell_of_row _ _ 3 _ _ _ hr2
      have p4 := cell_of_row _ _ 4 _ _ _ hr2
      have p5 := cell_of_row _ _ 5 _ _ _ hr2
      have p6 := cell_of_row _ _ 6 _ _ _ hr2
      have HZ2 := Lib.hid hz2
      have HW2 := Lib.hid hw2
      clear hz2 hr2 hw2 fz hsz
      go_wp2_with fail
      exact bodyPost_ret (results_cell2 rfl _ _ w.heap.size 24 _ (0, 0) _ rfl (row7_set _ _ _ _ _ _ _ _ _ _ _ _ _ _ _ _ _ HZ2.out) Try.underlying24 rfl (by kernel_rfl)) rfl ⟨.slice none 0 0, by rw [HV.out.1, HV.out.2]; rfl, by rw [HV.out.1]; exact SL.nil _ _ _ _ (Nat.zero_le _), below7 HW2.out _ _ _ _ _ _ _⟩
  · have HV : Hid (decV l = zeroC ∧ decE l = (bodyL (widN true) rest).2.2) := HERR.out he
    have hen : ((bodyL (widN true) rest).2.2 != 0) = true := by rw [bne_iff_ne]; exact he
    generalize (bodyL (widN true) rest).2.2 = er at *
    clear he
    go_wp2_with fail
    exact bodyPost_ret (results_cell2 rfl _ _ w.heap.size 24 _ (0, 0) _ rfl (row7_set _ _ _ _ _ _ _ _ _ _ _ _ _ _ _ _ _ (by rw [heap_setCell_other _ _ _ _ (by simp), heap_setCell_other _ _ _ _ (by simp)]; exact HZ1.out)) Try.underlying24 rfl (by kernel_rfl)) rfl ⟨.slice none 0 0, by rw [HV.out.1, HV.out.2]; rfl, by rw [HV.out.1]; exact SL.nil _ _ _ _ (Nat.zero_le _), below7 ((HW1.out.setCell (p := ⟨w.heap.size + 1, 4, none⟩) (by show w.heap.size ≤ w.heap.size + 1; omega) _).setCell (p := ⟨w.heap.size + 1, 5, none⟩) (by show w.heap.size ≤ w.heap.size + 1; omega) _) _ _ _ _ _ _ _⟩

end Go.Proofs.Ytjoibonbmalbdaa
