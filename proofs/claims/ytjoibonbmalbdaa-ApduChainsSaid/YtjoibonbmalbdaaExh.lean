/-
  The walk of the chapter's examples, in which every law of layer 4 ends.
-/
import Derived.Test.YtjoibonbmalbdaaChx
import Derived.Test.YtjoibonbmalbdaaHex
namespace Go.Proofs.Ytjoibonbmalbdaa
set_option linter.unusedVariables false
set_option linter.unusedSimpArgs false
open Go.RowKit

/-- A write to a cell that holds no byte leaves what reads as bytes. -/
theorem SL.set_other {w : World} {B : Nat} {v : Value} {l : List UInt8} (h : SL w B v l) (p : Addr) (x u : Value) (hp : w.cell? p = some x) (hx : ∀ n : Int, x ≠ .int .u8 n) : SL (w.setCell p u) B v l := by
  obtain ⟨A, c, hv, h1, h2, h3⟩ := h
  refine ⟨A, c, hv, h1, h2, fun hl => ?_⟩
  obtain ⟨b, o, hA, hb, hc⟩ := h3 hl
  refine ⟨b, o, hA, hb, fun k hk => ?_⟩
  rw [World.cell?_setCell_other w p ⟨b, o + k, none⟩ u (fun e => ?_)]
  · exact hc k hk
  · have := hc k hk
    rw [← e, hp] at this
    exact hx _ (Option.some.inj this)

theorem exE1 : chkC ⟨0, 164, 4, 0, [160, 0], 256, false⟩ = 0 ∧ encV ⟨0, 164, 4, 0, [160, 0], 256, false⟩ = [0, 164, 4, 0, 2, 160, 0, 0] := ⟨by decide, by decide +kernel⟩
theorem exE2 : chkC ⟨0, 164, 4, 0, [160, 0], 256, true⟩ = 0 ∧ encV ⟨0, 164, 4, 0, [160, 0], 256, true⟩ = [0, 164, 4, 0, 0, 0, 2, 160, 0, 1, 0] := ⟨by decide, by decide +kernel⟩
theorem exD1 : decE [0, 176, 0, 0, 0] = 0 ∧ decV [0, 176, 0, 0, 0] = ⟨0, 176, 0, 0, [], 256, false⟩ := ⟨by decide +kernel, rfl⟩
theorem exD2 : decE [0, 176, 0, 0, 0, 0, 0] = 0 ∧ decV [0, 176, 0, 0, 0, 0, 0] = ⟨0, 176, 0, 0, [], 65536, true⟩ := ⟨by decide +kernel, rfl⟩
theorem exK1 : clsB 148 = true ∧ clsK 148 = ⟨0, true, true, true⟩ := ⟨by decide, rfl⟩
theorem exK2 : clsB 8 = false ∧ clsK 8 = ⟨0, false, false, false⟩ := ⟨by decide, rfl⟩
theorem exH1 : hexL [0, 164, 4, 0, 2, 160, 0, 0] = [48, 48, 97, 52, 48, 52, 48, 48, 48, 50, 97, 48, 48, 48, 48, 48] := by decide +kernel
theorem exH2 : hexL [0, 164, 4, 0, 0, 0, 2, 160, 0, 1, 0] = [48, 48, 97, 52, 48, 52, 48, 48, 48, 48, 48, 48, 48, 50, 97, 48, 48, 48, 48, 49, 48, 48] := by decide +kernel
theorem SL.opened {w : World} {B : Nat} {v : Value} {l : List UInt8} (h : SL w B v l) : ∃ A c, v = .slice A l.length c := by
  obtain ⟨A, c, rfl, _⟩ := h
  exact ⟨A, c, rfl⟩

set_option maxRecDepth 100000 in
set_option maxHeartbeats 3200000 in
theorem example_any (w : World) : Calls Try.prog 11 #[] w fun e w' => e = .returned (.bool true) ∧ Below w.heap.size w w' := by
  have HE1 : Hid (∀ (A : Option Addr) (c : Nat) (W : World), SL W W.heap.size (.slice A 2 c) [160, 0] → Calls Try.prog 12 #[.agg #[.int .i64 0, .int .i64 164, .int .i64 4, .int .i64 0, .slice A 2 c, .int .i64 256, .bool false]] W fun e w' => ∃ v', e = .returned (.tuple #[v', .int .i64 0]) ∧ SL w' w'.heap.size v' [0, 164, 4, 0, 2, 160, 0, 0] ∧ Below W.heap.size W w') := fun A c W h => by
    have := penc_any ⟨0, 164, 4, 0, [160, 0], 256, false⟩ (.slice A 2 c) W h (by decide)
    unfold EncR at this
    rw [exE1.1, exE1.2] at this
    exact this
  have HE2 : Hid (∀ (A : Option Addr) (c : Nat) (W : World), SL W W.heap.size (.slice A 2 c) [160, 0] → Calls Try.prog 12 #[.agg #[.int .i64 0, .int .i64 164, .int .i64 4, .int .i64 0, .slice A 2 c, .int .i64 256, .bool true]] W fun e w' => ∃ v', e = .returned (.tuple #[v', .int .i64 0]) ∧ SL w' w'.heap.size v' [0, 164, 4, 0, 0, 0, 2, 160, 0, 1, 0] ∧ Below W.heap.size W w') := fun A c W h => by
    have := penc_any ⟨0, 164, 4, 0, [160, 0], 256, true⟩ (.slice A 2 c) W h (by decide)
    unfold EncR at this
    rw [exE2.1, exE2.2] at this
    exact this
  have HD1 : Hid (∀ (v : Value) (W : World), SL W W.heap.size v [0, 176, 0, 0, 0] → Calls Try.prog 19 #[v] W fun e w' => ∃ A c, e = .returned (.tuple #[.agg #[.int .i64 0, .int .i64 176, .int .i64 0, .int .i64 0, .slice A 0 c, .int .i64 256, .bool false], .int .i64 0]) ∧ Below W.heap.size W w') := fun v W h => by
    have := pdec_any [0, 176, 0, 0, 0] v W h (by decide)
    unfold DecR at this
    rw [exD1.1, exD1.2] at this
    refine this.mono ?_
    rintro e w' ⟨d, rfl, hd, hb⟩
    obtain ⟨A, c, rfl⟩ := hd.opened
    exact ⟨A, c, rfl, hb⟩
  have HD2 : Hid (∀ (v : Value) (W : World), SL W W.heap.size v [0, 176, 0, 0, 0, 0, 0] → Calls Try.prog 19 #[v] W fun e w' => ∃ A c, e = .returned (.tuple #[.agg #[.int .i64 0, .int .i64 176, .int .i64 0, .int .i64 0, .slice A 0 c, .int .i64 65536, .bool true], .int .i64 0]) ∧ Below W.heap.size W w') := fun v W h => by
    have := pdec_any [0, 176, 0, 0, 0, 0, 0] v W h (by decide)
    unfold DecR at this
    rw [exD2.1, exD2.2] at this
    refine this.mono ?_
    rintro e w' ⟨d, rfl, hd, hb⟩
    obtain ⟨A, c, rfl⟩ := hd.opened
    exact ⟨A, c, rfl, hb⟩
  have HK1 : Hid (∀ W : World, Calls Try.prog 30 #[.int .i64 148] W fun e w' => e = .returned (.tuple #[.agg #[.int .i64 0, .bool true, .bool true, .bool true], .bool true]) ∧ Below W.heap.size W w') := fun W => by
    have := pcls_any 148 W
    rw [exK1.1, exK1.2] at this
    exact this
  have HK2 : Hid (∀ W : World, Calls Try.prog 30 #[.int .i64 8] W fun e w' => e = .returned (.tuple #[.agg #[.int .i64 0, .bool false, .bool false, .bool false], .bool false]) ∧ Below W.heap.size W w') := fun W => by
    have := pcls_any 8 W
    rw [exK2.1, exK2.2] at this
    exact this
  have HX1 : Hid (∀ (v : Value) (W : World), SL W W.heap.size v [0, 164, 4, 0, 2, 160, 0, 0] → Calls Try.prog 39 #[v] W fun e w' => e = .returned (.string ⟨#[48, 48, 97, 52, 48, 52, 48, 48, 48, 50, 97, 48, 48, 48, 48, 48]⟩) ∧ ∃ n, w' = W.drewN n) := fun v W h => by
    have := rhex_any [0, 164, 4, 0, 2, 160, 0, 0] v W _ h (by decide)
    rw [exH1] at this
    exact this
  have HX2 : Hid (∀ (v : Value) (W : World), SL W W.heap.size v [0, 164, 4, 0, 0, 0, 2, 160, 0, 1, 0] → Calls Try.prog 39 #[v] W fun e w' => e = .returned (.string ⟨#[48, 48, 97, 52, 48, 52, 48, 48, 48, 48, 48, 48, 48, 50, 97, 48, 48, 48, 48, 49, 48, 48]⟩) ∧ ∃ n, w' = W.drewN n) := fun v W h => by
    have := rhex_any [0, 164, 4, 0, 0, 0, 2, 160, 0, 1, 0] v W _ h (by decide)
    rw [exH2] at this
    exact this
  have HU := Lib.hid (SL.lit' w [160, 0] (by decide))
  go_enter Try.func11, Try.ntmps11
  go_wp2_with fail
  refine (HE1.out _ _ _ (HU.out.on (alloc_below _ _))).mono ?_
  rintro e w1 ⟨v1, rfl, hv1, hb1⟩

  have hb1' : Below (w.heap.size + 1 + 1) ((w.alloc (.cells ([160, 0].map bv).toArray 5)).alloc (.cells #[.int .i64 0, .int .i64 164, .int .i64 4, .int .i64 0, .slice (some ⟨w.heap.size, 0, none⟩) 2 2, .int .i64 256, .bool false] 24)) w1 := by rw [alloc_size, alloc_size] at hb1; exact hb1
  have hrow : w1.heap[w.heap.size + 1]? = some (.cells #[.int .i64 0, .int .i64 164, .int .i64 4, .int .i64 0, .slice (some ⟨w.heap.size, 0, none⟩) 2 2, .int .i64 256, .bool false] 24 (0, 0)) := by
    rw [hb1'.block _ (by omega)]
    have := heap_alloc_new (w.alloc (.cells ([160, 0].map bv).toArray 5)) (.cells #[.int .i64 0, .int .i64 164, .int .i64 4, .int .i64 0, .slice (some ⟨w.heap.size, 0, none⟩) 2 2, .int .i64 256, .bool false] 24)
    rw [alloc_size] at this
    exact this
  have c0 := cell_of_row _ _ 0 _ _ _ hrow
  have c1 := cell_of_row _ _ 1 _ _ _ hrow
  have c2 := cell_of_row _ _ 2 _ _ _ hrow
  have c3 := cell_of_row _ _ 3 _ _ _ hrow
  have c4 := cell_of_row _ _ 4 _ _ _ hrow
  have c5 := cell_of_row _ _ 5 _ _ _ hrow
  have c6 := cell_of_row _ _ 6 _ _ _ hrow
  have f6 := frozen_of_row _ _ 6 _ _ hrow
  have HD1' := Lib.hid ((HU.out.on (alloc_below _ _)).on hb1)
  have hw1 : Below w.heap.size w w1 := ((alloc_below w _).alloc (by rw [alloc_size]; omega) _).trans (hb1'.mono (by omega))
  have HW1 := Lib.hid hw1
  have hlt1 : w.heap.size + 1 < w1.heap.size := by have := hb1'.size; rw [alloc_size, alloc_size] at this; omega
  have hset := fun (u : Value) => hv1.set_other ⟨w.heap.size + 1, 6, none⟩ (.bool false) u (c6.trans rfl) (fun n h => by cases h)
  have hset2 := fun (u : Value) => HD1'.out.set_other ⟨w.heap.size + 1, 6, none⟩ (.bool false) u (c6.trans rfl) (fun n h => by cases h)
  have HSET := Lib.hid hset
  have HSET2 := Lib.hid hset2
  clear hb1 hb1' hrow hv1 hw1 hset hset2
  go_wp2_with fail
  refine (HE2.out _ _ _ (by have := HSET2.out (.bool true); simpa using this)).mono ?_
  rintro e w2 ⟨v2, rfl, hv2, hb2⟩
  have hw2' : Below w.heap.size w (w1.setCell ⟨w.heap.size + 1, 6, none⟩ (.bool true)) := HW1.out.setCell (p := ⟨w.heap.size + 1, 6, none⟩) (by show w.heap.size ≤ w.heap.size + 1; omega) _
  have hw2 : Below w.heap.size w w2 := hw2'.trans (hb2.mono hw2'.size)
  have hv1 := (show SL _ (w1.setCell ⟨w.heap.size + 1, 6, none⟩ (.bool true)).heap.size _ _ from by have := HSET.out (.bool true); simpa using this).on hb2
  have HV1 := Lib.hid hv1
  have HV2 := Lib.hid hv2
  have HW2 := Lib.hid hw2
  obtain ⟨A1, k1, rfl⟩ := hv1.opened
  obtain ⟨A2, k2, rfl⟩ := hv2.opened
  have HL5 := Lib.hid (SL.lit' w2 [0, 176, 0, 0, 0] (by decide))
  clear c0 c1 c2 c3 c4 c5 c6 f6 hb2 hw2' hw2 hv1 hv2 hlt1
  go_wp2_with fail
  refine (HD1.out _ _ HL5.out).mono ?_
  rintro e w3 ⟨B1, m1, rfl, hb3⟩
  have hw23 : Below w2.heap.size w2 w3 := (alloc_below _ _).trans (hb3.mono (by rw [alloc_size]; omega))
  have HW23 := Lib.hid hw23

  have hl7 := SL.lit' (w3.alloc (.cells #[.int .i64 0, .int .i64 176, .int .i64 0, .int .i64 0, .slice B1 0 m1, .int .i64 256, .bool false] 24)) [0, 176, 0, 0, 0, 0, 0] (by decide)
  rw [alloc_size w3] at hl7
  have HL7 := Lib.hid hl7
  clear hb3 hw23 hl7
  go_wp2_with fail
  refine (HD2.out _ _ HL7.out).mono ?_
  rintro e w4 ⟨B2, m2, rfl, hb4⟩
  have hw34 : Below (w3.alloc (.cells #[.int .i64 0, .int .i64 176, .int .i64 0, .int .i64 0, .slice B1 0 m1, .int .i64 256, .bool false] 24)).heap.size (w3.alloc (.cells #[.int .i64 0, .int .i64 176, .int .i64 0, .int .i64 0, .slice B1 0 m1, .int .i64 256, .bool false] 24)) w4 := (alloc_below _ _).trans (hb4.mono (by simp))
  have x5 : w4.cell? ⟨w3.heap.size, 5, none⟩ = some (.int .i64 256) := box_cell (by rw [alloc_size] at hw34; exact hw34) 5 _ rfl
  have x6 : w4.cell? ⟨w3.heap.size, 6, none⟩ = some (.bool false) := box_cell (by rw [alloc_size] at hw34; exact hw34) 6 _ rfl
  have hl34 : w3.heap.size < w4.heap.size := by have := hw34.size; rw [alloc_size] at this; omega
  have HW34 := Lib.hid ((alloc_below w3 (.cells #[.int .i64 0, .int .i64 176, .int .i64 0, .int .i64 0, .slice B1 0 m1, .int .i64 256, .bool false] 24)).trans (hw34.mono (by rw [alloc_size]; omega)))
  clear hb4 hw34
  go_wp2_with fail
  refine (HK1.out _).mono ?_
  rintro e w5 ⟨rfl, hb5⟩
  have y5 : w5.cell? ⟨w4.heap.size, 5, none⟩ = some (.int .i64 65536) := box_cell (by rw [alloc_size] at hb5; exact hb5) 5 _ rfl
  have y6 : w5.cell? ⟨w4.heap.size, 6, none⟩ = some (.bool true) := box_cell (by rw [alloc_size] at hb5; exact hb5) 6 _ rfl
  have hl45 : w4.heap.size < w5.heap.size := by have := hb5.size; rw [alloc_size] at this; omega
  have hw45 := (alloc_below w4 (.cells #[.int .i64 0, .int .i64 176, .int .i64 0, .int .i64 0, .slice B2 0 m2, .int .i64 65536, .bool true] 24)).trans (hb5.mono (by rw [alloc_size]; omega))
  have x5' := (hw45.cell (p := ⟨w3.heap.size, 5, none⟩) hl34).trans x5
  have x6' := (hw45.cell (p := ⟨w3.heap.size, 6, none⟩) hl34).trans x6
  have HW45 := Lib.hid hw45
  clear hb5 hw45 x5 x6
  go_wp2_with fail
  refine (HK2.out _).mono ?_
  rintro e w6 ⟨rfl, hb6⟩
  have z0 : w6.cell? ⟨w5.heap.size, 0, none⟩ = some (.int .i64 0) := box_cell (by rw [alloc_size] at hb6; exact hb6) 0 _ rfl
  have z1 : w6.cell? ⟨w5.heap.size, 1, none⟩ = some (.bool true) := box_cell (by rw [alloc_size] at hb6; exact hb6) 1 _ rfl
  have z2 : w6.cell? ⟨w5.heap.size, 2, none⟩ = some (.bool true) := box_cell (by rw [alloc_size] at hb6; exact hb6) 2 _ rfl
  have z3 : w6.cell? ⟨w5.heap.size, 3, none⟩ = some (.bool true) := box_cell (by rw [alloc_size] at hb6; exact hb6) 3 _ rfl
  have hl56 : w5.heap.size < w6.heap.size := by have := hb6.size; rw [alloc_size] at this; omega
  have hw56 := (alloc_below w5 (.cells #[.int .i64 0, .bool true, .bool true, .bool true] 47)).trans (hb6.mono (by rw [alloc_size]; omega))
  have y5' := (hw56.cell (p := ⟨w4.heap.size, 5, none⟩) hl45).trans y5
  have y6' := (hw56.cell (p := ⟨w4.heap.size, 6, none⟩) hl45).trans y6
  have x5 := (hw56.cell (p := ⟨w3.heap.size, 5, none⟩) (by show w3.heap.size < w5.heap.size; omega)).trans x5'
  have x6 := (hw56.cell (p := ⟨w3.heap.size, 6, none⟩) (by show w3.heap.size < w5.heap.size; omega)).trans x6'
  have HW56 := Lib.hid hw56
  have hl3 := SL.lit' (w6.alloc (.cells #[.int .i64 0, .bool false, .bool false, .bool false] 47)) [1, 2, 3] (by decide)
  rw [alloc_size w6] at hl3
  have HL3 := Lib.hid hl3
  clear hl3 hb6 hw56 x5' x6' y5 y6
  go_wp2_with fail
  refine (pchain_ex _ _ HL3.out).mono ?_
  rintro e w7 ⟨gg, Ag, cg, rfl, t0, t7, t11, hb7⟩
  have hw67 : Below w6.heap.size w6 w7 := ((alloc_below w6 _).alloc (by rw [alloc_size]; omega) _).trans (hb7.mono (by rw [alloc_size, alloc_size]; omega))
  have a5 := (hw67.cell (p := ⟨w3.heap.size, 5, none⟩) (by show w3.heap.size < w6.heap.size; omega)).trans x5
  have a6 := (hw67.cell (p := ⟨w3.heap.size, 6, none⟩) (by show w3.heap.size < w6.heap.size; omega)).trans x6
  have b5 := (hw67.cell (p := ⟨w4.heap.size, 5, none⟩) (by show w4.heap.size < w6.heap.size; omega)).trans y5'
  have b6 := (hw67.cell (p := ⟨w4.heap.size, 6, none⟩) (by show w4.heap.size < w6.heap.size; omega)).trans y6'
  have d0 := (hw67.cell (p := ⟨w5.heap.size, 0, none⟩) hl56).trans z0
  have d1 := (hw67.cell (p := ⟨w5.heap.size, 1, none⟩) hl56).trans z1
  have d2 := (hw67.cell (p := ⟨w5.heap.size, 2, none⟩) hl56).trans z2
  have d3 := (hw67.cell (p := ⟨w5.heap.size, 3, none⟩) hl56).trans z3
  have s3 := HW23.out.size
  have s4 := HW34.out.size
  have s5 := HW45.out.size
  have s6 := HW56.out.size
  have hw27 : Below w2.heap.size w2 w7 := (((HW23.out.trans (HW34.out.mono s3)).trans (HW45.out.mono (Nat.le_trans s3 s4))).trans (HW56.out.mono (Nat.le_trans (Nat.le_trans s3 s4) s5))).trans (hw67.mono (Nat.le_trans (Nat.le_trans (Nat.le_trans s3 s4) s5) s6))
  have HW7 := Lib.hid (HW2.out.trans (hw27.mono HW2.out.size))
  have HG1 := Lib.hid (HV1.out.on hw27)
  have HG2 := Lib.hid (HV2.out.on hw27)
  clear s3 s4 s5 s6 hb7 hw67 hw27 x5 x6 y5' y6' z0 z1 z2 z3
  go_wp2_with fail
  refine (HX1.out _ _ HG1.out).mono ?_
  rintro e w8 ⟨rfl, n8, rfl⟩
  go_wp2_with fail
  refine (HX2.out _ _ (HG2.out.on (drewN_below _ _ _))).mono ?_
  rintro e w9 ⟨rfl, n9, rfl⟩
  go_wp2_with fail
  go_ret
  exact ⟨rfl, below_drewN HW7.out _⟩
end Go.Proofs.Ytjoibonbmalbdaa
