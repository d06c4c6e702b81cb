/-
  The walk of awake.
-/
import Derived.Test.YtdalcldilmmgmaaDoorCvb
namespace Go.Proofs.YtdalcldilmmgmaaDoor
set_option linter.unusedVariables false
set_option linter.unusedSimpArgs false
open Go.RowKit

set_option maxRecDepth 100000 in
set_option maxHeartbeats 1600000 in
theorem awake_any (w : World) : Calls Tryd.prog 9 #[] w fun e w' => e = .returned (.bool true) ∧ Below w.heap.size w w' := by
  have HK1 : Hid (∀ W, Calls Tryd.prog 24 #[.int .u8 1] W (GiV W (keyA 1))) := fun W => pkey_any 1 W
  have HK2 : Hid (∀ W, Calls Tryd.prog 24 #[.int .u8 2] W (GiV W (keyA 2))) := fun W => pkey_any 2 W
  have HK3 : Hid (∀ W, Calls Tryd.prog 24 #[.int .u8 3] W (GiV W (keyA 3))) := fun W => pkey_any 3 W
  have HK4 : Hid (∀ W, Calls Tryd.prog 24 #[.int .u8 4] W (GiV W (keyA 4))) := fun W => pkey_any 4 W
  have hob8 := fun W => ob_zeros 8 (by omega) W
  have hmk := fun W => mkz8 W
  obtain ⟨Z, hZ⟩ : ∃ Z, Z = Obj.cells (List.replicate 8 (Value.int .u8 0)).toArray 5 := ⟨_, rfl⟩
  rw [← hZ] at hmk
  simp only [← hZ] at hob8
  have HOB : Hid (∀ W : World, OB (W.alloc Z) W.heap.size (.slice (some ⟨W.heap.size, 0, none⟩) 8 8) z8A) := hob8
  clear hob8 hZ
  go_enter Tryd.func9, Tryd.ntmps9
  go_wp2_with fail
  refine (HK1.out _).mono ?_
  rintro e w1 ⟨v1, rfl, hv1, hb1⟩
  obtain ⟨A1, c1, rfl, hs1⟩ := sl_key hv1
  go_wp2_with fail
  refine (HK2.out _).mono ?_
  rintro e w2 ⟨v2, rfl, hv2, hb2⟩
  obtain ⟨A2, c2, rfl, hs2⟩ := sl_key hv2
  go_wp2_with fail
  refine (HK3.out _).mono ?_
  rintro e w3 ⟨v3, rfl, hv3, hb3⟩
  obtain ⟨A3, c3, rfl, hs3⟩ := sl_key hv3
  go_wp2_with fail
  refine (HK4.out _).mono ?_
  rintro e w4 ⟨v4, rfl, hv4, hb4⟩
  obtain ⟨A4, c4, rfl, hs4⟩ := sl_key hv4
  go_wp2_with fail
  have hb5 := alloc_below w4 (Obj.cells #[.slice A1 16 c1, .slice A2 16 c2, .slice A3 16 c3, .slice A4 16 c4, .int .i64 1] 24)
  have hn5 := heap_alloc_new w4 (Obj.cells #[.slice A1 16 c1, .slice A2 16 c2, .slice A3 16 c3, .slice A4 16 c4, .int .i64 1] 24)
  have hh5 := alloc_size w4 (Obj.cells #[.slice A1 16 c1, .slice A2 16 c2, .slice A3 16 c3, .slice A4 16 c4, .int .i64 1] 24)
  generalize w4.alloc (Obj.cells #[.slice A1 16 c1, .slice A2 16 c2, .slice A3 16 c3, .slice A4 16 c4, .int .i64 1] 24) = w5 at *
  have hz1 := hb1.size
  have hz2 := hb2.size
  have hz3 := hb3.size
  have hz4 := hb4.size
  have hs1 := ((hs1.on hb2).on hb3).on hb4 |>.on hb5
  have hs2 := ((hs2.on hb3).on hb4).on hb5
  have hs3 := (hs3.on hb4).on hb5
  have hs4 := hs4.on hb5
  have HB5 : Hid (Below w.heap.size w w5) := hb1.trans ((hb2.mono hz1).trans ((hb3.mono (Nat.le_trans hz1 hz2)).trans ((hb4.mono (Nat.le_trans hz1 (Nat.le_trans hz2 hz3))).trans (hb5.mono (Nat.le_trans hz1 (Nat.le_trans hz2 (Nat.le_trans hz3 hz4)))))))
  have HL5 : Hid (w.heap.size ≤ w5.heap.size) := HB5.out.size
  have HNE := Lib.hid (fun W2 vm hb hm => new_ex w5 W2 A1 A2 A3 A4 c1 c2 c3 c4 vm hb hs1 hs2 hs3 hs4 hm)
  have HB : Hid (w4.heap.size < w5.heap.size) := by show _ < _; omega
  have HKS := Lib.hid (And.intro hs1 (And.intro hs2 (And.intro hs3 hs4)))
  have HN5 := Lib.hid hn5
  have hS6 : True := trivial
  have HC1 := Lib.hid (HNE.out (w5.alloc Z) _ (alloc_below _ _) (HOB.out w5).sl)
  have HC2 := Lib.hid (HNE.out (w5.alloc Z).drew _ (alloc_below _ _).drew ((HOB.out w5).sl.on (Below.refl _ _).drew))
  have HC3 := Lib.hid (HNE.out (w5.drew.alloc Z) _ ((Below.refl _ _).drew.alloc (Nat.le_refl _) Z) (HOB.out w5.drew).sl)
  clear hs1 hs2 hs3 hs4 hv1 hv2 hv3 hv4 hb1 hb2 hb3 hb4 hb5 hz1 hz2 hz3 hz4 hh5
  obtain ⟨q0, q1, q2, q3, q4⟩ := row5 hn5
  clear hn5
  go_region_held3 (fun W => W.cell? ⟨w4.heap.size, 0, none⟩ = some (.slice A1 16 c1) ∧ W.cell? ⟨w4.heap.size, 1, none⟩ = some (.slice A2 16 c2) ∧ W.cell? ⟨w4.heap.size, 2, none⟩ = some (.slice A3 16 c3) ∧ W.cell? ⟨w4.heap.size, 3, none⟩ = some (.slice A4 16 c4) ∧ W.cell? ⟨w4.heap.size, 4, none⟩ = some (.int .i64 1))
    (first | (go_keep; done) | exact hS6)
    (first
      | (go_at_call 8; (with_reducible refine HC1.out.mono ?_); rintro e w6 ⟨g1, hg1, rfl, hc6, hb6⟩; have hS6 := row5 ((hb6.block _ HB.out).trans HN5.out))
      | (go_at_call 8; (with_reducible refine HC2.out.mono ?_); rintro e w6 ⟨g1, hg1, rfl, hc6, hb6⟩; have hS6 := row5 ((hb6.block _ HB.out).trans HN5.out))
      | (go_at_call 8; (with_reducible refine HC3.out.mono ?_); rintro e w6 ⟨g1, hg1, rfl, hc6, hb6⟩; have hS6 := row5 ((hb6.block _ HB.out).trans HN5.out))
      | fail "none")
  have HN6 := Lib.hid ((hb6.block _ HB.out).trans HN5.out)
  have HB6 := Lib.hid hb6
  have HCH1 := Lib.hid hc6
  have HG1 := Lib.hid hg1
  have HNE6 := Lib.hid (fun W2 vm hb hm => new_ex w6 W2 A1 A2 A3 A4 c1 c2 c3 c4 vm hb (HKS.out.1.on hb6) (HKS.out.2.1.on hb6) (HKS.out.2.2.1.on hb6) (HKS.out.2.2.2.on hb6) hm)
  clear hb6 hc6 hg1 hS6 q0 q1 q2 q3 q4 HC1 HC2 HC3
  have HC1 := Lib.hid (HNE6.out (w6.alloc Z) _ (alloc_below _ _) (HOB.out w6).sl)
  have HC2 := Lib.hid (HNE6.out (w6.alloc Z).drew _ (alloc_below _ _).drew ((HOB.out w6).sl.on (Below.refl _ _).drew))
  have HC3 := Lib.hid (HNE6.out (w6.drew.alloc Z) _ ((Below.refl _ _).drew.alloc (Nat.le_refl _) Z) (HOB.out w6.drew).sl)
  obtain ⟨q0, q1, q2, q3, q4⟩ := row5 HN6.out
  have hS6 : True := trivial
  have HL6 : Hid (w4.heap.size < w6.heap.size) := Nat.lt_of_lt_of_le HB.out HB6.out.size
  go_wp2_with fail
  go_region_held3 (fun W => W.cell? ⟨w4.heap.size, 0, none⟩ = some (.slice A1 16 c1) ∧ W.cell? ⟨w4.heap.size, 1, none⟩ = some (.slice A2 16 c2) ∧ W.cell? ⟨w4.heap.size, 2, none⟩ = some (.slice A3 16 c3) ∧ W.cell? ⟨w4.heap.size, 3, none⟩ = some (.slice A4 16 c4) ∧ W.cell? ⟨w4.heap.size, 4, none⟩ = some (.int .i64 1))
    (first | (go_keep; done) | exact hS6)
    (first
      | (go_at_call 8; (with_reducible refine HC1.out.mono ?_); rintro e w7 ⟨g2, hg2, rfl, hc7, hb7⟩; have hS6 := row5 ((hb7.block _ HL6.out).trans HN6.out))
      | (go_at_call 8; (with_reducible refine HC2.out.mono ?_); rintro e w7 ⟨g2, hg2, rfl, hc7, hb7⟩; have hS6 := row5 ((hb7.block _ HL6.out).trans HN6.out))
      | (go_at_call 8; (with_reducible refine HC3.out.mono ?_); rintro e w7 ⟨g2, hg2, rfl, hc7, hb7⟩; have hS6 := row5 ((hb7.block _ HL6.out).trans HN6.out))
      | fail "none")
  have HCA := Lib.hid (HCH1.out.below hb7)
  have HCB := Lib.hid hc7
  have HLA := Lib.hid HCH1.out.lt
  have HNG : Hid (g1 ≠ g2) := by show _ ≠ _; have := HCH1.out.lt; omega
  have HBB : Hid (Below w.heap.size w w7) := (HB5.out.trans (HB6.out.mono HL5.out)).trans (hb7.mono (Nat.le_trans HL5.out HB6.out.size))
  have HGA : Hid (w.heap.size ≤ g1) := Nat.le_trans HL5.out HG1.out
  have HGB : Hid (w.heap.size ≤ g2) := Nat.le_trans HL5.out (Nat.le_trans HB6.out.size hg2)
  clear hb7 hc7 hg2 hS6 q0 q1 q2 q3 q4 HC1 HC2 HC3 HNE HNE6 HKS HN5 HN6 HB5 HL5 HB6 HCH1 HG1 HL6 HB hmk HOB HK1 HK2 HK3 HK4 HLA
  go_wp2_with fail
  refine (wrap_ex _ _ HCA.out).mono ?_
  rintro e w8 ⟨A8, c8, rfl, hv8, hk8⟩
  have HCB8 := Lib.hid (HCA.out.other HCB.out HNG.out hk8)
  have HBB8 := Lib.hid (HBB.out.trans (hk8.below HGA.out HBB.out.size))
  have HV8 := Lib.hid hv8
  clear hv8 hk8 HCA HCB HBB
  go_wp2_with fail
  have hb9 := alloc_below w8 (Obj.cells #[.int .i64 4, .int .i64 176, .int .i64 0, .int .i64 0, .slice A8 8 c8, .int .i64 4, .bool false] 30)
  have hn9 := heap_alloc_new w8 (Obj.cells #[.int .i64 4, .int .i64 176, .int .i64 0, .int .i64 0, .slice A8 8 c8, .int .i64 4, .bool false] 30)
  have HU := Lib.hid (unwrap_ex g2 _ A8 c8 (HCB8.out.below hb9) (HV8.out.on hb9))
  have HL8 := Lib.hid HCB8.out.lt
  have HBB9 := Lib.hid (HBB8.out.trans (hb9.mono HBB8.out.size))
  generalize w8.alloc (Obj.cells #[.int .i64 4, .int .i64 176, .int .i64 0, .int .i64 0, .slice A8 8 c8, .int .i64 4, .bool false] 30) = w9 at *
  have HN9 := Lib.hid hn9
  clear hb9 hn9
  refine HU.out.mono ?_
  rintro e w10 ⟨A10, c10, rfl, hc10, hk10⟩
  have HN10 := Lib.hid ((hk10.block _ (blk_lt HN9.out) (by have := HL8.out; omega)).trans HN9.out)
  have HBB10 := Lib.hid (HBB9.out.trans (hk10.below HGB.out HBB9.out.size))
  have HC10 := Lib.hid hc10
  obtain ⟨⟨q0, q1, q2, q3, q4, q5, q6⟩, ⟨g0, g1', g2', g3, g4, g5, g6⟩⟩ := cells7 HN10.out
  clear hc10 hk10 HU
  have hx0 : w8.heap.size < w10.heap.size := blk_lt HN10.out
  have hx1 : w8.heap.size ≠ w10.heap.size := by omega
  have hx2 : w10.heap.size ≠ w8.heap.size := by omega
  have HB11 := Lib.hid (HBB10.out.trans ((alloc_below w10 (Obj.cells #[.int .i64 0, .int .i64 176, .int .i64 0, .int .i64 0, .slice A10 0 c10, .int .i64 4, .bool false] 30)).mono HBB10.out.size))
  have HC11 := Lib.hid (HC10.out.below (alloc_below w10 (Obj.cells #[.int .i64 0, .int .i64 176, .int .i64 0, .int .i64 0, .slice A10 0 c10, .int .i64 4, .bool false] 30)))
  have HCO := Lib.hid (pcount_any g2 _ _ HC11.out)
  have HLV := Lib.hid (plevel_any g2 _ _ HC11.out)
  have e8 : (chA.next DA).cv.length = 8 := (okcA.next DA (fun _ => by rw [DA_len]; decide)).cv
  rw [e8] at HCO HLV
  have HCO2 : Hid (Calls Tryd.prog 13 #[.pointer (some ⟨g2, 0, none⟩)] (w10.alloc (Obj.cells #[.int .i64 0, .int .i64 176, .int .i64 0, .int .i64 0, .slice A10 0 c10, .int .i64 4, .bool false] 30)) fun e w' => e = .returned (.int .i64 1) ∧ (w10.alloc (Obj.cells #[.int .i64 0, .int .i64 176, .int .i64 0, .int .i64 0, .slice A10 0 c10, .int .i64 4, .bool false] 30)) = w') := HCO.out
  have HLV2 : Hid (Calls Tryd.prog 17 #[.pointer (some ⟨g2, 0, none⟩)] (w10.alloc (Obj.cells #[.int .i64 0, .int .i64 176, .int .i64 0, .int .i64 0, .slice A10 0 c10, .int .i64 4, .bool false] 30)) fun e w' => e = .returned (.int .i64 1) ∧ (w10.alloc (Obj.cells #[.int .i64 0, .int .i64 176, .int .i64 0, .int .i64 0, .slice A10 0 c10, .int .i64 4, .bool false] 30)) = w') := HLV.out
  clear HCO HLV
  go_wp2_with (first
    | (go_at_call 13; refine HCO2.out.mono ?_; rintro e w' ⟨rfl, rfl⟩)
    | (go_at_call 17; refine HLV2.out.mono ?_; rintro e w' ⟨rfl, rfl⟩)
    | fail "none")
  go_ret
  exact ⟨rfl, HB11.out⟩
end Go.Proofs.YtdalcldilmmgmaaDoor
