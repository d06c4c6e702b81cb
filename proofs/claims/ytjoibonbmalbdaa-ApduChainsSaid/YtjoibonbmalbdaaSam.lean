/-
  The walks of Same, of the program and of the reference, and of the law ApduSame.
-/
import Derived.Test.YtjoibonbmalbdaaExh
import Derived.Deep.RegionHeld3
namespace Go.Proofs.Ytjoibonbmalbdaa
set_option linter.unusedVariables false
set_option linter.unusedSimpArgs false
open Go.RowKit

theorem beq_any (a b : List UInt8) (v u : Value) (w : World) (B : Nat) (ha : SL w B v a) (hb : SL w B u b) :
    Calls Try.prog 53 #[v, u] w fun e w' => e = .returned (.bool (a == b)) ∧ w = w' := by
  obtain ⟨A1, c1, rfl, h11, h12, h13⟩ := ha
  obtain ⟨A2, c2, rfl, h21, h22, h23⟩ := hb
  have hc := Try.bytes_Equal_all A1 A2 a.length c1 b.length c2 _ _ w (by simp) (by simp) (SL.bytesIn h13) (SL.bytesIn h23)
  rw [bytesOf_map, bytesOf_map] at hc
  exact hc.mono fun e w' ⟨h1, h2⟩ => ⟨h1, h2.symm⟩
theorem cmpL_beq (a b : List UInt8) : (cmpL a b == 0) = (a == b) := by
  rw [Bool.eq_iff_iff, beq_iff_eq, beq_iff_eq]
  exact ⟨cmpL_eq_zero, fun h => by rw [h]; exact cmpL_self b⟩
/-- The reference's Same of byte slices. -/
theorem rsame_any (a b : List UInt8) (v u : Value) (w : World) (B : Nat) (ha : SL w B v a) (hb : SL w B u b) :
    Calls Try.prog 18 #[v, u] w fun e w' => e = .returned (.bool (a == b)) ∧ ∃ n, w' = w.drewN n := by
  have HC := Lib.hid (rcmp_any a b v u w B ha hb)
  have HQ := Lib.hid (cmpL_beq a b)
  obtain ⟨A1, c1, rfl, h11, h12, h13⟩ := ha
  obtain ⟨A2, c2, rfl, h21, h22, h23⟩ := hb
  go_enter Try.func18, Try.ntmps18
  go_wp2_with fail
  refine HC.out.mono ?_
  rintro e w' ⟨rfl, n, rfl⟩
  go_wp2_with fail
  go_ret
  exact ⟨by rw [← HQ.out]; rfl, n, rfl⟩

def sameC (a b : Cm) : Bool := a.cla == b.cla && a.ins == b.ins && a.p1 == b.p1 && a.p2 == b.p2 && a.data == b.data && a.le == b.le && a.long == b.long

set_option maxRecDepth 100000 in
set_option maxHeartbeats 1600000 in
theorem psame_any (a b : Cm) (v u : Value) (w : World) (ha : SL w w.heap.size v a.data) (hb : SL w w.heap.size u b.data) :
    Calls Try.prog 25 #[a.val v, b.val u] w fun e w' => e = .returned (.bool (sameC a b)) ∧ Below w.heap.size w w' := by
  have HA := Lib.hid ha
  have HB := Lib.hid hb
  obtain ⟨A1, c1, rfl, _, _, _⟩ := ha
  obtain ⟨A2, c2, rfl, _, _, _⟩ := hb
  obtain ⟨a0, a1, a2, a3, ad, ale, al⟩ := a
  obtain ⟨b0, b1, b2, b3, bd, ble, bl⟩ := b
  have HD := fun (W : World) (hW : Below w.heap.size w W) => beq_any ad bd _ _ W _ (HA.out.on hW) (HB.out.on hW)
  have HD := Lib.hid HD
  have HE : Hid (sameC ⟨a0, a1, a2, a3, ad, ale, al⟩ ⟨b0, b1, b2, b3, bd, ble, bl⟩ = (a0 == b0 && a1 == b1 && a2 == b2 && a3 == b3 && ad == bd && ale == ble && al == bl)) := rfl
  simp only [Cm.val]
  have h2 : Below w.heap.size w ((w.alloc (.cells #[.int .i64 a0, .int .i64 a1, .int .i64 a2, .int .i64 a3, .slice A1 ad.length c1, .int .i64 ale, .bool al] 24)).alloc (.cells #[.int .i64 b0, .int .i64 b1, .int .i64 b2, .int .i64 b3, .slice A2 bd.length c2, .int .i64 ble, .bool bl] 24)) :=
    (alloc_below w _).alloc (by rw [alloc_size]; omega) _
  have HW := Lib.hid h2
  clear h2
  cases h0 : (a0 == b0)
  · rw [h0] at HE
    go_enter Try.func25, Try.ntmps25
    go_wp2_with fail
    go_ret
    exact ⟨by rw [HE.out]; rfl, HW.out⟩
  cases h1 : (a1 == b1)
  · rw [h0, h1] at HE
    go_enter Try.func25, Try.ntmps25
    go_wp2_with fail
    go_ret
    exact ⟨by rw [HE.out]; rfl, HW.out⟩
  cases h2 : (a2 == b2)
  · rw [h0, h1, h2] at HE
    go_enter Try.func25, Try.ntmps25
    go_wp2_with fail
    go_ret
    exact ⟨by rw [HE.out]; rfl, HW.out⟩
  cases h3 : (a3 == b3)
  · rw [h0, h1, h2, h3] at HE
    go_enter Try.func25, Try.ntmps25
    go_wp2_with fail
    go_ret
    exact ⟨by rw [HE.out]; rfl, HW.out⟩
  rw [h0, h1, h2, h3] at HE
  cases h4 : (ad == bd)
  · rw [h4] at HE HD
    clear h4
    go_enter Try.func25, Try.ntmps25
    go_wp2_with fail
    refine (HD.out _ HW.out).mono ?_
    rintro e w1 ⟨rfl, rfl⟩
    go_wp2_with fail
    go_ret
    exact ⟨by rw [HE.out]; rfl, HW.out⟩
  rw [h4] at HE HD
  clear h4
  cases h5 : (ale == ble)
  · rw [h5] at HE
    go_enter Try.func25, Try.ntmps25
    go_wp2_with fail
    refine (HD.out _ HW.out).mono ?_
    rintro e w1 ⟨rfl, rfl⟩
    go_wp2_with fail
    go_ret
    exact ⟨by rw [HE.out]; rfl, HW.out⟩
  rw [h5] at HE
  go_enter Try.func25, Try.ntmps25
  go_wp2_with fail
  refine (HD.out _ HW.out).mono ?_
  rintro e w1 ⟨rfl, rfl⟩
  go_wp2_with fail
  go_ret
  exact ⟨by rw [HE.out]; rfl, HW.out⟩

theorem sameC_alt (a b : Cm) : sameC a b = (a.cla == b.cla && a.ins == b.ins && a.p1 == b.p1 && a.p2 == b.p2 && a.le == b.le && a.long == b.long && a.data == b.data) := by
  unfold sameC
  generalize (a.data == b.data) = x
  generalize (a.le == b.le) = y
  generalize (a.long == b.long) = z
  cases x <;> cases y <;> cases z <;> simp
theorem sameC_self (a : Cm) : sameC a a = true := by simp [sameC]

set_option maxRecDepth 100000 in
set_option maxHeartbeats 1600000 in
theorem rsamec_any (a b : Cm) (v u : Value) (w : World) (ha : SL w w.heap.size v a.data) (hb : SL w w.heap.size u b.data) :
    Calls Try.prog 23 #[a.val v, b.val u] w fun e w' => e = .returned (.bool (sameC a b)) ∧ Below w.heap.size w w' := by
  have HA := Lib.hid ha
  have HB := Lib.hid hb
  have HE := sameC_alt a b
  obtain ⟨A1, c1, rfl, _, _, _⟩ := ha
  obtain ⟨A2, c2, rfl, _, _, _⟩ := hb
  obtain ⟨a0, a1, a2, a3, ad, ale, al⟩ := a
  obtain ⟨b0, b1, b2, b3, bd, ble, bl⟩ := b
  have HD := fun (W : World) (hW : Below w.heap.size w W) => rsame_any ad bd _ _ W _ (HA.out.on hW) (HB.out.on hW)
  have HD := Lib.hid HD
  generalize sameC ⟨a0, a1, a2, a3, ad, ale, al⟩ ⟨b0, b1, b2, b3, bd, ble, bl⟩ = S at *
  simp only at HE
  have HE' := Lib.hid HE
  clear HE
  simp only [Cm.val]
  have h2 : Below w.heap.size w ((w.alloc (.cells #[.int .i64 a0, .int .i64 a1, .int .i64 a2, .int .i64 a3, .slice A1 ad.length c1, .int .i64 ale, .bool al] 24)).alloc (.cells #[.int .i64 b0, .int .i64 b1, .int .i64 b2, .int .i64 b3, .slice A2 bd.length c2, .int .i64 ble, .bool bl] 24)) :=
    (alloc_below w _).alloc (by rw [alloc_size]; omega) _
  have HW := Lib.hid h2
  clear h2
  cases h0 : (a0 == b0)
  · rw [h0] at HE'
    go_enter Try.func23, Try.ntmps23
    go_wp2_with fail
    go_ret
    exact ⟨by rw [HE'.out]; rfl, HW.out⟩
  cases h1 : (a1 == b1)
  · rw [h0, h1] at HE'
    go_enter Try.func23, Try.ntmps23
    go_wp2_with fail
    go_ret
    exact ⟨by rw [HE'.out]; rfl, HW.out⟩
  cases h2 : (a2 == b2)
  · rw [h0, h1, h2] at HE'
    go_enter Try.func23, Try.ntmps23
    go_wp2_with fail
    go_ret
    exact ⟨by rw [HE'.out]; rfl, HW.out⟩
  cases h3 : (a3 == b3)
  · rw [h0, h1, h2, h3] at HE'
    go_enter Try.func23, Try.ntmps23
    go_wp2_with fail
    go_ret
    exact ⟨by rw [HE'.out]; rfl, HW.out⟩
  rw [h0, h1, h2, h3] at HE'
  cases h5 : (ale == ble)
  · rw [h5] at HE'
    go_enter Try.func23, Try.ntmps23
    go_wp2_with fail
    go_ret
    exact ⟨by rw [HE'.out]; rfl, HW.out⟩
  rw [h5] at HE'
  cases h6 : (al == bl)
  · rw [h6] at HE'
    go_enter Try.func23, Try.ntmps23
    go_wp2_with fail
    go_ret
    exact ⟨by rw [HE'.out]; rfl, HW.out⟩
  rw [h6] at HE'
  go_enter Try.func23, Try.ntmps23
  go_wp2_with fail
  refine (HD.out _ HW.out).mono ?_
  rintro e w1 ⟨rfl, n1, rfl⟩
  go_wp2_with fail
  go_ret
  exact ⟨by rw [HE'.out]; rfl, below_drewN HW.out _⟩

theorem cells14 {W : World} {n : Nat} {x0 x1 x2 x3 x4 x5 x6 y0 y1 y2 y3 y4 y5 y6 : Value} (ra : W.heap[n]? = some (.cells #[x0, x1, x2, x3, x4, x5, x6] 24 (0, 0))) (rb : W.heap[n + 1]? = some (.cells #[y0, y1, y2, y3, y4, y5, y6] 24 (0, 0))) :
    W.cell? ⟨n, 0, none⟩ = some x0 ∧ W.cell? ⟨n, 1, none⟩ = some x1 ∧ W.cell? ⟨n, 2, none⟩ = some x2 ∧ W.cell? ⟨n, 3, none⟩ = some x3 ∧ W.cell? ⟨n, 4, none⟩ = some x4 ∧ W.cell? ⟨n, 5, none⟩ = some x5 ∧ W.cell? ⟨n, 6, none⟩ = some x6 ∧ W.cell? ⟨n + 1, 0, none⟩ = some y0 ∧ W.cell? ⟨n + 1, 1, none⟩ = some y1 ∧ W.cell? ⟨n + 1, 2, none⟩ = some y2 ∧ W.cell? ⟨n + 1, 3, none⟩ = some y3 ∧ W.cell? ⟨n + 1, 4, none⟩ = some y4 ∧ W.cell? ⟨n + 1, 5, none⟩ = some y5 ∧ W.cell? ⟨n + 1, 6, none⟩ = some y6 :=
  ⟨cell_of_row _ _ 0 _ _ _ ra, cell_of_row _ _ 1 _ _ _ ra, cell_of_row _ _ 2 _ _ _ ra, cell_of_row _ _ 3 _ _ _ ra, cell_of_row _ _ 4 _ _ _ ra, cell_of_row _ _ 5 _ _ _ ra, cell_of_row _ _ 6 _ _ _ ra, cell_of_row _ _ 0 _ _ _ rb, cell_of_row _ _ 1 _ _ _ rb, cell_of_row _ _ 2 _ _ _ rb, cell_of_row _ _ 3 _ _ _ rb, cell_of_row _ _ 4 _ _ _ rb, cell_of_row _ _ 5 _ _ _ rb, cell_of_row _ _ 6 _ _ _ rb⟩

set_option maxRecDepth 100000 in
set_option maxHeartbeats 1600000 in
theorem law_same (a b : Cm) (v u : Value) (w : World) (ha : SL w w.heap.size v a.data) (hb : SL w w.heap.size u b.data) :
    Calls Try.prog 10 #[a.val v, b.val u] w fun e w' => e = .returned (.bool true) ∧ Below w.heap.size w w' := by
  have HA := Lib.hid ha
  have HB := Lib.hid hb
  obtain ⟨A1, c1, rfl, _, _, _⟩ := ha
  obtain ⟨A2, c2, rfl, _, _, _⟩ := hb
  have HP := Lib.hid (fun (W : World) (hW : Below w.heap.size w W) => psame_any a b _ _ W (HA.out.on hW) (HB.out.on hW))
  have HR := Lib.hid (fun (W : World) (hW : Below w.heap.size w W) => rsamec_any a b _ _ W (HA.out.on hW) (HB.out.on hW))
  have hq := fun (W : World) (hW : Below w.heap.size w W) => psame_any a a _ _ W (HA.out.on hW) (HA.out.on hW)
  rw [sameC_self] at hq
  have HQ := Lib.hid hq
  clear hq
  generalize sameC a b = S at *
  obtain ⟨a0, a1, a2, a3, ad, ale, al⟩ := a
  obtain ⟨b0, b1, b2, b3, bd, ble, bl⟩ := b
  simp only [Cm.val] at *
  have h2 : Below w.heap.size w ((w.alloc (.cells #[.int .i64 a0, .int .i64 a1, .int .i64 a2, .int .i64 a3, .slice A1 ad.length c1, .int .i64 ale, .bool al] 24)).alloc (.cells #[.int .i64 b0, .int .i64 b1, .int .i64 b2, .int .i64 b3, .slice A2 bd.length c2, .int .i64 ble, .bool bl] 24)) :=
    (alloc_below w _).alloc (by rw [alloc_size]; omega) _
  have HW := Lib.hid h2
  clear h2
  by_cases hl : 5000 < ad.length
  · go_enter Try.func10, Try.ntmps10
    go_wp2_with fail
    refine (example_any _).mono ?_
    rintro e w1 ⟨rfl, hb1⟩
    go_wp2_with fail
    go_ret
    exact ⟨rfl, HW.out.trans (hb1.mono HW.out.size)⟩
  by_cases hm : 5000 < bd.length
  · go_enter Try.func10, Try.ntmps10
    go_wp2_with fail
    refine (example_any _).mono ?_
    rintro e w1 ⟨rfl, hb1⟩
    go_wp2_with fail
    go_ret
    exact ⟨rfl, HW.out.trans (hb1.mono HW.out.size)⟩
  have ra0 : ((w.alloc (.cells #[.int .i64 a0, .int .i64 a1, .int .i64 a2, .int .i64 a3, .slice A1 ad.length c1, .int .i64 ale, .bool al] 24)).alloc (.cells #[.int .i64 b0, .int .i64 b1, .int .i64 b2, .int .i64 b3, .slice A2 bd.length c2, .int .i64 ble, .bool bl] 24)).heap[w.heap.size]? = some (.cells #[.int .i64 a0, .int .i64 a1, .int .i64 a2, .int .i64 a3, .slice A1 ad.length c1, .int .i64 ale, .bool al] 24 (0, 0)) := heap_alloc2_old w _ _
  have rb0 : ((w.alloc (.cells #[.int .i64 a0, .int .i64 a1, .int .i64 a2, .int .i64 a3, .slice A1 ad.length c1, .int .i64 ale, .bool al] 24)).alloc (.cells #[.int .i64 b0, .int .i64 b1, .int .i64 b2, .int .i64 b3, .slice A2 bd.length c2, .int .i64 ble, .bool bl] 24)).heap[w.heap.size + 1]? = some (.cells #[.int .i64 b0, .int .i64 b1, .int .i64 b2, .int .i64 b3, .slice A2 bd.length c2, .int .i64 ble, .bool bl] 24 (0, 0)) := by
    have := heap_alloc_new (w.alloc (.cells #[.int .i64 a0, .int .i64 a1, .int .i64 a2, .int .i64 a3, .slice A1 ad.length c1, .int .i64 ale, .bool al] 24)) (.cells #[.int .i64 b0, .int .i64 b1, .int .i64 b2, .int .i64 b3, .slice A2 bd.length c2, .int .i64 ble, .bool bl] 24)
    rw [alloc_size] at this
    exact this
  have RA0 := Lib.hid ra0
  have RB0 := Lib.hid rb0
  have HSZ : Hid (((w.alloc (.cells #[.int .i64 a0, .int .i64 a1, .int .i64 a2, .int .i64 a3, .slice A1 ad.length c1, .int .i64 ale, .bool al] 24)).alloc (.cells #[.int .i64 b0, .int .i64 b1, .int .i64 b2, .int .i64 b3, .slice A2 bd.length c2, .int .i64 ble, .bool bl] 24)).heap.size = w.heap.size + 2) := by show _ = _; rw [alloc_size, alloc_size]
  have HWD := Lib.hid HW.out.drew
  clear ra0 rb0
  go_enter Try.func10, Try.ntmps10
  go_wp2_with fail
  go_region_held3 (fun w' => w'.cell? ⟨w.heap.size, 0, none⟩ = some (.int .i64 a0) ∧ w'.cell? ⟨w.heap.size, 1, none⟩ = some (.int .i64 a1) ∧ w'.cell? ⟨w.heap.size, 2, none⟩ = some (.int .i64 a2) ∧ w'.cell? ⟨w.heap.size, 3, none⟩ = some (.int .i64 a3) ∧ w'.cell? ⟨w.heap.size, 4, none⟩ = some (.slice A1 ad.length c1) ∧ w'.cell? ⟨w.heap.size, 5, none⟩ = some (.int .i64 ale) ∧ w'.cell? ⟨w.heap.size, 6, none⟩ = some (.bool al) ∧ w'.cell? ⟨w.heap.size + 1, 0, none⟩ = some (.int .i64 b0) ∧ w'.cell? ⟨w.heap.size + 1, 1, none⟩ = some (.int .i64 b1) ∧ w'.cell? ⟨w.heap.size + 1, 2, none⟩ = some (.int .i64 b2) ∧ w'.cell? ⟨w.heap.size + 1, 3, none⟩ = some (.int .i64 b3) ∧ w'.cell? ⟨w.heap.size + 1, 4, none⟩ = some (.slice A2 bd.length c2) ∧ w'.cell? ⟨w.heap.size + 1, 5, none⟩ = some (.int .i64 ble) ∧ w'.cell? ⟨w.heap.size + 1, 6, none⟩ = some (.bool bl))
    (first
      | (go_keep; done)
      | exact cells14 RA0.out RB0.out
      | exact cells14 ((hb1.block _ (by show w.heap.size < ((w.alloc _).alloc _).heap.size; rw [HSZ.out]; omega)).trans RA0.out) ((hb1.block _ (by show w.heap.size + 1 < ((w.alloc _).alloc _).heap.size; rw [HSZ.out]; omega)).trans RB0.out)
      | exact cells14 ((hb2.block _ hq2).trans ((hb1.block _ (by show w.heap.size < ((w.alloc _).alloc _).heap.size; rw [HSZ.out]; omega)).trans RA0.out)) ((hb2.block _ hq3).trans ((hb1.block _ (by show w.heap.size + 1 < ((w.alloc _).alloc _).heap.size; rw [HSZ.out]; omega)).trans RB0.out))
      | exact cells14 ((hb3.block _ hq4).trans ((hb2.block _ hq2).trans ((hb1.block _ (by show w.heap.size < ((w.alloc _).alloc _).heap.size; rw [HSZ.out]; omega)).trans RA0.out))) ((hb3.block _ hq5).trans ((hb2.block _ hq3).trans ((hb1.block _ (by show w.heap.size + 1 < ((w.alloc _).alloc _).heap.size; rw [HSZ.out]; omega)).trans RB0.out)))
      | exact cells14 ((hb4.block _ hq6).trans ((hb3.block _ hq4).trans ((hb2.block _ hq2).trans ((hb1.block _ (by show w.heap.size < ((w.alloc _).alloc _).heap.size; rw [HSZ.out]; omega)).trans RA0.out)))) ((hb4.block _ hq7).trans ((hb3.block _ hq5).trans ((hb2.block _ hq3).trans ((hb1.block _ (by show w.heap.size + 1 < ((w.alloc _).alloc _).heap.size; rw [HSZ.out]; omega)).trans RB0.out)))))
    (first
      | (go_at_call 25; (with_reducible refine (HP.out _ HWD.out).mono ?_); rintro e w1 ⟨rfl, hb1⟩; have hq2 : w.heap.size < w1.heap.size := (by have h := hb1.size; have h' : w.heap.size + 2 ≤ w1.heap.size := (by rw [← HSZ.out]; exact h); omega); have hq3 : w.heap.size + 1 < w1.heap.size := (by have h := hb1.size; have h' : w.heap.size + 2 ≤ w1.heap.size := (by rw [← HSZ.out]; exact h); omega))
      | (go_at_call 23; refine (HR.out _ (HWD.out.trans (hb1.mono HWD.out.size))).mono ?_; rintro e w2 ⟨rfl, hb2⟩; have hq4 : w.heap.size < w2.heap.size := (by have := hb2.size; omega); have hq5 : w.heap.size + 1 < w2.heap.size := (by have := hb2.size; omega))
      | (go_at_call 25; (with_reducible refine (HQ.out _ ((HWD.out.trans (hb1.mono HWD.out.size)).trans (hb2.mono (HWD.out.trans (hb1.mono HWD.out.size)).size))).mono ?_); rintro e w3 ⟨rfl, hb3⟩; have hq6 : w.heap.size < w3.heap.size := (by have := hb3.size; omega); have hq7 : w.heap.size + 1 < w3.heap.size := (by have := hb3.size; omega))
      | (go_at_call 11; refine (example_any _).mono ?_; rintro e w4 ⟨rfl, hb4⟩))
  go_wp2_with fail
  go_ret
  have hz1 := HWD.out.trans (hb1.mono HWD.out.size)
  have hz2 := hz1.trans (hb2.mono hz1.size)
  have hz3 := hz2.trans (hb3.mono hz2.size)
  exact ⟨rfl, hz3.trans (hb4.mono hz3.size)⟩
end Go.Proofs.Ytjoibonbmalbdaa
