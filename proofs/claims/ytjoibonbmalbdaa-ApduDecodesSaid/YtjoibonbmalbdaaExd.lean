/-
  The walk of the reference's extended.
-/
import Derived.Test.YtjoibonbmalbdaaShr
import Derived.RegionTactic
import Derived.ChangeAlike
namespace Go.Proofs.Ytjoibonbmalbdaa
set_option linter.unusedVariables false
set_option linter.unusedSimpArgs false
open Go.RowKit

theorem body2 {l : List UInt8} {n : Nat} (h4 : 4 ≤ l.length) (hn : 256 * (l.getD 1 0).toNat + (l.getD 2 0).toNat = n) :
    bodyL 2 (l.drop 1) = if n = 0 then ([], 0, 4) else if l.length < 3 + n then ([], 0, 5) else if l.length = 3 + n then ((l.drop 3), 0, 0) else if l.length = 5 + n then ((l.drop 3).take n, leN (l.drop (3 + n)), 0) else ([], 0, 4) := by
  have hnum : numL ((l.drop 1).take 2) = n := by
    rw [numL_take (l.drop 1) 1 (by rw [List.length_drop]; omega), numL_take (l.drop 1) 0 (by rw [List.length_drop]; omega)]
    have e1 : (l.drop 1).getD 0 0 = l.getD 1 0 := by simp [List.getD, List.getElem?_drop]
    have e2 : (l.drop 1).getD 1 0 = l.getD 2 0 := by simp [List.getD, List.getElem?_drop]
    have e0 : numL ((l.drop 1).take 0) = 0 := rfl
    rw [e1, e2, e0]
    omega
  have e3 : (l.drop 1).drop 2 = l.drop 3 := by rw [List.drop_drop]
  have e4 : (l.drop 3).drop n = l.drop (3 + n) := by rw [List.drop_drop]
  rw [bodyL, if_neg (by rw [List.length_drop]; omega), if_neg (by rw [List.length_drop]; omega), if_neg (by rw [List.length_drop]; omega), hnum, e3, List.length_drop, e4]
  by_cases c0 : n = 0
  · rw [if_pos c0, if_pos c0]
  rw [if_neg c0, if_neg c0]
  by_cases c1 : l.length < 3 + n
  · rw [if_pos (by omega), if_pos c1]
  rw [if_neg (by omega), if_neg c1]
  by_cases c2 : l.length = 3 + n
  · rw [if_pos (by omega), if_pos c2]
  rw [if_neg (by omega), if_neg c2]
  by_cases c3 : l.length = 5 + n
  · rw [if_pos (by omega), if_pos c3]
  · rw [if_neg (by omega), if_neg c3]

set_option maxRecDepth 100000 in
set_option maxHeartbeats 800000 in
theorem rex_2 (a0 a1 a2 a3 : Int) (l : List UInt8) (v : Value) (w : World) (hv : SL w w.heap.size v l) (h1 : l.length = 2) :
    Calls Try.prog 47 #[Cm.val ⟨a0, a1, a2, a3, [], 0, false⟩ (.slice none 0 0), v] w (ShR a0 a1 a2 a3 true 2 (l.drop 1) w) := by
  have HB : Hid (bodyL 2 (l.drop 1) = ([], 0, 5)) := by show _ = _; rw [bodyL, if_neg (by rw [List.length_drop]; omega), if_pos (by rw [List.length_drop]; omega)]
  obtain ⟨A, c, rfl, _, _, _⟩ := hv
  have q1 : ((l.length : Int) == 2) = true := by rw [h1]; rfl
  simp only [Cm.val]
  clear h1
  go_enter Try.func47, Try.ntmps47
  go_wp2_with fail
  exact bodyPost_ret (results_cell2 rfl _ _ (w.heap.size + 1) 24 _ (0, 0) _ rfl (heap_second _ _ _) Try.underlying24 rfl (by kernel_rfl)) rfl (ShR.bad HB.out (by decide) (below_2 _ _ _))
set_option maxRecDepth 100000 in
set_option maxHeartbeats 800000 in
theorem rex_3 (a0 a1 a2 a3 : Int) (l : List UInt8) (v : Value) (w : World) (hv : SL w w.heap.size v l) (h1 : l.length = 3) :
    Calls Try.prog 47 #[Cm.val ⟨a0, a1, a2, a3, [], 0, false⟩ (.slice none 0 0), v] w (ShR a0 a1 a2 a3 true 2 (l.drop 1) w) := by
  have HB : Hid (bodyL 2 (l.drop 1) = ([], leN (l.drop 1), 0)) := by show _ = _; rw [bodyL, if_neg (by rw [List.length_drop]; omega), if_neg (by rw [List.length_drop]; omega), if_pos (by rw [List.length_drop]; omega)]
  have HS := Lib.hid hv
  obtain ⟨A, c, rfl, k1, k2, k3⟩ := hv
  obtain ⟨b, o, rfl, hb, hc⟩ := k3 (by omega)
  have hcut := HS.out.cut (n := 1) (by omega)
  have HA := Lib.hid (fun (W : World) (hW : Below w.heap.size w W) => ramount_any (l.drop 1) _ W _ (hcut.on hW) (by rw [List.length_drop]; omega) (by rw [List.length_drop]; omega))
  have q1 : ((l.length : Int) == 2) = false := by rw [beq_eq_false_iff_ne]; omega
  have q2 : ((l.length : Int) == 3) = true := by rw [beq_iff_eq]; omega
  have i5 : ¬ c = 1 := by omega
  have i6 : 1 ≤ l.length := by omega
  have i7 : 1 ≤ c := by omega
  simp only [Cm.val]
  clear h1 hc k3 hcut
  generalize leN (l.drop 1) = n at *
  go_enter Try.func47, Try.ntmps47
  go_wp2_with fail
  refine (HA.out _ (below_2 _ _ _)).mono ?_
  rintro e w1 ⟨rfl, rfl⟩
  go_wp2_with fail
  exact bodyPost_ret (results_cell2 rfl _ _ (w.heap.size + 1) 24 _ (0, 0) _ rfl (heap_second _ _ _) Try.underlying24 rfl (by kernel_rfl)) rfl (ShR.good HB.out (SL.nil _ _ _ _ (Nat.zero_le _)) (below_2 _ _ _))

set_option maxRecDepth 100000 in
set_option maxHeartbeats 3200000 in
theorem rex_4 (a0 a1 a2 a3 : Int) (l : List UInt8) (v : Value) (w : World) (hv : SL w w.heap.size v l) (hl : l.length ≤ 80000) (h4 : 4 ≤ l.length) (n : Nat) (hn : 256 * (l.getD 1 0).toNat + (l.getD 2 0).toNat = n) :
    Calls Try.prog 47 #[Cm.val ⟨a0, a1, a2, a3, [], 0, false⟩ (.slice none 0 0), v] w (ShR a0 a1 a2 a3 true 2 (l.drop 1) w) := by
  have hbody := body2 h4 hn
  have HS := Lib.hid hv
  obtain ⟨A, c, rfl, k1, k2, k3⟩ := hv
  unfold maxLen at k2
  obtain ⟨b, o, rfl, hb, hc⟩ := k3 (by omega)
  have g1 : w.cell? ⟨b, o + 1, none⟩ = some (.int .u8 ((l.getD 1 0).toNat : Int)) := hc 1 (by omega)
  have g2 : w.cell? ⟨b, o + 2, none⟩ = some (.int .u8 ((l.getD 2 0).toNat : Int)) := hc 2 (by omega)
  have y1 := (l.getD 1 0).toNat_lt
  have y2 := (l.getD 2 0).toNat_lt
  have hsum : 256 * ((l.getD 1 0).toNat : Int) + ((l.getD 2 0).toNat : Int) = (n : Int) := by omega
  have HC := Lib.hid hc
  have HM0 := Lib.hid hn
  have hn2 : n < 65536 := by omega
  generalize (l.getD 1 0).toNat = x1 at *
  generalize (l.getD 2 0).toNat = x2 at *
  have HSUM := Lib.hid hsum
  have q1 : ((l.length : Int) == 2) = false := by rw [beq_eq_false_iff_ne]; omega
  have q2 : ((l.length : Int) == 3) = false := by rw [beq_eq_false_iff_ne]; omega
  have hp : 0 < l.length := by omega
  have j1 : (1 : Int) < (l.length : Int) := by omega
  have j2 : (2 : Int) < (l.length : Int) := by omega
  simp only [Cm.val]
  clear hc k3 hn hsum
  by_cases c0 : n = 0
  · rw [if_pos c0] at hbody
    have HB := Lib.hid hbody
    subst c0
    clear hbody
    go_enter Try.func47, Try.ntmps47
    go_wp2_with fail
    go_region
    rw [HSUM.out]
    go_wp2_with fail
    exact bodyPost_ret (results_cell2 rfl _ _ (w.heap.size + 1) 24 _ (0, 0) _ rfl (heap_second _ _ _) Try.underlying24 rfl (by kernel_rfl)) rfl (ShR.bad HB.out (by decide) (below_2 _ _ _).drew)
  rw [if_neg c0] at hbody
  have e0 : ((n : Int) == 0) = false := by rw [beq_eq_false_iff_ne]; omega
  by_cases c1 : l.length < 3 + n
  · rw [if_pos c1] at hbody
    have HB := Lib.hid hbody
    have d1 : decide ((l.length : Int) < 3 + (n : Int)) = true := by rw [decide_eq_true_iff]; omega
    clear c0 c1 hbody
    go_enter Try.func47, Try.ntmps47
    go_wp2_with fail
    go_region
    rw [HSUM.out]
    go_wp2_with fail
    exact bodyPost_ret (results_cell2 rfl _ _ (w.heap.size + 1) 24 _ (0, 0) _ rfl (heap_second _ _ _) Try.underlying24 rfl (by kernel_rfl)) rfl (ShR.bad HB.out (by decide) (below_2 _ _ _).drew)
  rw [if_neg c1] at hbody
  have d1 : decide ((l.length : Int) < 3 + (n : Int)) = false := by rw [decide_eq_false_iff_not]; omega
  by_cases c2 : l.length = 3 + n ∨ l.length = 5 + n
  case neg =>
    rw [if_neg (by omega), if_neg (by omega)] at hbody
    have HB := Lib.hid hbody
    have d2 : ((l.length : Int) != 3 + (n : Int)) = true := by rw [bne_iff_ne]; omega
    have d3 : ((l.length : Int) != 5 + (n : Int)) = true := by rw [bne_iff_ne]; omega
    clear c0 c1 c2 hbody
    go_enter Try.func47, Try.ntmps47
    go_wp2_with fail
    go_region
    rw [HSUM.out]
    go_wp2_with fail
    exact bodyPost_ret (results_cell2 rfl _ _ (w.heap.size + 1) 24 _ (0, 0) _ rfl (heap_second _ _ _) Try.underlying24 rfl (by kernel_rfl)) rfl (ShR.bad HB.out (by decide) (below_2 _ _ _).drew)
  have i0 : (0 : Int) ≤ 3 := by omega
  have i1 : (3 : Int) ≤ 3 + (n : Int) := by omega
  have i2 : 3 + (n : Int) ≤ (l.length : Int) := by omega
  have i3 : 3 + (n : Int) ≤ (c : Int) := by omega
  have hm1 : n ≤ (l.drop 3).length := by rw [List.length_drop]; omega
  obtain ⟨M, hM⟩ : ∃ M, M = (l.drop 3).take n := ⟨_, rfl⟩
  have hML : M.length = n := by rw [hM, List.length_take]; omega
  have hreads : ∀ W : World, Below w.heap.size w W → 0 < M.length → ∃ b' o', (some ⟨b, o + 3, none⟩ : Option Addr) = some ⟨b', o', none⟩ ∧ ∀ k, k < M.length → W.cell? ⟨b', o' + k, none⟩ = some (.int .u8 ((M.getD k 0).toNat : Int)) := by
    intro W hW hp'
    refine ⟨b, o + 3, rfl, fun k hk => ?_⟩
    rw [(hW.cell (p := ⟨b, o + 3 + k, none⟩) hb), Nat.add_assoc, HC.out (3 + k) (by omega), hM]
    simp [List.getD, List.getElem?_take, List.getElem?_drop, show k < n by omega, Nat.add_comm 3 k]
  have hmade := OB.made ((w.alloc (.cells #[.int .i64 a0, .int .i64 a1, .int .i64 a2, .int .i64 a3, .slice none 0 0, .int .i64 0, .bool true] 24)).alloc (.cells #[.int .i64 0, .int .i64 0, .int .i64 0, .int .i64 0, .slice none 0 0, .int .i64 0, .bool false] 24))
  rw [alloc_size, alloc_size] at hmade
  have HMADE := Lib.hid hmade
  have HREADS := Lib.hid hreads
  have HML := Lib.hid hML
  have H3 : Hid (Below w.heap.size w (((w.alloc (.cells #[.int .i64 a0, .int .i64 a1, .int .i64 a2, .int .i64 a3, .slice none 0 0, .int .i64 0, .bool true] 24)).alloc (.cells #[.int .i64 0, .int .i64 0, .int .i64 0, .int .i64 0, .slice none 0 0, .int .i64 0, .bool false] 24)).alloc (.cells #[] 5))) := (below_2 _ _ _).alloc (by rw [alloc_size, alloc_size]; omega) _
  have HSZ : Hid ((((w.alloc (.cells #[.int .i64 a0, .int .i64 a1, .int .i64 a2, .int .i64 a3, .slice none 0 0, .int .i64 0, .bool true] 24)).alloc (.cells #[.int .i64 0, .int .i64 0, .int .i64 0, .int .i64 0, .slice none 0 0, .int .i64 0, .bool false] 24)).alloc (.cells #[] 5)).heap.size = w.heap.size + 1 + 1 + 1) := by show _ = _; rw [alloc_size, alloc_size, alloc_size]
  have HR1 : Hid ((((w.alloc (.cells #[.int .i64 a0, .int .i64 a1, .int .i64 a2, .int .i64 a3, .slice none 0 0, .int .i64 0, .bool true] 24)).alloc (.cells #[.int .i64 0, .int .i64 0, .int .i64 0, .int .i64 0, .slice none 0 0, .int .i64 0, .bool false] 24)).alloc (.cells #[] 5)).heap[w.heap.size]? = some (.cells #[.int .i64 a0, .int .i64 a1, .int .i64 a2, .int .i64 a3, .slice none 0 0, .int .i64 0, .bool true] 24 (0, 0))) := by
    show _ = _
    rw [(alloc_below _ _).block _ (by rw [alloc_size, alloc_size]; omega)]
    exact heap_alloc2_old w _ _
  have HR2 : Hid ((((w.alloc (.cells #[.int .i64 a0, .int .i64 a1, .int .i64 a2, .int .i64 a3, .slice none 0 0, .int .i64 0, .bool true] 24)).alloc (.cells #[.int .i64 0, .int .i64 0, .int .i64 0, .int .i64 0, .slice none 0 0, .int .i64 0, .bool false] 24)).alloc (.cells #[] 5)).heap[w.heap.size + 1]? = some (.cells #[.int .i64 0, .int .i64 0, .int .i64 0, .int .i64 0, .slice none 0 0, .int .i64 0, .bool false] 24 (0, 0))) := by
    show _ = _
    rw [(alloc_below _ _).block _ (by rw [alloc_size, alloc_size]; omega)]
    exact heap_second w _ _
  have HB0 := Lib.hid hbody
  have HMM := Lib.hid hM
  clear hmade hreads hML hbody hM
  have hMn : M.length ≤ 80000 := by have := HML.out; omega
  have hnp : 0 < n := by omega
  by_cases c3 : l.length = 3 + n
  · have HBF : Hid (bodyL 2 (l.drop 1) = (M, 0, 0)) := by
      show _ = _
      rw [HB0.out, if_pos c3, HMM.out, List.take_of_length_le (by rw [List.length_drop]; omega)]
    have d2 : ((l.length : Int) != 3 + (n : Int)) = false := by rw [bne_eq_false_iff_eq]; omega
    have d3 : ((l.length : Int) == 5 + (n : Int)) = false := by rw [beq_eq_false_iff_ne]; omega
    clear c0 c1 c2 c3
    go_enter Try.func47, Try.ntmps47
    go_wp2_with fail
    go_region
    rw [HSUM.out]
    go_wp2_with (at_builtin; refine wpList_appS rfl (.tmp 52) (.tmp 56) rfl (((w.alloc (.cells #[.int .i64 a0, .int .i64 a1, .int .i64 a2, .int .i64 a3, .slice none 0 0, .int .i64 0, .bool true] 24)).alloc (.cells #[.int .i64 0, .int .i64 0, .int .i64 0, .int .i64 0, .slice none 0 0, .int .i64 0, .bool false] 24)).alloc (.cells #[] 5)) (w.heap.size + 1 + 1) _ [] M (some ⟨b, o + 3, none⟩) (c - 3) rfl (by rw [show M.length = 3 + n - 3 from by have := HML.out; omega]; rfl) (by first | exact Below.refl _ _ | exact (Below.refl _ _).drew) HMADE.out (by first | exact fun hp' => HREADS.out _ H3.out hp' | exact fun hp' => HREADS.out _ H3.out.drew hp') (by simp only [List.length_nil]; omega) (by rw [HSZ.out]; omega) ?_; intro v3 w3 hv3 hb3; have hz1 := (hb3.block _ (by omega)).trans HR1.out; have hz2 := (hb3.block _ (by omega)).trans HR2.out; have HV3 := Lib.hid hv3; have HW3 := Lib.hid (H3.out.trans (hb3.mono (by omega))); obtain ⟨g3, z3, rfl, _, _⟩ := World.ownsRow.form hv3 (by have := HML.out; simp; omega); clear hv3 hb3; have p0 := cell_of_row _ _ 0 _ _ _ hz1; have p1 := cell_of_row _ _ 1 _ _ _ hz1; have p2 := cell_of_row _ _ 2 _ _ _ hz1; have p3 := cell_of_row _ _ 3 _ _ _ hz1; have p4 := cell_of_row _ _ 4 _ _ _ hz1; have p5 := cell_of_row _ _ 5 _ _ _ hz1; have p6 := cell_of_row _ _ 6 _ _ _ hz1; have s0 := frozen_of_row _ _ 0 _ _ hz1; have s1 := frozen_of_row _ _ 1 _ _ hz1; have s2 := frozen_of_row _ _ 2 _ _ hz1; have s3 := frozen_of_row _ _ 3 _ _ hz1; have s4 := frozen_of_row _ _ 4 _ _ hz1; have s5 := frozen_of_row _ _ 5 _ _ hz1; have s6 := frozen_of_row _ _ 6 _ _ hz1; have q0 := cell_of_row _ _ 0 _ _ _ hz2; have q1 := cell_of_row _ _ 1 _ _ _ hz2; have q2 := cell_of_row _ _ 2 _ _ _ hz2; have q3 := cell_of_row _ _ 3 _ _ _ hz2; have q4 := cell_of_row _ _ 4 _ _ _ hz2; have q5 := cell_of_row _ _ 5 _ _ _ hz2; have q6 := cell_of_row _ _ 6 _ _ _ hz2; have t0 := frozen_of_row _ _ 0 _ _ hz2; have t1 := frozen_of_row _ _ 1 _ _ hz2; have t2 := frozen_of_row _ _ 2 _ _ hz2; have t3 := frozen_of_row _ _ 3 _ _ hz2; have t4 := frozen_of_row _ _ 4 _ _ hz2; have t5 := frozen_of_row _ _ 5 _ _ hz2; have t6 := frozen_of_row _ _ 6 _ _ hz2; have HZ1 := Lib.hid hz1; have HZ2 := Lib.hid hz2; clear hz1 hz2)
    exact bodyPost_ret (results_cell2 rfl _ _ (w.heap.size + 1) 24 _ (0, 0) _ rfl (row7_set _ _ _ _ _ _ _ _ _ _ _ _ _ _ _ _ _ (by rw [heap_setCell_other _ _ _ _ (by simp)]; exact HZ2.out)) Try.underlying24 rfl (by kernel_rfl)) rfl (ShR.good HBF.out (OB.sl (ob_set7 (ob_set HV3.out (by omega)) (by omega) _ _ _ _ _ _ _)) (below7g (HW3.out.setCell (p := ⟨w.heap.size, 4, none⟩) (Nat.le_refl _) _) (by omega) _ _ _ _ _ _ _))
  · have c4 : l.length = 5 + n := c2.resolve_left c3
    have hcut := HS.out.cut (n := 3 + n) (by omega)
    have HBF : Hid (bodyL 2 (l.drop 1) = (M, leN (l.drop (3 + n)), 0)) := by
      show _ = _
      rw [HB0.out, if_neg c3, if_pos c4, HMM.out]
    have HAM := Lib.hid (fun (W : World) (hW : Below w.heap.size w W) => ramount_any (l.drop (3 + n)) _ W _ (hcut.on hW) (by rw [List.length_drop]; omega) (by rw [List.length_drop]; omega))
    have d2 : ((l.length : Int) != 3 + (n : Int)) = true := by rw [bne_iff_ne]; omega
    have d3 : ((l.length : Int) == 5 + (n : Int)) = true := by rw [beq_iff_eq]; omega
    have d4 : ((l.length : Int) != 5 + (n : Int)) = false := by rw [bne_eq_false_iff_eq]; omega
    have i4 : (0 : Int) ≤ 3 + (n : Int) := by omega
    have i5 : ¬ c = 3 + n := by omega
    have i6 : 3 + n ≤ l.length := by omega
    have i7 : 3 + n ≤ c := by omega
    clear c0 c1 c2 c3 c4 hcut
    generalize leN (l.drop (3 + n)) = le at *
    go_enter Try.func47, Try.ntmps47
    go_wp2_with fail
    go_region
    rw [HSUM.out]
    go_wp2_with (at_builtin; refine wpList_appS rfl (.tmp 52) (.tmp 56) rfl (((w.alloc (.cells #[.int .i64 a0, .int .i64 a1, .int .i64 a2, .int .i64 a3, .slice none 0 0, .int .i64 0, .bool true] 24)).alloc (.cells #[.int .i64 0, .int .i64 0, .int .i64 0, .int .i64 0, .slice none 0 0, .int .i64 0, .bool false] 24)).alloc (.cells #[] 5)) (w.heap.size + 1 + 1) _ [] M (some ⟨b, o + 3, none⟩) (c - 3) rfl (by rw [show M.length = 3 + n - 3 from by have := HML.out; omega]; rfl) (by first | exact Below.refl _ _ | exact (Below.refl _ _).drew) HMADE.out (by first | exact fun hp' => HREADS.out _ H3.out hp' | exact fun hp' => HREADS.out _ H3.out.drew hp') (by simp only [List.length_nil]; omega) (by rw [HSZ.out]; omega) ?_; intro v3 w3 hv3 hb3; have hz1 := (hb3.block _ (by omega)).trans HR1.out; have hz2 := (hb3.block _ (by omega)).trans HR2.out; have HV3 := Lib.hid hv3; have HW3 := Lib.hid (H3.out.trans (hb3.mono (by omega))); obtain ⟨g3, z3, rfl, _, _⟩ := World.ownsRow.form hv3 (by have := HML.out; simp; omega); clear hv3 hb3; have p0 := cell_of_row _ _ 0 _ _ _ hz1; have p1 := cell_of_row _ _ 1 _ _ _ hz1; have p2 := cell_of_row _ _ 2 _ _ _ hz1; have p3 := cell_of_row _ _ 3 _ _ _ hz1; have p4 := cell_of_row _ _ 4 _ _ _ hz1; have p5 := cell_of_row _ _ 5 _ _ _ hz1; have p6 := cell_of_row _ _ 6 _ _ _ hz1; have s0 := frozen_of_row _ _ 0 _ _ hz1; have s1 := frozen_of_row _ _ 1 _ _ hz1; have s2 := frozen_of_row _ _ 2 _ _ hz1; have s3 := frozen_of_row _ _ 3 _ _ hz1; have s4 := frozen_of_row _ _ 4 _ _ hz1; have s5 := frozen_of_row _ _ 5 _ _ hz1; have s6 := frozen_of_row _ _ 6 _ _ hz1; have q0 := cell_of_row _ _ 0 _ _ _ hz2; have q1 := cell_of_row _ _ 1 _ _ _ hz2; have q2 := cell_of_row _ _ 2 _ _ _ hz2; have q3 := cell_of_row _ _ 3 _ _ _ hz2; have q4 := cell_of_row _ _ 4 _ _ _ hz2; have q5 := cell_of_row _ _ 5 _ _ _ hz2; have q6 := cell_of_row _ _ 6 _ _ _ hz2; have t0 := frozen_of_row _ _ 0 _ _ hz2; have t1 := frozen_of_row _ _ 1 _ _ hz2; have t2 := frozen_of_row _ _ 2 _ _ hz2; have t3 := frozen_of_row _ _ 3 _ _ hz2; have t4 := frozen_of_row _ _ 4 _ _ hz2; have t5 := frozen_of_row _ _ 5 _ _ hz2; have t6 := frozen_of_row _ _ 6 _ _ hz2; have HZ1 := Lib.hid hz1; have HZ2 := Lib.hid hz2; clear hz1 hz2)
    refine (HAM.out _ (HW3.out.setCell (p := ⟨w.heap.size, 4, none⟩) (Nat.le_refl _) _)).mono ?_
    rintro e w4 ⟨rfl, rfl⟩
    go_wp2_with fail
    exact bodyPost_ret (results_cell2 rfl _ _ (w.heap.size + 1) 24 _ (0, 0) _ rfl (row7_set _ _ _ _ _ _ _ _ _ _ _ _ _ _ _ _ _ (by rw [heap_setCell_other _ _ _ _ (by simp), heap_setCell_other _ _ _ _ (by simp)]; exact HZ2.out)) Try.underlying24 rfl (by kernel_rfl)) rfl (ShR.good HBF.out (OB.sl (ob_set7 (ob_set (ob_set HV3.out (by omega)) (by omega)) (by omega) _ _ _ _ _ _ _)) (below7g ((HW3.out.setCell (p := ⟨w.heap.size, 4, none⟩) (Nat.le_refl _) _).setCell (p := ⟨w.heap.size, 5, none⟩) (Nat.le_refl _) _) (by omega) _ _ _ _ _ _ _))
theorem rex_any (a0 a1 a2 a3 : Int) (l : List UInt8) (v : Value) (w : World) (hv : SL w w.heap.size v l) (hl : l.length ≤ 80000) (h2 : 2 ≤ l.length) :
    Calls Try.prog 47 #[Cm.val ⟨a0, a1, a2, a3, [], 0, false⟩ (.slice none 0 0), v] w (ShR a0 a1 a2 a3 true 2 (l.drop 1) w) := by
  by_cases h3 : l.length = 2
  · exact rex_2 a0 a1 a2 a3 l v w hv h3
  · by_cases h4 : l.length = 3
    · exact rex_3 a0 a1 a2 a3 l v w hv h4
    · exact rex_4 a0 a1 a2 a3 l v w hv hl (by omega) _ rfl
theorem rsh_any (a0 a1 a2 a3 : Int) (l : List UInt8) (v : Value) (w : World) (hv : SL w w.heap.size v l) (hl : l.length ≤ 80000) (h1 : 1 ≤ l.length) (h0 : l.length = 1 ∨ l.getD 0 0 ≠ 0) :
    Calls Try.prog 48 #[Cm.val ⟨a0, a1, a2, a3, [], 0, false⟩ (.slice none 0 0), v] w (ShR a0 a1 a2 a3 false 1 l w) := by
  by_cases h3 : l.length = 1
  · exact rsh_1 a0 a1 a2 a3 l v w hv h3
  · exact rsh_2 a0 a1 a2 a3 l v w hv hl (by omega) _ rfl (fun e => (h0.resolve_left h3) (UInt8.toNat_inj.1 (by rw [e]; rfl)))
end Go.Proofs.Ytjoibonbmalbdaa
