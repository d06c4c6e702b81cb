/-
  The walk of the reference's short.
-/
import Derived.Test.YtjoibonbmalbdaaRne
import Derived.Test.YtjoibonbmalbdaaRsd
namespace Go.Proofs.Ytjoibonbmalbdaa
set_option linter.unusedVariables false
set_option linter.unusedSimpArgs false
open Go.RowKit

/-- What short and extended answer. -/
def shV (a0 a1 a2 a3 : Int) (long : Bool) (W : Nat) (l : List UInt8) : Cm := if (bodyL W l).2.2 = 0 then ⟨a0, a1, a2, a3, (bodyL W l).1, (bodyL W l).2.1, long⟩ else zeroC
def ShR (a0 a1 a2 a3 : Int) (long : Bool) (W : Nat) (l : List UInt8) (w : World) (e : Ending) (w' : World) : Prop :=
  ∃ d, e = .returned (.tuple #[(shV a0 a1 a2 a3 long W l).val d, .int .i64 (bodyL W l).2.2]) ∧ SL w' w'.heap.size d (shV a0 a1 a2 a3 long W l).data ∧ Below w.heap.size w w'
theorem ShR.good {a0 a1 a2 a3 : Int} {long : Bool} {W : Nat} {l m : List UInt8} {w w' : World} {n : Int} {d : Value} (h : bodyL W l = (m, n, 0)) (hd : SL w' w'.heap.size d m) (hb : Below w.heap.size w w') : ShR a0 a1 a2 a3 long W l w (.returned (.tuple #[.agg #[.int .i64 a0, .int .i64 a1, .int .i64 a2, .int .i64 a3, d, .int .i64 n, .bool long], .int .i64 0])) w' := by
  have e : shV a0 a1 a2 a3 long W l = ⟨a0, a1, a2, a3, m, n, long⟩ := by rw [shV, h]; rfl
  exact ⟨d, by rw [e, h]; rfl, by rw [e]; exact hd, hb⟩
theorem ShR.bad {a0 a1 a2 a3 : Int} {long : Bool} {W : Nat} {l m : List UInt8} {w w' : World} {n er : Int} (h : bodyL W l = (m, n, er)) (he : er ≠ 0) (hb : Below w.heap.size w w') : ShR a0 a1 a2 a3 long W l w (.returned (.tuple #[.agg #[.int .i64 0, .int .i64 0, .int .i64 0, .int .i64 0, .slice none 0 0, .int .i64 0, .bool false], .int .i64 er])) w' := by
  have e : shV a0 a1 a2 a3 long W l = zeroC := by rw [shV, h]; simp [he]
  exact ⟨.slice none 0 0, by rw [e, h]; rfl, by rw [e]; exact SL.nil _ _ _ _ (Nat.zero_le _), hb⟩
theorem below7g {w w' : World} {g : Nat} (h : Below w.heap.size w w') (hg : w.heap.size ≤ g) (x0 x1 x2 x3 x4 x5 x6 : Value) :
    Below w.heap.size w (((((((w'.setCell ⟨g, 0, none⟩ x0).setCell ⟨g, 1, none⟩ x1).setCell ⟨g, 2, none⟩ x2).setCell ⟨g, 3, none⟩ x3).setCell ⟨g, 4, none⟩ x4).setCell ⟨g, 5, none⟩ x5).setCell ⟨g, 6, none⟩ x6) :=
  ((((((h.setCell (p := ⟨g, 0, none⟩) hg _).setCell (p := ⟨g, 1, none⟩) hg _).setCell (p := ⟨g, 2, none⟩) hg _).setCell (p := ⟨g, 3, none⟩) hg _).setCell (p := ⟨g, 4, none⟩) hg _).setCell (p := ⟨g, 5, none⟩) hg _).setCell (p := ⟨g, 6, none⟩) hg _
theorem ob_set7 {w : World} {base g : Nat} {v : Value} {l : List UInt8} (h : OB w base v l) (hg : g < base) (x0 x1 x2 x3 x4 x5 x6 : Value) :
    OB (((((((w.setCell ⟨g, 0, none⟩ x0).setCell ⟨g, 1, none⟩ x1).setCell ⟨g, 2, none⟩ x2).setCell ⟨g, 3, none⟩ x3).setCell ⟨g, 4, none⟩ x4).setCell ⟨g, 5, none⟩ x5).setCell ⟨g, 6, none⟩ x6) base v l :=
  ob_set (ob_set (ob_set (ob_set (ob_set (ob_set (ob_set h hg) hg) hg) hg) hg) hg) hg
theorem below_2 (w : World) (a b : Obj) : Below w.heap.size w ((w.alloc a).alloc b) := (alloc_below w a).alloc (by rw [alloc_size]; omega) b
theorem heap_second (w : World) (a b : Obj) : ((w.alloc a).alloc b).heap[w.heap.size + 1]? = some b := by
  have := heap_alloc_new (w.alloc a) b
  rw [alloc_size] at this
  exact this

set_option maxRecDepth 100000 in
set_option maxHeartbeats 800000 in
theorem rsh_1 (a0 a1 a2 a3 : Int) (l : List UInt8) (v : Value) (w : World) (hv : SL w w.heap.size v l) (h1 : l.length = 1) :
    Calls Try.prog 48 #[Cm.val ⟨a0, a1, a2, a3, [], 0, false⟩ (.slice none 0 0), v] w (ShR a0 a1 a2 a3 false 1 l w) := by
  have HB : Hid (bodyL 1 l = ([], leN l, 0)) := by show _ = _; rw [bodyL, if_neg (by omega), if_neg (by omega), if_pos h1]
  have HA := Lib.hid (fun (W : World) (hW : Below w.heap.size w W) => ramount_any l v W _ (hv.on hW) (by omega) (by omega))
  obtain ⟨A, c, rfl, _, _, _⟩ := hv
  have q1 : ((l.length : Int) == 1) = true := by rw [h1]; rfl
  simp only [Cm.val]
  clear h1
  go_enter Try.func48, Try.ntmps48
  go_wp2_with fail
  refine (HA.out _ (below_2 _ _ _)).mono ?_
  rintro e w1 ⟨rfl, rfl⟩
  generalize leN l = n at *
  go_wp2_with fail
  exact bodyPost_ret (results_cell2 rfl _ _ (w.heap.size + 1) 24 _ (0, 0) _ rfl (heap_second _ _ _) Try.underlying24 rfl (by kernel_rfl)) rfl (ShR.good HB.out (SL.nil _ _ _ _ (Nat.zero_le _)) (below_2 _ _ _))

/-- A short body of more than one byte. -/
theorem body1 {l : List UInt8} {n : Nat} (h2 : 2 ≤ l.length) (hn : (l.getD 0 0).toNat = n) (h0 : n ≠ 0) :
    bodyL 1 l = if l.length < 1 + n then ([], 0, 5) else if l.length = 1 + n then (l.drop 1, 0, 0) else if l.length = 2 + n then ((l.drop 1).take n, leN ((l.drop 1).drop n), 0) else ([], 0, 4) := by
  have hnum : numL (l.take 1) = n := by
    rw [numL_take l 0 (by omega), hn]
    simp [numL]
  rw [bodyL, if_neg (by omega), if_neg (by omega), if_neg (by omega), hnum, if_neg h0, List.length_drop]
  by_cases c1 : l.length < 1 + n
  · rw [if_pos (by omega), if_pos c1]
  · rw [if_neg (by omega), if_neg c1]
    by_cases c2 : l.length = 1 + n
    · rw [if_pos (by omega), if_pos c2]
    · rw [if_neg (by omega), if_neg c2]
      by_cases c3 : l.length = 2 + n
      · rw [if_pos (by omega), if_pos c3]
      · rw [if_neg (by omega), if_neg c3]
set_option maxRecDepth 100000 in
set_option maxHeartbeats 1600000 in
theorem rsh_2 (a0 a1 a2 a3 : Int) (l : List UInt8) (v : Value) (w : World) (hv : SL w w.heap.size v l) (hl : l.length ≤ 80000) (h2 : 2 ≤ l.length) (n : Nat) (hn : (l.getD 0 0).toNat = n) (h0 : n ≠ 0) :
    Calls Try.prog 48 #[Cm.val ⟨a0, a1, a2, a3, [], 0, false⟩ (.slice none 0 0), v] w (ShR a0 a1 a2 a3 false 1 l w) := by
  have hbody := body1 h2 hn h0
  have HS := Lib.hid hv
  obtain ⟨A, c, rfl, k1, k2, k3⟩ := hv
  unfold maxLen at k2
  obtain ⟨b, o, rfl, hb, hc⟩ := k3 (by omega)
  have g0 : w.cell? ⟨b, o, none⟩ = some (.int .u8 ((l.getD 0 0).toNat : Int)) := hc 0 (by omega)
  rw [hn] at g0
  have hn256 : n < 256 := by rw [← hn]; exact (l.getD 0 0).toNat_lt
  have q1 : ((l.length : Int) == 1) = false := by rw [beq_eq_false_iff_ne]; omega
  have hp : 0 < l.length := by omega
  simp only [Cm.val]
  have HC := Lib.hid hc
  have HN := Lib.hid hn
  clear hc k3 hn
  by_cases c1 : l.length < 1 + n
  · rw [if_pos c1] at hbody
    have HB := Lib.hid hbody
    have d1 : decide ((l.length : Int) < 1 + (n : Int)) = true := by rw [decide_eq_true_iff]; omega
    clear c1 hbody h0
    go_enter Try.func48, Try.ntmps48
    go_wp2_with fail
    exact bodyPost_ret (results_cell2 rfl _ _ (w.heap.size + 1) 24 _ (0, 0) _ rfl (heap_second _ _ _) Try.underlying24 rfl (by kernel_rfl)) rfl (ShR.bad HB.out (by decide) (below_2 _ _ _))
  rw [if_neg c1] at hbody
  have d1 : decide ((l.length : Int) < 1 + (n : Int)) = false := by rw [decide_eq_false_iff_not]; omega
  by_cases c2 : 2 + n < l.length
  · rw [if_neg (by omega), if_neg (by omega)] at hbody
    have HB := Lib.hid hbody
    have d2 : decide (2 + (n : Int) < (l.length : Int)) = true := by rw [decide_eq_true_iff]; omega
    clear c1 c2 hbody h0
    go_enter Try.func48, Try.ntmps48
    go_wp2_with fail
    exact bodyPost_ret (results_cell2 rfl _ _ (w.heap.size + 1) 24 _ (0, 0) _ rfl (heap_second _ _ _) Try.underlying24 rfl (by kernel_rfl)) rfl (ShR.bad HB.out (by decide) (below_2 _ _ _))
  have d2 : decide (2 + (n : Int) < (l.length : Int)) = false := by rw [decide_eq_false_iff_not]; omega
  have i0 : (0 : Int) ≤ 1 := by omega
  have i1 : (1 : Int) ≤ 1 + (n : Int) := by omega
  have i2 : 1 + (n : Int) ≤ (l.length : Int) := by omega
  have i3 : 1 + (n : Int) ≤ (c : Int) := by omega
  have hm1 : n ≤ (l.drop 1).length := by rw [List.length_drop]; omega
  obtain ⟨M, hM⟩ : ∃ M, M = (l.drop 1).take n := ⟨_, rfl⟩
  have hML : M.length = n := by rw [hM, List.length_take]; omega
  have hreads : ∀ W : World, Below w.heap.size w W → 0 < M.length → ∃ b' o', (some ⟨b, o + 1, none⟩ : Option Addr) = some ⟨b', o', none⟩ ∧ ∀ k, k < M.length → W.cell? ⟨b', o' + k, none⟩ = some (.int .u8 ((M.getD k 0).toNat : Int)) := by
    intro W hW hp'
    refine ⟨b, o + 1, rfl, fun k hk => ?_⟩
    rw [(hW.cell (p := ⟨b, o + 1 + k, none⟩) hb), Nat.add_assoc, HC.out (1 + k) (by omega), hM]
    simp [List.getD, List.getElem?_take, List.getElem?_drop, show k < n by omega, Nat.add_comm 1 k]
  have hmade := OB.made ((w.alloc (.cells #[.int .i64 a0, .int .i64 a1, .int .i64 a2, .int .i64 a3, .slice none 0 0, .int .i64 0, .bool false] 24)).alloc (.cells #[.int .i64 0, .int .i64 0, .int .i64 0, .int .i64 0, .slice none 0 0, .int .i64 0, .bool false] 24))
  rw [alloc_size, alloc_size] at hmade
  have HMADE := Lib.hid hmade
  have HREADS := Lib.hid hreads
  have HML := Lib.hid hML
  have h3' : Below w.heap.size w (((w.alloc (.cells #[.int .i64 a0, .int .i64 a1, .int .i64 a2, .int .i64 a3, .slice none 0 0, .int .i64 0, .bool false] 24)).alloc (.cells #[.int .i64 0, .int .i64 0, .int .i64 0, .int .i64 0, .slice none 0 0, .int .i64 0, .bool false] 24)).alloc (.cells #[] 5)) := (below_2 _ _ _).alloc (by rw [alloc_size, alloc_size]; omega) _
  have H3 := Lib.hid h3'
  have HSZ : Hid ((((w.alloc (.cells #[.int .i64 a0, .int .i64 a1, .int .i64 a2, .int .i64 a3, .slice none 0 0, .int .i64 0, .bool false] 24)).alloc (.cells #[.int .i64 0, .int .i64 0, .int .i64 0, .int .i64 0, .slice none 0 0, .int .i64 0, .bool false] 24)).alloc (.cells #[] 5)).heap.size = w.heap.size + 1 + 1 + 1) := by show _ = _; rw [alloc_size, alloc_size, alloc_size]
  have hr1 : (((w.alloc (.cells #[.int .i64 a0, .int .i64 a1, .int .i64 a2, .int .i64 a3, .slice none 0 0, .int .i64 0, .bool false] 24)).alloc (.cells #[.int .i64 0, .int .i64 0, .int .i64 0, .int .i64 0, .slice none 0 0, .int .i64 0, .bool false] 24)).alloc (.cells #[] 5)).heap[w.heap.size]? = some (.cells #[.int .i64 a0, .int .i64 a1, .int .i64 a2, .int .i64 a3, .slice none 0 0, .int .i64 0, .bool false] 24 (0, 0)) := by
    rw [(alloc_below _ _).block _ (by rw [alloc_size, alloc_size]; omega)]
    exact heap_alloc2_old w _ _
  have hr2 : (((w.alloc (.cells #[.int .i64 a0, .int .i64 a1, .int .i64 a2, .int .i64 a3, .slice none 0 0, .int .i64 0, .bool false] 24)).alloc (.cells #[.int .i64 0, .int .i64 0, .int .i64 0, .int .i64 0, .slice none 0 0, .int .i64 0, .bool false] 24)).alloc (.cells #[] 5)).heap[w.heap.size + 1]? = some (.cells #[.int .i64 0, .int .i64 0, .int .i64 0, .int .i64 0, .slice none 0 0, .int .i64 0, .bool false] 24 (0, 0)) := by
    rw [(alloc_below _ _).block _ (by rw [alloc_size, alloc_size]; omega)]
    exact heap_second w _ _
  have HR1 := Lib.hid hr1
  have HR2 := Lib.hid hr2
  have HB0 := Lib.hid hbody
  have HMM := Lib.hid hM
  clear hmade hreads hML h3' hr1 hr2 hbody hM
  have hMn : M.length ≤ 1000 := by have := HML.out; omega
  by_cases c3 : l.length = 1 + n
  · have HBF : Hid (bodyL 1 l = (M, 0, 0)) := by
      show _ = _
      rw [HB0.out, if_pos c3, HMM.out, List.take_of_length_le (by rw [List.length_drop]; omega)]
    have d3 : ((l.length : Int) == 2 + (n : Int)) = false := by rw [beq_eq_false_iff_ne]; omega
    clear c1 c2 c3
    go_enter Try.func48, Try.ntmps48
    go_wp2_with (at_builtin; (refine wpList_appS rfl (.tmp 30) (.tmp 34) rfl (((w.alloc (.cells #[.int .i64 a0, .int .i64 a1, .int .i64 a2, .int .i64 a3, .slice none 0 0, .int .i64 0, .bool false] 24)).alloc (.cells #[.int .i64 0, .int .i64 0, .int .i64 0, .int .i64 0, .slice none 0 0, .int .i64 0, .bool false] 24)).alloc (.cells #[] 5)) (w.heap.size + 1 + 1) _ [] M (some ⟨b, o + 1, none⟩) (c - 1) rfl (by rw [show M.length = 1 + n - 1 from by have := HML.out; omega]; rfl) (Below.refl _ _) HMADE.out (fun hp' => HREADS.out _ H3.out hp') (by simp only [List.length_nil]; omega) (by rw [HSZ.out]; omega) ?_; intro v3 w3 hv3 hb3; have hz1 := (hb3.block _ (by omega)).trans HR1.out; have hz2 := (hb3.block _ (by omega)).trans HR2.out; have HV3 := Lib.hid hv3; have HW3 := Lib.hid (H3.out.trans (hb3.mono (by omega))); obtain ⟨g3, z3, rfl, _, _⟩ := World.ownsRow.form hv3 (by have := HML.out; simp; omega); clear hv3 hb3; have p0 := cell_of_row _ _ 0 _ _ _ hz1; have p1 := cell_of_row _ _ 1 _ _ _ hz1; have p2 := cell_of_row _ _ 2 _ _ _ hz1; have p3 := cell_of_row _ _ 3 _ _ _ hz1; have p4 := cell_of_row _ _ 4 _ _ _ hz1; have p5 := cell_of_row _ _ 5 _ _ _ hz1; have p6 := cell_of_row _ _ 6 _ _ _ hz1; have s0 := frozen_of_row _ _ 0 _ _ hz1; have s1 := frozen_of_row _ _ 1 _ _ hz1; have s2 := frozen_of_row _ _ 2 _ _ hz1; have s3 := frozen_of_row _ _ 3 _ _ hz1; have s4 := frozen_of_row _ _ 4 _ _ hz1; have s5 := frozen_of_row _ _ 5 _ _ hz1; have s6 := frozen_of_row _ _ 6 _ _ hz1; have q0 := cell_of_row _ _ 0 _ _ _ hz2; have q1 := cell_of_row _ _ 1 _ _ _ hz2; have q2 := cell_of_row _ _ 2 _ _ _ hz2; have q3 := cell_of_row _ _ 3 _ _ _ hz2; have q4 := cell_of_row _ _ 4 _ _ _ hz2; have q5 := cell_of_row _ _ 5 _ _ _ hz2; have q6 := cell_of_row _ _ 6 _ _ _ hz2; have t0 := frozen_of_row _ _ 0 _ _ hz2; have t1 := frozen_of_row _ _ 1 _ _ hz2; have t2 := frozen_of_row _ _ 2 _ _ hz2; have t3 := frozen_of_row _ _ 3 _ _ hz2; have t4 := frozen_of_row _ _ 4 _ _ hz2; have t5 := frozen_of_row _ _ 5 _ _ hz2; have t6 := frozen_of_row _ _ 6 _ _ hz2; have HZ1 := Lib.hid hz1; have HZ2 := Lib.hid hz2; clear hz1 hz2))
    exact bodyPost_ret (results_cell2 rfl _ _ (w.heap.size + 1) 24 _ (0, 0) _ rfl (row7_set _ _ _ _ _ _ _ _ _ _ _ _ _ _ _ _ _ (by rw [heap_setCell_other _ _ _ _ (by simp)]; exact HZ2.out)) Try.underlying24 rfl (by kernel_rfl)) rfl (ShR.good HBF.out (OB.sl (ob_set7 (ob_set HV3.out (by omega)) (by omega) _ _ _ _ _ _ _)) (below7g (HW3.out.setCell (p := ⟨w.heap.size, 4, none⟩) (Nat.le_refl _) _) (by omega) _ _ _ _ _ _ _))
  · have hcut := HS.out.cut (n := 1 + n) (by omega)
    have e3 : (l.drop 1).drop n = l.drop (1 + n) := by rw [List.drop_drop]
    have HBF : Hid (bodyL 1 l = (M, leN (l.drop (1 + n)), 0)) := by
      show _ = _
      rw [HB0.out, if_neg c3, if_pos (by omega), HMM.out, e3]
    have HAM := fun (W : World) (hW : Below w.heap.size w W) => ramount_any (l.drop (1 + n)) _ W _ (hcut.on hW) (by rw [List.length_drop]; omega) (by rw [List.length_drop]; omega)
    have HAM := Lib.hid HAM
    have d3 : ((l.length : Int) == 2 + (n : Int)) = true := by rw [beq_iff_eq]; omega
    have i4 : (0 : Int) ≤ 1 + (n : Int) := by omega
    have i5 : ¬ c = 1 + n := by omega
    have i6 : 1 + n ≤ l.length := by omega
    have i7 : 1 + n ≤ c := by omega
    clear c1 c2 c3 hcut e3
    generalize leN (l.drop (1 + n)) = le at *
    go_enter Try.func48, Try.ntmps48
    go_wp2_with (at_builtin; (refine wpList_appS rfl (.tmp 30) (.tmp 34) rfl (((w.alloc (.cells #[.int .i64 a0, .int .i64 a1, .int .i64 a2, .int .i64 a3, .slice none 0 0, .int .i64 0, .bool false] 24)).alloc (.cells #[.int .i64 0, .int .i64 0, .int .i64 0, .int .i64 0, .slice none 0 0, .int .i64 0, .bool false] 24)).alloc (.cells #[] 5)) (w.heap.size + 1 + 1) _ [] M (some ⟨b, o + 1, none⟩) (c - 1) rfl (by rw [show M.length = 1 + n - 1 from by have := HML.out; omega]; rfl) (Below.refl _ _) HMADE.out (fun hp' => HREADS.out _ H3.out hp') (by simp only [List.length_nil]; omega) (by rw [HSZ.out]; omega) ?_; intro v3 w3 hv3 hb3; have hz1 := (hb3.block _ (by omega)).trans HR1.out; have hz2 := (hb3.block _ (by omega)).trans HR2.out; have HV3 := Lib.hid hv3; have HW3 := Lib.hid (H3.out.trans (hb3.mono (by omega))); obtain ⟨g3, z3, rfl, _, _⟩ := World.ownsRow.form hv3 (by have := HML.out; simp; omega); clear hv3 hb3; have p0 := cell_of_row _ _ 0 _ _ _ hz1; have p1 := cell_of_row _ _ 1 _ _ _ hz1; have p2 := cell_of_row _ _ 2 _ _ _ hz1; have p3 := cell_of_row _ _ 3 _ _ _ hz1; have p4 := cell_of_row _ _ 4 _ _ _ hz1; have p5 := cell_of_row _ _ 5 _ _ _ hz1; have p6 := cell_of_row _ _ 6 _ _ _ hz1; have s0 := frozen_of_row _ _ 0 _ _ hz1; have s1 := frozen_of_row _ _ 1 _ _ hz1; have s2 := frozen_of_row _ _ 2 _ _ hz1; have s3 := frozen_of_row _ _ 3 _ _ hz1; have s4 := frozen_of_row _ _ 4 _ _ hz1; have s5 := frozen_of_row _ _ 5 _ _ hz1; have s6 := frozen_of_row _ _ 6 _ _ hz1; have q0 := cell_of_row _ _ 0 _ _ _ hz2; have q1 := cell_of_row _ _ 1 _ _ _ hz2; have q2 := cell_of_row _ _ 2 _ _ _ hz2; have q3 := cell_of_row _ _ 3 _ _ _ hz2; have q4 := cell_of_row _ _ 4 _ _ _ hz2; have q5 := cell_of_row _ _ 5 _ _ _ hz2; have q6 := cell_of_row _ _ 6 _ _ _ hz2; have t0 := frozen_of_row _ _ 0 _ _ hz2; have t1 := frozen_of_row _ _ 1 _ _ hz2; have t2 := frozen_of_row _ _ 2 _ _ hz2; have t3 := frozen_of_row _ _ 3 _ _ hz2; have t4 := frozen_of_row _ _ 4 _ _ hz2; have t5 := frozen_of_row _ _ 5 _ _ hz2; have t6 := frozen_of_row _ _ 6 _ _ hz2; have HZ1 := Lib.hid hz1; have HZ2 := Lib.hid hz2; clear hz1 hz2))
    refine (HAM.out _ (HW3.out.setCell (p := ⟨w.heap.size, 4, none⟩) (Nat.le_refl _) _)).mono ?_
    rintro e w4 ⟨rfl, rfl⟩
    go_wp2_with fail
    exact bodyPost_ret (results_cell2 rfl _ _ (w.heap.size + 1) 24 _ (0, 0) _ rfl (row7_set _ _ _ _ _ _ _ _ _ _ _ _ _ _ _ _ _ (by rw [heap_setCell_other _ _ _ _ (by simp), heap_setCell_other _ _ _ _ (by simp)]; exact HZ2.out)) Try.underlying24 rfl (by kernel_rfl)) rfl (ShR.good HBF.out (OB.sl (ob_set7 (ob_set (ob_set HV3.out (by omega)) (by omega)) (by omega) _ _ _ _ _ _ _)) (below7g ((HW3.out.setCell (p := ⟨w.heap.size, 4, none⟩) (Nat.le_refl _) _).setCell (p := ⟨w.heap.size, 5, none⟩) (Nat.le_refl _) _) (by omega) _ _ _ _ _ _ _))
end Go.Proofs.Ytjoibonbmalbdaa
