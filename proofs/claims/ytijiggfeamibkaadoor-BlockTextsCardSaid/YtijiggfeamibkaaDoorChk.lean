
/-
  The walk of the program's Check.
-/
import Derived.Test.YtijiggfeamibkaaDoorSmb
namespace Go.Proofs.YtijiggfeamibkaaDoor
set_option linter.unusedVariables false
set_option linter.unusedSimpArgs false
open Go.RowKit

theorem mt_rng_122 (v : Value) (w : World) : (method 31 46 v "smartcard/block.inRange").run Tryd.prog w = .ok (52, v) w := by kernel_rfl
theorem mt_rng_124 (v : Value) (w : World) : (method 31 48 v "smartcard/block.inRange").run Tryd.prog w = .ok (81, v) w := by kernel_rfl
theorem mt_rng_126 (v : Value) (w : World) : (method 31 50 v "smartcard/block.inRange").run Tryd.prog w = .ok (87, v) w := by kernel_rfl
theorem mt_inf_122 (v : Value) (w : World) : (method 31 46 v "smartcard/block.checkInf").run Tryd.prog w = .ok (50, v) w := by kernel_rfl
theorem mt_inf_124 (v : Value) (w : World) : (method 31 48 v "smartcard/block.checkInf").run Tryd.prog w = .ok (79, v) w := by kernel_rfl
theorem mt_inf_126 (v : Value) (w : World) : (method 31 50 v "smartcard/block.checkInf").run Tryd.prog w = .ok (85, v) w := by kernel_rfl
theorem cells7 {W : World} {n : Nat} {x0 x1 x2 x3 x4 x5 x6 : Value} (ra : W.heap[n]? = some (.cells #[x0, x1, x2, x3, x4, x5, x6] 24 (0, 0))) :
    W.cell? ⟨n, 0, none⟩ = some x0 ∧ W.cell? ⟨n, 1, none⟩ = some x1 ∧ W.cell? ⟨n, 2, none⟩ = some x2 ∧ W.cell? ⟨n, 3, none⟩ = some x3 ∧ W.cell? ⟨n, 4, none⟩ = some x4 ∧ W.cell? ⟨n, 5, none⟩ = some x5 ∧ W.cell? ⟨n, 6, none⟩ = some x6 :=
  ⟨cell_of_row _ _ 0 _ _ _ ra, cell_of_row _ _ 1 _ _ _ ra, cell_of_row _ _ 2 _ _ _ ra, cell_of_row _ _ 3 _ _ _ ra, cell_of_row _ _ 4 _ _ _ ra, cell_of_row _ _ 5 _ _ _ ra, cell_of_row _ _ 6 _ _ _ ra⟩

set_option maxRecDepth 100000 in
set_option maxHeartbeats 1600000 in
theorem pchk_inf (nad : Int) (s : Int) (m : Bool) (code : Int) (ans : Bool) (l : List UInt8) (v : Value) (w : World) (hv : SL w w.heap.size v l) :
    Calls Tryd.prog 8 #[Bk.val ⟨nad, 0, s, m, code, ans, l⟩ v] w fun e w' => e = .returned (.int .i64 (chkK ⟨nad, 0, s, m, code, ans, l⟩ (Kd.inf s m))) ∧ Below w.heap.size w w' := by
  have HV := Lib.hid hv
  obtain ⟨A, c, rfl, _, _, _⟩ := hv
  have HK := Lib.hid (fun (W : World) => pkind_inf ⟨nad, 0, s, m, code, ans, l⟩ (.slice A l.length c) W rfl)
  have HR := Lib.hid (fun (W : World) => prng_inf s m W)
  have HC := Lib.hid (fun (W : World) => pcomp_inf nad s m A l.length c l W)
  have hs := fun (W : World) (hW : Below w.heap.size w W) => psameb_any ⟨nad, 0, s, m, code, ans, l⟩ (compB nad (Kd.inf s m) l) _ _ W (HV.out.on hW) (HV.out.on hW)
  have e : sameB ⟨nad, 0, s, m, code, ans, l⟩ (compB nad (Kd.inf s m) l) = clean ⟨nad, 0, s, m, code, ans, l⟩ (Kd.inf s m) := by simp [sameB, compB, clean]
  rw [e] at hs
  have HS := Lib.hid hs
  have HI := Lib.hid (fun (W : World) (hW : Below w.heap.size w W) => pinf_inf s m l _ W (HV.out.on hW))
  have HE : Hid (chkK ⟨nad, 0, s, m, code, ans, l⟩ (Kd.inf s m) = if okNad nad && (Kd.inf s m).rng then (if clean ⟨nad, 0, s, m, code, ans, l⟩ (Kd.inf s m) then (Kd.inf s m).infE l else 4) else 2) := rfl
  have HM := Lib.hid (fun (v : Value) (w : World) => mt_rng_122 v w)
  have HN := Lib.hid (fun (v : Value) (w : World) => mt_inf_122 v w)
  clear hs e
  generalize (Kd.inf s m).infE l = ie at *
  generalize clean ⟨nad, 0, s, m, code, ans, l⟩ (Kd.inf s m) = cl at *
  generalize (Kd.inf s m).rng = rg at *
  simp only [Bk.val, Kd.val, compB] at *
  by_cases n0 : nad < 0
  · have HE2 : Hid (chkK ⟨nad, 0, s, m, code, ans, l⟩ (Kd.inf s m) = 2) := by show _ = _; rw [HE.out, show okNad nad = false from by simp [okNad]; omega]; rfl
    have d0 : decide (nad < 0) = true := by simpa using n0
    clear n0
    go_enter Tryd.func8, Tryd.ntmps8
    go_wp2_with fail
    refine (HK.out _).mono ?_
    rintro e w1 ⟨rfl, hb1⟩
    have h2 : w1.heap[w.heap.size]? = some (.cells #[.int .i64 nad, .int .i64 0, .int .i64 s, .bool m, .int .i64 code, .bool ans, .slice A l.length c] 24 (0, 0)) := (hb1.block _ (by rw [alloc_size]; omega)).trans (heap_alloc_new w _)
    have q0 := cell_of_row _ _ 0 _ _ _ h2
    have q1 := cell_of_row _ _ 1 _ _ _ h2
    have q2 := cell_of_row _ _ 2 _ _ _ h2
    have q3 := cell_of_row _ _ 3 _ _ _ h2
    have q4 := cell_of_row _ _ 4 _ _ _ h2
    have q5 := cell_of_row _ _ 5 _ _ _ h2
    have q6 := cell_of_row _ _ 6 _ _ _ h2
    have hw1 := below_alloc2 hb1
    have hs1 : w.heap.size < w1.heap.size := by have := hb1.size; rw [alloc_size] at this; omega
    have H2 := Lib.hid h2
    clear hb1 h2
    go_wp2_with fail
    go_ret
    exact ⟨by rw [HE2.out]; rfl, hw1⟩
  by_cases n1 : 254 < nad
  · have HE2 : Hid (chkK ⟨nad, 0, s, m, code, ans, l⟩ (Kd.inf s m) = 2) := by show _ = _; rw [HE.out, show okNad nad = false from by simp [okNad]; omega]; rfl
    have d0 : decide (nad < 0) = false := by simpa using n0
    have d1 : decide (254 < nad) = true := by simpa using n1
    clear n0 n1
    go_enter Tryd.func8, Tryd.ntmps8
    go_wp2_with fail
    refine (HK.out _).mono ?_
    rintro e w1 ⟨rfl, hb1⟩
    have h2 : w1.heap[w.heap.size]? = some (.cells #[.int .i64 nad, .int .i64 0, .int .i64 s, .bool m, .int .i64 code, .bool ans, .slice A l.length c] 24 (0, 0)) := (hb1.block _ (by rw [alloc_size]; omega)).trans (heap_alloc_new w _)
    have q0 := cell_of_row _ _ 0 _ _ _ h2
    have q1 := cell_of_row _ _ 1 _ _ _ h2
    have q2 := cell_of_row _ _ 2 _ _ _ h2
    have q3 := cell_of_row _ _ 3 _ _ _ h2
    have q4 := cell_of_row _ _ 4 _ _ _ h2
    have q5 := cell_of_row _ _ 5 _ _ _ h2
    have q6 := cell_of_row _ _ 6 _ _ _ h2
    have hw1 := below_alloc2 hb1
    have hs1 : w.heap.size < w1.heap.size := by have := hb1.size; rw [alloc_size] at this; omega
    have H2 := Lib.hid h2
    clear hb1 h2
    go_wp2_with fail
    go_ret
    exact ⟨by rw [HE2.out]; rfl, hw1⟩
  have d0 : decide (nad < 0) = false := by simpa using n0
  have d1 : decide (254 < nad) = false := by simpa using n1
  have HO : Hid (okNad nad = true) := by show _ = _; simp [okNad]; omega
  clear n0 n1
  rw [HO.out, Bool.true_and] at HE
  cases rg
  · have HE2 : Hid (chkK ⟨nad, 0, s, m, code, ans, l⟩ (Kd.inf s m) = 2) := by show _ = _; rw [HE.out]; rfl
    go_enter Tryd.func8, Tryd.ntmps8
    go_wp2_with fail
    refine (HK.out _).mono ?_
    rintro e w1 ⟨rfl, hb1⟩
    have h2 : w1.heap[w.heap.size]? = some (.cells #[.int .i64 nad, .int .i64 0, .int .i64 s, .bool m, .int .i64 code, .bool ans, .slice A l.length c] 24 (0, 0)) := (hb1.block _ (by rw [alloc_size]; omega)).trans (heap_alloc_new w _)
    have q0 := cell_of_row _ _ 0 _ _ _ h2
    have q1 := cell_of_row _ _ 1 _ _ _ h2
    have q2 := cell_of_row _ _ 2 _ _ _ h2
    have q3 := cell_of_row _ _ 3 _ _ _ h2
    have q4 := cell_of_row _ _ 4 _ _ _ h2
    have q5 := cell_of_row _ _ 5 _ _ _ h2
    have q6 := cell_of_row _ _ 6 _ _ _ h2
    have hw1 := below_alloc2 hb1
    have hs1 : w.heap.size < w1.heap.size := by have := hb1.size; rw [alloc_size] at this; omega
    have H2 := Lib.hid h2
    clear hb1 h2
    have hm := HM.out
    go_wp2_with fail
    refine (HR.out _).mono ?_
    rintro e w2 ⟨rfl, hb2⟩
    clear hm
    go_wp2_with fail
    go_ret
    exact ⟨by rw [HE2.out]; rfl, hw1.trans (hb2.mono hw1.size)⟩
  rw [if_pos rfl] at HE
  go_enter Tryd.func8, Tryd.ntmps8
  go_wp2_with fail
  refine (HK.out _).mono ?_
  rintro e w1 ⟨rfl, hb1⟩
  have h2 : w1.heap[w.heap.size]? = some (.cells #[.int .i64 nad, .int .i64 0, .int .i64 s, .bool m, .int .i64 code, .bool ans, .slice A l.length c] 24 (0, 0)) := (hb1.block _ (by rw [alloc_size]; omega)).trans (heap_alloc_new w _)
  have q0 := cell_of_row _ _ 0 _ _ _ h2
  have q1 := cell_of_row _ _ 1 _ _ _ h2
  have q2 := cell_of_row _ _ 2 _ _ _ h2
  have q3 := cell_of_row _ _ 3 _ _ _ h2
  have q4 := cell_of_row _ _ 4 _ _ _ h2
  have q5 := cell_of_row _ _ 5 _ _ _ h2
  have q6 := cell_of_row _ _ 6 _ _ _ h2
  have hw1 := below_alloc2 hb1
  have hs1 : w.heap.size < w1.heap.size := by have := hb1.size; rw [alloc_size] at this; omega
  have H2 := Lib.hid h2
  clear hb1 h2
  have hm := HM.out
  go_wp2_with fail
  refine (HR.out _).mono ?_
  rintro e w2 ⟨rfl, hb2⟩
  clear hm
  have HR2 := Lib.hid ((hb2.block _ hs1).trans H2.out)
  have HW2 := Lib.hid (hw1.trans (hb2.mono hw1.size))
  have hs2 : w.heap.size < w2.heap.size := by have := hb2.size; omega
  clear hb2 q0 q1 q2 q3 q4 q5 q6 hw1 hs1
  have HWD := Lib.hid HW2.out.drew
  obtain ⟨r0, r1, r2, r3, r4, r5, r6⟩ := cells7 HR2.out
  go_wp2_with fail
  clear r0 r1 r2 r3 r4 r5 r6
  go_region_held3 (fun w' => w'.cell? ⟨w.heap.size, 0, none⟩ = some (.int .i64 nad) ∧ w'.cell? ⟨w.heap.size, 1, none⟩ = some (.int .i64 0) ∧ w'.cell? ⟨w.heap.size, 2, none⟩ = some (.int .i64 s) ∧ w'.cell? ⟨w.heap.size, 3, none⟩ = some (.bool m) ∧ w'.cell? ⟨w.heap.size, 4, none⟩ = some (.int .i64 code) ∧ w'.cell? ⟨w.heap.size, 5, none⟩ = some (.bool ans) ∧ w'.cell? ⟨w.heap.size, 6, none⟩ = some (.slice A l.length c))
    (first
      | (go_keep; done)
      | exact cells7 HR2.out
      | exact cells7 ((hb3.block _ (by show w.heap.size < w2.heap.size; exact hs2)).trans HR2.out)
      | exact cells7 ((hb4.block _ hs3).trans ((hb3.block _ (by show w.heap.size < w2.heap.size; exact hs2)).trans HR2.out)))
    (first
      | (go_at_call 19; refine (HC.out _).mono ?_; rintro e w3 ⟨rfl, hb3⟩; have hs3 : w.heap.size < w3.heap.size := (by have h := hb3.size; have h' : w2.heap.size ≤ w3.heap.size := h; omega))
      | (go_at_call 18; refine (HS.out _ (HWD.out.trans (hb3.mono HWD.out.size))).mono ?_; rintro e w4 ⟨rfl, hb4⟩; have hs4 : w.heap.size < w4.heap.size := (by have := hb4.size; omega)))
  have hz3 := HWD.out.trans (hb3.mono HWD.out.size)
  have hz4 := hz3.trans (hb4.mono hz3.size)
  have hrow : w4.heap[w.heap.size]? = some (.cells #[.int .i64 nad, .int .i64 0, .int .i64 s, .bool m, .int .i64 code, .bool ans, .slice A l.length c] 24 (0, 0)) := (hb4.block _ hs3).trans ((hb3.block _ (by show w.heap.size < w2.heap.size; exact hs2)).trans HR2.out)
  have r6 := cell_of_row _ _ 6 _ _ _ hrow
  have HROW := Lib.hid hrow
  have HZ4 := Lib.hid hz4
  clear hrow hb3 hb4 hz3 hz4
  cases cl
  · go_wp2_with fail
    go_ret
    exact ⟨by rw [HE.out]; rfl, HZ4.out⟩
  · have hm := HN.out
    go_wp2_with fail
    refine (HI.out _ (by first | exact HZ4.out | exact HZ4.out.drew)).mono ?_
    rintro e w5 ⟨rfl, hb5⟩
    clear hm
    go_wp2_with fail
    go_ret
    exact ⟨by rw [HE.out]; rfl, by first | exact HZ4.out.trans (hb5.mono HZ4.out.size) | exact HZ4.out.drew.trans (hb5.mono HZ4.out.drew.size)⟩

set_option maxRecDepth 100000 in
set_option maxHeartbeats 1600000 in
theorem pchk_rdy (nad : Int) (s code : Int) (m : Bool) (ans : Bool) (l : List UInt8) (v : Value) (w : World) (hv : SL w w.heap.size v l) :
    Calls Tryd.prog 8 #[Bk.val ⟨nad, 1, s, m, code, ans, l⟩ v] w fun e w' => e = .returned (.int .i64 (chkK ⟨nad, 1, s, m, code, ans, l⟩ (Kd.rdy s code))) ∧ Below w.heap.size w w' := by
  have HV := Lib.hid hv
  obtain ⟨A, c, rfl, _, _, _⟩ := hv
  have HK := Lib.hid (fun (W : World) => pkind_rdy ⟨nad, 1, s, m, code, ans, l⟩ (.slice A l.length c) W rfl)
  have HR := Lib.hid (fun (W : World) => prng_rdy s code W)
  have HC := Lib.hid (fun (W : World) => pcomp_rdy nad s code A l.length c l W)
  have hs := fun (W : World) (hW : Below w.heap.size w W) => psameb_any ⟨nad, 1, s, m, code, ans, l⟩ (compB nad (Kd.rdy s code) l) _ _ W (HV.out.on hW) (HV.out.on hW)
  have e : sameB ⟨nad, 1, s, m, code, ans, l⟩ (compB nad (Kd.rdy s code) l) = clean ⟨nad, 1, s, m, code, ans, l⟩ (Kd.rdy s code) := by simp [sameB, compB, clean]
  rw [e] at hs
  have HS := Lib.hid hs
  have HI := Lib.hid (fun (W : World) (hW : Below w.heap.size w W) => pinf_rdy s code l _ W (HV.out.on hW))
  have HE : Hid (chkK ⟨nad, 1, s, m, code, ans, l⟩ (Kd.rdy s code) = if okNad nad && (Kd.rdy s code).rng then (if clean ⟨nad, 1, s, m, code, ans, l⟩ (Kd.rdy s code) then (Kd.rdy s code).infE l else 4) else 2) := rfl
  have HM := Lib.hid (fun (v : Value) (w : World) => mt_rng_124 v w)
  have HN := Lib.hid (fun (v : Value) (w : World) => mt_inf_124 v w)
  clear hs e
  generalize (Kd.rdy s code).infE l = ie at *
  generalize clean ⟨nad, 1, s, m, code, ans, l⟩ (Kd.rdy s code) = cl at *
  generalize (Kd.rdy s code).rng = rg at *
  simp only [Bk.val, Kd.val, compB] at *
  by_cases n0 : nad < 0
  · have HE2 : Hid (chkK ⟨nad, 1, s, m, code, ans, l⟩ (Kd.rdy s code) = 2) := by show _ = _; rw [HE.out, show okNad nad = false from by simp [okNad]; omega]; rfl
    have d0 : decide (nad < 0) = true := by simpa using n0
    clear n0
    go_enter Tryd.func8, Tryd.ntmps8
    go_wp2_with fail
    refine (HK.out _).mono ?_
    rintro e w1 ⟨rfl, hb1⟩
    have h2 : w1.heap[w.heap.size]? = some (.cells #[.int .i64 nad, .int .i64 1, .int .i64 s, .bool m, .int .i64 code, .bool ans, .slice A l.length c] 24 (0, 0)) := (hb1.block _ (by rw [alloc_size]; omega)).trans (heap_alloc_new w _)
    have q0 := cell_of_row _ _ 0 _ _ _ h2
    have q1 := cell_of_row _ _ 1 _ _ _ h2
    have q2 := cell_of_row _ _ 2 _ _ _ h2
    have q3 := cell_of_row _ _ 3 _ _ _ h2
    have q4 := cell_of_row _ _ 4 _ _ _ h2
    have q5 := cell_of_row _ _ 5 _ _ _ h2
    have q6 := cell_of_row _ _ 6 _ _ _ h2
    have hw1 := below_alloc2 hb1
    have hs1 : w.heap.size < w1.heap.size := by have := hb1.size; rw [alloc_size] at this; omega
    have H2 := Lib.hid h2
    clear hb1 h2
    go_wp2_with fail
    go_ret
    exact ⟨by rw [HE2.out]; rfl, hw1⟩
  by_cases n1 : 254 < nad
  · have HE2 : Hid (chkK ⟨nad, 1, s, m, code, ans, l⟩ (Kd.rdy s code) = 2) := by show _ = _; rw [HE.out, show okNad nad = false from by simp [okNad]; omega]; rfl
    have d0 : decide (nad < 0) = false := by simpa using n0
    have d1 : decide (254 < nad) = true := by simpa using n1
    clear n0 n1
    go_enter Tryd.func8, Tryd.ntmps8
    go_wp2_with fail
    refine (HK.out _).mono ?_
    rintro e w1 ⟨rfl, hb1⟩
    have h2 : w1.heap[w.heap.size]? = some (.cells #[.int .i64 nad, .int .i64 1, .int .i64 s, .bool m, .int .i64 code, .bool ans, .slice A l.length c] 24 (0, 0)) := (hb1.block _ (by rw [alloc_size]; omega)).trans (heap_alloc_new w _)
    have q0 := cell_of_row _ _ 0 _ _ _ h2
    have q1 := cell_of_row _ _ 1 _ _ _ h2
    have q2 := cell_of_row _ _ 2 _ _ _ h2
    have q3 := cell_of_row _ _ 3 _ _ _ h2
    have q4 := cell_of_row _ _ 4 _ _ _ h2
    have q5 := cell_of_row _ _ 5 _ _ _ h2
    have q6 := cell_of_row _ _ 6 _ _ _ h2
    have hw1 := below_alloc2 hb1
    have hs1 : w.heap.size < w1.heap.size := by have := hb1.size; rw [alloc_size] at this; omega
    have H2 := Lib.hid h2
    clear hb1 h2
    go_wp2_with fail
    go_ret
    exact ⟨by rw [HE2.out]; rfl, hw1⟩
  have d0 : decide (nad < 0) = false := by simpa using n0
  have d1 : decide (254 < nad) = false := by simpa using n1
  have HO : Hid (okNad nad = true) := by show _ = _; simp [okNad]; omega
  clear n0 n1
  rw [HO.out, Bool.true_and] at HE
  cases rg
  · have HE2 : Hid (chkK ⟨nad, 1, s, m, code, ans, l⟩ (Kd.rdy s code) = 2) := by show _ = _; rw [HE.out]; rfl
    go_enter Tryd.func8, Tryd.ntmps8
    go_wp2_with fail
    refine (HK.out _).mono ?_
    rintro e w1 ⟨rfl, hb1⟩
    have h2 : w1.heap[w.heap.size]? = some (.cells #[.int .i64 nad, .int .i64 1, .int .i64 s, .bool m, .int .i64 code, .bool ans, .slice A l.length c] 24 (0, 0)) := (hb1.block _ (by rw [alloc_size]; omega)).trans (heap_alloc_new w _)
    have q0 := cell_of_row _ _ 0 _ _ _ h2
    have q1 := cell_of_row _ _ 1 _ _ _ h2
    have q2 := cell_of_row _ _ 2 _ _ _ h2
    have q3 := cell_of_row _ _ 3 _ _ _ h2
    have q4 := cell_of_row _ _ 4 _ _ _ h2
    have q5 := cell_of_row _ _ 5 _ _ _ h2
    have q6 := cell_of_row _ _ 6 _ _ _ h2
    have hw1 := below_alloc2 hb1
    have hs1 : w.heap.size < w1.heap.size := by have := hb1.size; rw [alloc_size] at this; omega
    have H2 := Lib.hid h2
    clear hb1 h2
    have hm := HM.out
    go_wp2_with fail
    refine (HR.out _).mono ?_
    rintro e w2 ⟨rfl, hb2⟩
    clear hm
    go_wp2_with fail
    go_ret
    exact ⟨by rw [HE2.out]; rfl, hw1.trans (hb2.mono hw1.size)⟩
  rw [if_pos rfl] at HE
  go_enter Tryd.func8, Tryd.ntmps8
  go_wp2_with fail
  refine (HK.out _).mono ?_
  rintro e w1 ⟨rfl, hb1⟩
  have h2 : w1.heap[w.heap.size]? = some (.cells #[.int .i64 nad, .int .i64 1, .int .i64 s, .bool m, .int .i64 code, .bool ans, .slice A l.length c] 24 (0, 0)) := (hb1.block _ (by rw [alloc_size]; omega)).trans (heap_alloc_new w _)
  have q0 := cell_of_row _ _ 0 _ _ _ h2
  have q1 := cell_of_row _ _ 1 _ _ _ h2
  have q2 := cell_of_row _ _ 2 _ _ _ h2
  have q3 := cell_of_row _ _ 3 _ _ _ h2
  have q4 := cell_of_row _ _ 4 _ _ _ h2
  have q5 := cell_of_row _ _ 5 _ _ _ h2
  have q6 := cell_of_row _ _ 6 _ _ _ h2
  have hw1 := below_alloc2 hb1
  have hs1 : w.heap.size < w1.heap.size := by have := hb1.size; rw [alloc_size] at this; omega
  have H2 := Lib.hid h2
  clear hb1 h2
  have hm := HM.out
  go_wp2_with fail
  refine (HR.out _).mono ?_
  rintro e w2 ⟨rfl, hb2⟩
  clear hm
  have HR2 := Lib.hid ((hb2.block _ hs1).trans H2.out)
  have HW2 := Lib.hid (hw1.trans (hb2.mono hw1.size))
  have hs2 : w.heap.size < w2.heap.size := by have := hb2.size; omega
  clear hb2 q0 q1 q2 q3 q4 q5 q6 hw1 hs1
  have HWD := Lib.hid HW2.out.drew
  obtain ⟨r0, r1, r2, r3, r4, r5, r6⟩ := cells7 HR2.out
  go_wp2_with fail
  clear r0 r1 r2 r3 r4 r5 r6
  go_region_held3 (fun w' => w'.cell? ⟨w.heap.size, 0, none⟩ = some (.int .i64 nad) ∧ w'.cell? ⟨w.heap.size, 1, none⟩ = some (.int .i64 1) ∧ w'.cell? ⟨w.heap.size, 2, none⟩ = some (.int .i64 s) ∧ w'.cell? ⟨w.heap.size, 3, none⟩ = some (.bool m) ∧ w'.cell? ⟨w.heap.size, 4, none⟩ = some (.int .i64 code) ∧ w'.cell? ⟨w.heap.size, 5, none⟩ = some (.bool ans) ∧ w'.cell? ⟨w.heap.size, 6, none⟩ = some (.slice A l.length c))
    (first
      | (go_keep; done)
      | exact cells7 HR2.out
      | exact cells7 ((hb3.block _ (by show w.heap.size < w2.heap.size; exact hs2)).trans HR2.out)
      | exact cells7 ((hb4.block _ hs3).trans ((hb3.block _ (by show w.heap.size < w2.heap.size; exact hs2)).trans HR2.out)))
    (first
      | (go_at_call 19; refine (HC.out _).mono ?_; rintro e w3 ⟨rfl, hb3⟩; have hs3 : w.heap.size < w3.heap.size := (by have h := hb3.size; have h' : w2.heap.size ≤ w3.heap.size := h; omega))
      | (go_at_call 18; refine (HS.out _ (HWD.out.trans (hb3.mono HWD.out.size))).mono ?_; rintro e w4 ⟨rfl, hb4⟩; have hs4 : w.heap.size < w4.heap.size := (by have := hb4.size; omega)))
  have hz3 := HWD.out.trans (hb3.mono HWD.out.size)
  have hz4 := hz3.trans (hb4.mono hz3.size)
  have hrow : w4.heap[w.heap.size]? = some (.cells #[.int .i64 nad, .int .i64 1, .int .i64 s, .bool m, .int .i64 code, .bool ans, .slice A l.length c] 24 (0, 0)) := (hb4.block _ hs3).trans ((hb3.block _ (by show w.heap.size < w2.heap.size; exact hs2)).trans HR2.out)
  have r6 := cell_of_row _ _ 6 _ _ _ hrow
  have HROW := Lib.hid hrow
  have HZ4 := Lib.hid hz4
  clear hrow hb3 hb4 hz3 hz4
  cases cl
  · go_wp2_with fail
    go_ret
    exact ⟨by rw [HE.out]; rfl, HZ4.out⟩
  · have hm := HN.out
    go_wp2_with fail
    refine (HI.out _ (by first | exact HZ4.out | exact HZ4.out.drew)).mono ?_
    rintro e w5 ⟨rfl, hb5⟩
    clear hm
    go_wp2_with fail
    go_ret
    exact ⟨by rw [HE.out]; rfl, by first | exact HZ4.out.trans (hb5.mono HZ4.out.size) | exact HZ4.out.drew.trans (hb5.mono HZ4.out.drew.size)⟩

set_option maxRecDepth 100000 in
set_option maxHeartbeats 1600000 in
theorem pchk_sup (nad : Int) (code : Int) (ans : Bool) (s : Int) (m : Bool) (l : List UInt8) (v : Value) (w : World) (hv : SL w w.heap.size v l) :
    Calls Tryd.prog 8 #[Bk.val ⟨nad, 2, s, m, code, ans, l⟩ v] w fun e w' => e = .returned (.int .i64 (chkK ⟨nad, 2, s, m, code, ans, l⟩ (Kd.sup code ans))) ∧ Below w.heap.size w w' := by
  have HV := Lib.hid hv
  obtain ⟨A, c, rfl, _, _, _⟩ := hv
  have HK := Lib.hid (fun (W : World) => pkind_sup ⟨nad, 2, s, m, code, ans, l⟩ (.slice A l.length c) W rfl)
  have HR := Lib.hid (fun (W : World) => prng_sup code ans W)
  have HC := Lib.hid (fun (W : World) => pcomp_sup nad code ans A l.length c l W)
  have hs := fun (W : World) (hW : Below w.heap.size w W) => psameb_any ⟨nad, 2, s, m, code, ans, l⟩ (compB nad (Kd.sup code ans) l) _ _ W (HV.out.on hW) (HV.out.on hW)
  have e : sameB ⟨nad, 2, s, m, code, ans, l⟩ (compB nad (Kd.sup code ans) l) = clean ⟨nad, 2, s, m, code, ans, l⟩ (Kd.sup code ans) := by simp [sameB, compB, clean]
  rw [e] at hs
  have HS := Lib.hid hs
  have HI := Lib.hid (fun (W : World) (hW : Below w.heap.size w W) => pinf_sup code ans l _ W (HV.out.on hW))
  have HE : Hid (chkK ⟨nad, 2, s, m, code, ans, l⟩ (Kd.sup code ans) = if okNad nad && (Kd.sup code ans).rng then (if clean ⟨nad, 2, s, m, code, ans, l⟩ (Kd.sup code ans) then (Kd.sup code ans).infE l else 4) else 2) := rfl
  have HM := Lib.hid (fun (v : Value) (w : World) => mt_rng_126 v w)
  have HN := Lib.hid (fun (v : Value) (w : World) => mt_inf_126 v w)
  clear hs e
  generalize (Kd.sup code ans).infE l = ie at *
  generalize clean ⟨nad, 2, s, m, code, ans, l⟩ (Kd.sup code ans) = cl at *
  generalize (Kd.sup code ans).rng = rg at *
  simp only [Bk.val, Kd.val, compB] at *
  by_cases n0 : nad < 0
  · have HE2 : Hid (chkK ⟨nad, 2, s, m, code, ans, l⟩ (Kd.sup code ans) = 2) := by show _ = _; rw [HE.out, show okNad nad = false from by simp [okNad]; omega]; rfl
    have d0 : decide (nad < 0) = true := by simpa using n0
    clear n0
    go_enter Tryd.func8, Tryd.ntmps8
    go_wp2_with fail
    refine (HK.out _).mono ?_
    rintro e w1 ⟨rfl, hb1⟩
    have h2 : w1.heap[w.heap.size]? = some (.cells #[.int .i64 nad, .int .i64 2, .int .i64 s, .bool m, .int .i64 code, .bool ans, .slice A l.length c] 24 (0, 0)) := (hb1.block _ (by rw [alloc_size]; omega)).trans (heap_alloc_new w _)
    have q0 := cell_of_row _ _ 0 _ _ _ h2
    have q1 := cell_of_row _ _ 1 _ _ _ h2
    have q2 := cell_of_row _ _ 2 _ _ _ h2
    have q3 := cell_of_row _ _ 3 _ _ _ h2
    have q4 := cell_of_row _ _ 4 _ _ _ h2
    have q5 := cell_of_row _ _ 5 _ _ _ h2
    have q6 := cell_of_row _ _ 6 _ _ _ h2
    have hw1 := below_alloc2 hb1
    have hs1 : w.heap.size < w1.heap.size := by have := hb1.size; rw [alloc_size] at this; omega
    have H2 := Lib.hid h2
    clear hb1 h2
    go_wp2_with fail
    go_ret
    exact ⟨by rw [HE2.out]; rfl, hw1⟩
  by_cases n1 : 254 < nad
  · have HE2 : Hid (chkK ⟨nad, 2, s, m, code, ans, l⟩ (Kd.sup code ans) = 2) := by show _ = _; rw [HE.out, show okNad nad = false from by simp [okNad]; omega]; rfl
    have d0 : decide (nad < 0) = false := by simpa using n0
    have d1 : decide (254 < nad) = true := by simpa using n1
    clear n0 n1
    go_enter Tryd.func8, Tryd.ntmps8
    go_wp2_with fail
    refine (HK.out _).mono ?_
    rintro e w1 ⟨rfl, hb1⟩
    have h2 : w1.heap[w.heap.size]? = some (.cells #[.int .i64 nad, .int .i64 2, .int .i64 s, .bool m, .int .i64 code, .bool ans, .slice A l.length c] 24 (0, 0)) := (hb1.block _ (by rw [alloc_size]; omega)).trans (heap_alloc_new w _)
    have q0 := cell_of_row _ _ 0 _ _ _ h2
    have q1 := cell_of_row _ _ 1 _ _ _ h2
    have q2 := cell_of_row _ _ 2 _ _ _ h2
    have q3 := cell_of_row _ _ 3 _ _ _ h2
    have q4 := cell_of_row _ _ 4 _ _ _ h2
    have q5 := cell_of_row _ _ 5 _ _ _ h2
    have q6 := cell_of_row _ _ 6 _ _ _ h2
    have hw1 := below_alloc2 hb1
    have hs1 : w.heap.size < w1.heap.size := by have := hb1.size; rw [alloc_size] at this; omega
    have H2 := Lib.hid h2
    clear hb1 h2
    go_wp2_with fail
    go_ret
    exact ⟨by rw [HE2.out]; rfl, hw1⟩
  have d0 : decide (nad < 0) = false := by simpa using n0
  have d1 : decide (254 < nad) = false := by simpa using n1
  have HO : Hid (okNad nad = true) := by show _ = _; simp [okNad]; omega
  clear n0 n1
  rw [HO.out, Bool.true_and] at HE
  cases rg
  · have HE2 : Hid (chkK ⟨nad, 2, s, m, code, ans, l⟩ (Kd.sup code ans) = 2) := by show _ = _; rw [HE.out]; rfl
    go_enter Tryd.func8, Tryd.ntmps8
    go_wp2_with fail
    refine (HK.out _).mono ?_
    rintro e w1 ⟨rfl, hb1⟩
    have h2 : w1.heap[w.heap.size]? = some (.cells #[.int .i64 nad, .int .i64 2, .int .i64 s, .bool m, .int .i64 code, .bool ans, .slice A l.length c] 24 (0, 0)) := (hb1.block _ (by rw [alloc_size]; omega)).trans (heap_alloc_new w _)
    have q0 := cell_of_row _ _ 0 _ _ _ h2
    have q1 := cell_of_row _ _ 1 _ _ _ h2
    have q2 := cell_of_row _ _ 2 _ _ _ h2
    have q3 := cell_of_row _ _ 3 _ _ _ h2
    have q4 := cell_of_row _ _ 4 _ _ _ h2
    have q5 := cell_of_row _ _ 5 _ _ _ h2
    have q6 := cell_of_row _ _ 6 _ _ _ h2
    have hw1 := below_alloc2 hb1
    have hs1 : w.heap.size < w1.heap.size := by have := hb1.size; rw [alloc_size] at this; omega
    have H2 := Lib.hid h2
    clear hb1 h2
    have hm := HM.out
    go_wp2_with fail
    refine (HR.out _).mono ?_
    rintro e w2 ⟨rfl, hb2⟩
    clear hm
    go_wp2_with fail
    go_ret
    exact ⟨by rw [HE2.out]; rfl, hw1.trans (hb2.mono hw1.size)⟩
  rw [if_pos rfl] at HE
  go_enter Tryd.func8, Tryd.ntmps8
  go_wp2_with fail
  refine (HK.out _).mono ?_
  rintro e w1 ⟨rfl, hb1⟩
  have h2 : w1.heap[w.heap.size]? = some (.cells #[.int .i64 nad, .int .i64 2, .int .i64 s, .bool m, .int .i64 code, .bool ans, .slice A l.length c] 24 (0, 0)) := (hb1.block _ (by rw [alloc_size]; omega)).trans (heap_alloc_new w _)
  have q0 := cell_of_row _ _ 0 _ _ _ h2
  have q1 := cell_of_row _ _ 1 _ _ _ h2
  have q2 := cell_of_row _ _ 2 _ _ _ h2
  have q3 := cell_of_row _ _ 3 _ _ _ h2
  have q4 := cell_of_row _ _ 4 _ _ _ h2
  have q5 := cell_of_row _ _ 5 _ _ _ h2
  have q6 := cell_of_row _ _ 6 _ _ _ h2
  have hw1 := below_alloc2 hb1
  have hs1 : w.heap.size < w1.heap.size := by have := hb1.size; rw [alloc_size] at this; omega
  have H2 := Lib.hid h2
  clear hb1 h2
  have hm := HM.out
  go_wp2_with fail
  refine (HR.out _).mono ?_
  rintro e w2 ⟨rfl, hb2⟩
  clear hm
  have HR2 := Lib.hid ((hb2.block _ hs1).trans H2.out)
  have HW2 := Lib.hid (hw1.trans (hb2.mono hw1.size))
  have hs2 : w.heap.size < w2.heap.size := by have := hb2.size; omega
  clear hb2 q0 q1 q2 q3 q4 q5 q6 hw1 hs1
  have HWD := Lib.hid HW2.out.drew
  obtain ⟨r0, r1, r2, r3, r4, r5, r6⟩ := cells7 HR2.out
  go_wp2_with fail
  clear r0 r1 r2 r3 r4 r5 r6
  go_region_held3 (fun w' => w'.cell? ⟨w.heap.size, 0, none⟩ = some (.int .i64 nad) ∧ w'.cell? ⟨w.heap.size, 1, none⟩ = some (.int .i64 2) ∧ w'.cell? ⟨w.heap.size, 2, none⟩ = some (.int .i64 s) ∧ w'.cell? ⟨w.heap.size, 3, none⟩ = some (.bool m) ∧ w'.cell? ⟨w.heap.size, 4, none⟩ = some (.int .i64 code) ∧ w'.cell? ⟨w.heap.size, 5, none⟩ = some (.bool ans) ∧ w'.cell? ⟨w.heap.size, 6, none⟩ = some (.slice A l.length c))
    (first
      | (go_keep; done)
      | exact cells7 HR2.out
      | exact cells7 ((hb3.block _ (by show w.heap.size < w2.heap.size; exact hs2)).trans HR2.out)
      | exact cells7 ((hb4.block _ hs3).trans ((hb3.block _ (by show w.heap.size < w2.heap.size; exact hs2)).trans HR2.out)))
    (first
      | (go_at_call 19; refine (HC.out _).mono ?_; rintro e w3 ⟨rfl, hb3⟩; have hs3 : w.heap.size < w3.heap.size := (by have h := hb3.size; have h' : w2.heap.size ≤ w3.heap.size := h; omega))
      | (go_at_call 18; refine (HS.out _ (HWD.out.trans (hb3.mono HWD.out.size))).mono ?_; rintro e w4 ⟨rfl, hb4⟩; have hs4 : w.heap.size < w4.heap.size := (by have := hb4.size; omega)))
  have hz3 := HWD.out.trans (hb3.mono HWD.out.size)
  have hz4 := hz3.trans (hb4.mono hz3.size)
  have hrow : w4.heap[w.heap.size]? = some (.cells #[.int .i64 nad, .int .i64 2, .int .i64 s, .bool m, .int .i64 code, .bool ans, .slice A l.length c] 24 (0, 0)) := (hb4.block _ hs3).trans ((hb3.block _ (by show w.heap.size < w2.heap.size; exact hs2)).trans HR2.out)
  have r6 := cell_of_row _ _ 6 _ _ _ hrow
  have HROW := Lib.hid hrow
  have HZ4 := Lib.hid hz4
  clear hrow hb3 hb4 hz3 hz4
  cases cl
  · go_wp2_with fail
    go_ret
    exact ⟨by rw [HE.out]; rfl, HZ4.out⟩
  · have hm := HN.out
    go_wp2_with fail
    refine (HI.out _ (by first | exact HZ4.out | exact HZ4.out.drew)).mono ?_
    rintro e w5 ⟨rfl, hb5⟩
    clear hm
    go_wp2_with fail
    go_ret
    exact ⟨by rw [HE.out]; rfl, by first | exact HZ4.out.trans (hb5.mono HZ4.out.size) | exact HZ4.out.drew.trans (hb5.mono HZ4.out.drew.size)⟩

theorem pchk_no (b : Bk) (v : Value) (w : World) (h0 : b.kind ≠ 0) (h1 : b.kind ≠ 1) (h2 : b.kind ≠ 2) :
    Calls Tryd.prog 8 #[b.val v] w fun e w' => e = .returned (.int .i64 1) ∧ Below w.heap.size w w' := by
  have HK := Lib.hid (fun (W : World) => pkind_no b v W h0 h1 h2)
  obtain ⟨nad, kind, s, m, code, ans, l⟩ := b
  simp only [Bk.val] at *
  clear h0 h1 h2
  go_enter Tryd.func8, Tryd.ntmps8
  go_wp2_with fail
  refine (HK.out _).mono ?_
  rintro e w1 ⟨rfl, hb1⟩
  go_wp2_with fail
  go_ret
  exact ⟨rfl, below_alloc2 hb1⟩
/-- Check, of the program. -/
theorem pchk_any (b : Bk) (v : Value) (w : World) (hv : SL w w.heap.size v b.inf) :
    Calls Tryd.prog 8 #[b.val v] w fun e w' => e = .returned (.int .i64 (chkB b)) ∧ Below w.heap.size w w' := by
  by_cases h0 : b.kind = 0
  · obtain ⟨nad, kind, s, m, code, ans, l⟩ := b
    obtain rfl : kind = 0 := h0
    exact pchk_inf nad s m code ans l v w hv
  · by_cases h1 : b.kind = 1
    · obtain ⟨nad, kind, s, m, code, ans, l⟩ := b
      obtain rfl : kind = 1 := h1
      exact pchk_rdy nad s code m ans l v w hv
    · by_cases h2 : b.kind = 2
      · obtain ⟨nad, kind, s, m, code, ans, l⟩ := b
        obtain rfl : kind = 2 := h2
        exact pchk_sup nad code ans s m l v w hv
      · have e : chkB b = 1 := by rw [chkB, if_neg h0, if_neg h1, if_neg h2]
        rw [e]
        exact pchk_no b v w h0 h1 h2
end Go.Proofs.YtijiggfeamibkaaDoor
