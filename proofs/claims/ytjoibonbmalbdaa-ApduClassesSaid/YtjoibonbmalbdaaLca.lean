/-
  The walk of the law ApduClasses.
-/
import Derived.Test.YtjoibonbmalbdaaExh
namespace Go.Proofs.Ytjoibonbmalbdaa
set_option linter.unusedVariables false
set_option linter.unusedSimpArgs false
open Go.RowKit

/-- What Class has read, Byte writes. -/
theorem byt_cls (n : Int) (h : clsB n = true) : bytN (clsK n) = n ∧ bytE (clsK n) = 0 := by
  have hb : isB n = true := by
    unfold clsB at h
    simp only [Bool.and_eq_true] at h
    exact h.1.1.1
  obtain ⟨h0, h1⟩ := isB_yes hb
  obtain ⟨m, rfl⟩ := Int.eq_ofNat_of_zero_le h0
  have hall : (List.range 256).all (fun m => !(clsB (m : Int)) || (bytN (clsK (m : Int)) == (m : Int) && bytE (clsK (m : Int)) == 0)) = true := by decide +kernel
  have := List.all_eq_true.1 hall m (List.mem_range.2 (by omega))
  rw [h] at this
  simpa using this
/-- What Byte has written, Class reads. -/
theorem cls_byt (k : Kl) (h : bytE k = 0) : clsB (bytN k) = true ∧ clsK (bytN k) = k := by
  obtain ⟨ch, sec, chn, prp⟩ := k
  have hv : bytOk ⟨ch, sec, chn, prp⟩ = true := by
    cases hv : bytOk ⟨ch, sec, chn, prp⟩
    · rw [bytE, if_neg (by rw [hv]; decide)] at h; cases h
    · rfl
  have hr : 0 ≤ ch ∧ ch < 4 := by simpa [bytOk] using hv
  obtain ⟨m, rfl⟩ := Int.eq_ofNat_of_zero_le hr.1
  have hm : m = 0 ∨ m = 1 ∨ m = 2 ∨ m = 3 := by omega
  rcases hm with rfl | rfl | rfl | rfl <;> cases sec <;> cases chn <;> cases prp <;> exact ⟨by decide +kernel, rfl⟩

theorem kl_beq (a b c d : Bool) (x y : Int) : True := trivial

set_option maxRecDepth 100000 in
set_option maxHeartbeats 1600000 in
theorem law_classes (n : Int) (k : Kl) (w : World) : Calls Try.prog 7 #[.int .i64 n, k.val] w fun e w' => e = .returned (.bool true) ∧ Below w.heap.size w w' := by
  have H30 := Lib.hid (fun W : World => pcls_any n W)
  have H31 := Lib.hid (fun W : World => rcls_any n W)
  have H32 := Lib.hid (fun W : World => pbyt_any k W)
  have H33 := Lib.hid (fun W : World => rbyt_any k W)
  have HBC : Hid (clsB n = true → ∀ W : World, Calls Try.prog 32 #[(clsK n).val] W fun e w' => e = .returned (.tuple #[.int .i64 n, .int .i64 0]) ∧ Below W.heap.size W w') := fun h W => by
    have := pbyt_any (clsK n) W
    rw [(byt_cls n h).1, (byt_cls n h).2] at this
    exact this
  have HCB : Hid (bytE k = 0 → ∀ W : World, Calls Try.prog 30 #[.int .i64 (bytN k)] W fun e w' => e = .returned (.tuple #[k.val, .bool true]) ∧ Below W.heap.size W w') := fun h W => by
    have := pcls_any (bytN k) W
    rw [(cls_byt k h).1, (cls_byt k h).2] at this
    exact this
  obtain ⟨a, b, c, d⟩ := k
  generalize hK : clsK n = K at *
  obtain ⟨a', b', c', d'⟩ := K
  have HK := Lib.hid hK
  clear hK
  simp only [Kl.val] at *
  go_enter Try.func7, Try.ntmps7
  go_wp2_with fail
  refine (H30.out _).mono ?_
  rintro e w1 ⟨rfl, hb1⟩
  have hw1 : Below w.heap.size w w1 := (alloc_below _ _).trans (hb1.mono (by simp))
  have p0 := box_cell (by rw [alloc_size] at hb1; exact hb1) 0 _ rfl
  have p1 := box_cell (by rw [alloc_size] at hb1; exact hb1) 1 _ rfl
  have p2 := box_cell (by rw [alloc_size] at hb1; exact hb1) 2 _ rfl
  have p3 := box_cell (by rw [alloc_size] at hb1; exact hb1) 3 _ rfl
  have hl1 : w.heap.size < w1.heap.size := by have := hb1.size; simp at this; omega
  clear hb1
  go_wp2_with fail
  refine (H31.out _).mono ?_
  rintro e w2 ⟨rfl, hb2⟩
  have q0 := box_cell (by rw [alloc_size] at hb2; exact hb2) 0 _ rfl
  have q1 := box_cell (by rw [alloc_size] at hb2; exact hb2) 1 _ rfl
  have q2 := box_cell (by rw [alloc_size] at hb2; exact hb2) 2 _ rfl
  have q3 := box_cell (by rw [alloc_size] at hb2; exact hb2) 3 _ rfl
  have hl2 : w1.heap.size < w2.heap.size := by have := hb2.size; simp at this; omega
  have hl02 : w.heap.size < w2.heap.size := by omega
  have hw12 : Below w1.heap.size w1 w2 := (alloc_below _ _).trans (hb2.mono (by simp))
  have hw2 : Below w.heap.size w w2 := hw1.trans (hw12.mono hw1.size)
  have pp0 := (hw12.cell (p := ⟨w.heap.size, 0, none⟩) hl1).trans p0
  have pp1 := (hw12.cell (p := ⟨w.heap.size, 1, none⟩) hl1).trans p1
  have pp2 := (hw12.cell (p := ⟨w.heap.size, 2, none⟩) hl1).trans p2
  have pp3 := (hw12.cell (p := ⟨w.heap.size, 3, none⟩) hl1).trans p3
  clear p0 p1 p2 p3 hb2 hw12
  go_wp2_with fail
  refine (H32.out _).mono ?_
  rintro e w3 ⟨rfl, hb3⟩
  have r0 := box_cell (by rw [alloc_size] at hb3; exact hb3) 0 _ rfl
  have r1 := box_cell (by rw [alloc_size] at hb3; exact hb3) 1 _ rfl
  have r2 := box_cell (by rw [alloc_size] at hb3; exact hb3) 2 _ rfl
  have r3 := box_cell (by rw [alloc_size] at hb3; exact hb3) 3 _ rfl
  have hl3 : w2.heap.size < w3.heap.size := by have := hb3.size; simp at this; omega
  have hl03 : w.heap.size < w3.heap.size := by omega
  have hl13 : w1.heap.size < w3.heap.size := by omega
  have hw23 : Below w2.heap.size w2 w3 := (alloc_below _ _).trans (hb3.mono (by simp))
  have hw3 : Below w.heap.size w w3 := hw2.trans (hw23.mono hw2.size)
  have p0 := (hw23.cell (p := ⟨w.heap.size, 0, none⟩) (by show w.heap.size < w2.heap.size; omega)).trans pp0
  have p1 := (hw23.cell (p := ⟨w.heap.size, 1, none⟩) (by show w.heap.size < w2.heap.size; omega)).trans pp1
  have p2 := (hw23.cell (p := ⟨w.heap.size, 2, none⟩) (by show w.heap.size < w2.heap.size; omega)).trans pp2
  have p3 := (hw23.cell (p := ⟨w.heap.size, 3, none⟩) (by show w.heap.size < w2.heap.size; omega)).trans pp3
  have qq0 := (hw23.cell (p := ⟨w1.heap.size, 0, none⟩) hl2).trans q0
  have qq1 := (hw23.cell (p := ⟨w1.heap.size, 1, none⟩) hl2).trans q1
  have qq2 := (hw23.cell (p := ⟨w1.heap.size, 2, none⟩) hl2).trans q2
  have qq3 := (hw23.cell (p := ⟨w1.heap.size, 3, none⟩) hl2).trans q3
  clear pp0 pp1 pp2 pp3 q0 q1 q2 q3 hb3 hw23
  go_wp2_with fail
  refine (H33.out _).mono ?_
  rintro e w4 ⟨rfl, hb4⟩
  have hw4 : Below w.heap.size w w4 := hw3.trans (hb4.mono hw3.size)
  have q0 := (hb4.cell (p := ⟨w1.heap.size, 0, none⟩) (by show w1.heap.size < w3.heap.size; omega)).trans qq0
  have q1 := (hb4.cell (p := ⟨w1.heap.size, 1, none⟩) (by show w1.heap.size < w3.heap.size; omega)).trans qq1
  have q2 := (hb4.cell (p := ⟨w1.heap.size, 2, none⟩) (by show w1.heap.size < w3.heap.size; omega)).trans qq2
  have q3 := (hb4.cell (p := ⟨w1.heap.size, 3, none⟩) (by show w1.heap.size < w3.heap.size; omega)).trans qq3
  have s0 := (hb4.cell (p := ⟨w2.heap.size, 0, none⟩) hl3).trans r0
  have s1 := (hb4.cell (p := ⟨w2.heap.size, 1, none⟩) hl3).trans r1
  have s2 := (hb4.cell (p := ⟨w2.heap.size, 2, none⟩) hl3).trans r2
  have s3 := (hb4.cell (p := ⟨w2.heap.size, 3, none⟩) hl3).trans r3
  have hl4 : w3.heap.size ≤ w4.heap.size := hb4.size
  have hl14 : w1.heap.size < w4.heap.size := by omega
  have hl24 : w2.heap.size < w4.heap.size := by omega
  have o0 := (hb4.cell (p := ⟨w.heap.size, 0, none⟩) hl03).trans p0
  have o1 := (hb4.cell (p := ⟨w.heap.size, 1, none⟩) hl03).trans p1
  have o2 := (hb4.cell (p := ⟨w.heap.size, 2, none⟩) hl03).trans p2
  have o3 := (hb4.cell (p := ⟨w.heap.size, 3, none⟩) hl03).trans p3
  clear p0 p1 p2 p3 qq0 qq1 qq2 qq3 r0 r1 r2 r3 hb4
  have p0 := o0
  have p1 := o1
  have p2 := o2
  have p3 := o3
  clear o0 o1 o2 o3
  have HW4 := Lib.hid hw4
  have hl04 : w.heap.size < w4.heap.size := by omega
  by_cases hez : bytE ⟨a, b, c, d⟩ = 0
  · have HEZ := Lib.hid hez
    rw [hez]
    clear hez
    cases hok : clsB n
    · clear hok
      go_wp2_with fail
      refine (HCB.out HEZ.out _).mono ?_
      rintro e w6 ⟨rfl, hb6⟩
      have hw6 : Below w.heap.size w w6 := HW4.out.trans (hb6.mono HW4.out.size)
      have y0 := (hb6.cell (p := ⟨w.heap.size, 0, none⟩) hl04).trans p0
      have y1 := (hb6.cell (p := ⟨w.heap.size, 1, none⟩) hl04).trans p1
      have y2 := (hb6.cell (p := ⟨w.heap.size, 2, none⟩) hl04).trans p2
      have y3 := (hb6.cell (p := ⟨w.heap.size, 3, none⟩) hl04).trans p3
      have hl06 : w.heap.size < w6.heap.size := by have := hb6.size; omega
      have HW6 := Lib.hid hw6
      clear hb6 hw6
      go_wp2_with fail
      refine (example_any _).mono ?_
      rintro e wz ⟨rfl, hbz⟩
      go_wp2_with fail
      go_ret
      exact ⟨rfl, (HW6.out.trans ((alloc_below w6 _).mono HW6.out.size)).trans (hbz.mono (HW6.out.trans ((alloc_below w6 _).mono HW6.out.size)).size)⟩
    · have HOK := Lib.hid hok
      clear hok
      go_wp2_with fail
      refine (HBC.out HOK.out _).mono ?_
      rintro e w5 ⟨rfl, hb5⟩
      have hw5 : Below w.heap.size w w5 := HW4.out.trans (hb5.mono HW4.out.size)
      have t0 := (hb5.cell (p := ⟨w2.heap.size, 0, none⟩) hl24).trans s0
      have t1 := (hb5.cell (p := ⟨w2.heap.size, 1, none⟩) hl24).trans s1
      have t2 := (hb5.cell (p := ⟨w2.heap.size, 2, none⟩) hl24).trans s2
      have t3 := (hb5.cell (p := ⟨w2.heap.size, 3, none⟩) hl24).trans s3
      have u0 := (hb5.cell (p := ⟨w.heap.size, 0, none⟩) hl04).trans p0
      have u1 := (hb5.cell (p := ⟨w.heap.size, 1, none⟩) hl04).trans p1
      have u2 := (hb5.cell (p := ⟨w.heap.size, 2, none⟩) hl04).trans p2
      have u3 := (hb5.cell (p := ⟨w.heap.size, 3, none⟩) hl04).trans p3
      have hl05 : w.heap.size < w5.heap.size := by have := hb5.size; omega
      have HW5 := Lib.hid hw5
      clear s0 s1 s2 s3 p0 p1 p2 p3 q0 q1 q2 q3 hb5 hw5
      go_wp2_with fail
      refine (HCB.out HEZ.out _).mono ?_
      rintro e w6 ⟨rfl, hb6⟩
      have hw6 : Below w.heap.size w w6 := HW5.out.trans (hb6.mono HW5.out.size)
      have y0 := (hb6.cell (p := ⟨w.heap.size, 0, none⟩) hl05).trans u0
      have y1 := (hb6.cell (p := ⟨w.heap.size, 1, none⟩) hl05).trans u1
      have y2 := (hb6.cell (p := ⟨w.heap.size, 2, none⟩) hl05).trans u2
      have y3 := (hb6.cell (p := ⟨w.heap.size, 3, none⟩) hl05).trans u3
      have hl06 : w.heap.size < w6.heap.size := by have := hb6.size; omega
      have HW6 := Lib.hid hw6
      clear hb6 hw6
      go_wp2_with fail
      refine (example_any _).mono ?_
      rintro e wz ⟨rfl, hbz⟩
      go_wp2_with fail
      go_ret
      exact ⟨rfl, (HW6.out.trans ((alloc_below w6 _).mono HW6.out.size)).trans (hbz.mono (HW6.out.trans ((alloc_below w6 _).mono HW6.out.size)).size)⟩
  · have hen : (bytE ⟨a, b, c, d⟩ == 0) = false := by rw [beq_eq_false_iff_ne]; exact hez
    clear hez
    cases hok : clsB n
    · clear hok
      go_wp2_with fail
      refine (example_any _).mono ?_
      rintro e wz ⟨rfl, hbz⟩
      go_wp2_with fail
      go_ret
      exact ⟨rfl, (HW4.out).trans (hbz.mono (HW4.out).size)⟩
    · have HOK := Lib.hid hok
      clear hok
      go_wp2_with fail
      refine (HBC.out HOK.out _).mono ?_
      rintro e w5 ⟨rfl, hb5⟩
      have hw5 : Below w.heap.size w w5 := HW4.out.trans (hb5.mono HW4.out.size)
      have t0 := (hb5.cell (p := ⟨w2.heap.size, 0, none⟩) hl24).trans s0
      have t1 := (hb5.cell (p := ⟨w2.heap.size, 1, none⟩) hl24).trans s1
      have t2 := (hb5.cell (p := ⟨w2.heap.size, 2, none⟩) hl24).trans s2
      have t3 := (hb5.cell (p := ⟨w2.heap.size, 3, none⟩) hl24).trans s3
      have u0 := (hb5.cell (p := ⟨w.heap.size, 0, none⟩) hl04).trans p0
      have u1 := (hb5.cell (p := ⟨w.heap.size, 1, none⟩) hl04).trans p1
      have u2 := (hb5.cell (p := ⟨w.heap.size, 2, none⟩) hl04).trans p2
      have u3 := (hb5.cell (p := ⟨w.heap.size, 3, none⟩) hl04).trans p3
      have hl05 : w.heap.size < w5.heap.size := by have := hb5.size; omega
      have HW5 := Lib.hid hw5
      clear s0 s1 s2 s3 p0 p1 p2 p3 q0 q1 q2 q3 hb5 hw5
      go_wp2_with fail
      refine (example_any _).mono ?_
      rintro e wz ⟨rfl, hbz⟩
      go_wp2_with fail
      go_ret
      exact ⟨rfl, (HW5.out).trans (hbz.mono (HW5.out).size)⟩
end Go.Proofs.Ytjoibonbmalbdaa
