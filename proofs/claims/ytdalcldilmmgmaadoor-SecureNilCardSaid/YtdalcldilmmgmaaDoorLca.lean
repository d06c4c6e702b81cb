/-
  The law of channels that New has not made.
-/
import Derived.Test.YtdalcldilmmgmaaDoorCva
namespace Go.Proofs.YtdalcldilmmgmaaDoor
set_option linter.unusedVariables false
set_option linter.unusedSimpArgs false
open Go.RowKit

theorem pcount_un (v : Value) (w : World) (h : UM w v) : Calls Tryd.prog 13 #[v] w fun e w' => e = .returned (.int .i64 0) ∧ w = w' := by
  rcases h with rfl | ⟨g, s, rfl, hc, h0⟩
  · exact pcount_nil w
  · have := pcount_any g s w hc
    rw [h0] at this
    exact this
theorem plevel_un (v : Value) (w : World) (h : UM w v) : Calls Tryd.prog 17 #[v] w fun e w' => e = .returned (.int .i64 0) ∧ w = w' := by
  rcases h with rfl | ⟨g, s, rfl, hc, h0⟩
  · exact plevel_nil w
  · have := plevel_any g s w hc
    rw [h0] at this
    exact this
set_option maxRecDepth 100000 in
theorem pdata_un (v : Value) (w : World) (h : UM w v) : Calls Tryd.prog 21 #[v] w fun e w' => e = .returned (.slice none 0 0) ∧ w = w' := by
  have HM := Lib.hid (pmade_un v w h)
  go_enter Tryd.func21, Tryd.ntmps21
  go_wp2_with (go_at_call 25; refine HM.out.mono ?_; rintro e w' ⟨rfl, rfl⟩)
  go_ret
  exact ⟨rfl, rfl⟩
theorem um_new (W : World) : UM (W.alloc (Obj.cells #[.slice none 0 0, .slice none 0 0, .slice none 0 0, .slice none 0 0, .int .i64 0, .slice none 0 0, .int .i64 0, .bool false, .bool false] 56)) (.pointer (some ⟨W.heap.size, 0, none⟩)) :=
  .inr ⟨W.heap.size, ⟨[], [], [], [], 0, [], 0, false, false⟩, rfl, ⟨none, none, none, none, none, 0, 0, 0, 0, 0, heap_alloc_new W _, FL.nil _ _, FL.nil _ _, FL.nil _ _, FL.nil _ _, FL.nil _ _⟩, rfl⟩
/-- What a round of the law keeps. -/
structure Ln (w W : World) (c : Value) (X R : Obj) : Prop where
  um : UM W c
  rx : W.heap[w.heap.size]? = some X
  rr : W.heap[w.heap.size + 1]? = some R
  b : Below w.heap.size w W
theorem Ln.on {w W W2 : World} {c : Value} {X R : Obj} (h : Ln w W c X R) (hb : Below W.heap.size W W2) : Ln w W2 c X R :=
  ⟨h.um.on hb, (hb.block _ (blk_lt h.rx)).trans h.rx, (hb.block _ (blk_lt h.rr)).trans h.rr, h.b.trans (hb.mono h.b.size)⟩
set_option maxRecDepth 100000 in
set_option maxHeartbeats 3200000 in
theorem law_nil (x : Cm) (r : Rs) (A B : Option Addr) (n k m j : Nat) (w : World) : Calls Tryd.prog 7 #[x.val (.slice A n k), r.val (.slice B m j)] w fun e w' => e = .returned (.bool true) ∧ Below w.heap.size w w' := by
  have HWR := Lib.hid fun W v (h : UM W v) => pwrap_un x v A n k W h
  have HUW := Lib.hid fun W v (h : UM W v) => punwrap_un x v A n k W h
  have HSE := Lib.hid fun W v (h : UM W v) => pseal_un r v B m j W h
  have HOP := Lib.hid fun W v (h : UM W v) => popen_un r v B m j W h
  obtain ⟨cla, ins, p1, p2, data, le, long⟩ := x
  obtain ⟨rd, sw⟩ := r
  simp only [Cm.val, Rs.val] at *
  have hb2 := alloc2_below w (Obj.cells #[.int .i64 cla, .int .i64 ins, .int .i64 p1, .int .i64 p2, .slice A n k, .int .i64 le, .bool long] 30) (Obj.cells #[.slice B m j, .int .i64 sw] 32)
  have hn1 := heap_alloc2_old w (Obj.cells #[.int .i64 cla, .int .i64 ins, .int .i64 p1, .int .i64 p2, .slice A n k, .int .i64 le, .bool long] 30) (Obj.cells #[.slice B m j, .int .i64 sw] 32)
  have hn2 := heap2_new w (Obj.cells #[.int .i64 cla, .int .i64 ins, .int .i64 p1, .int .i64 p2, .slice A n k, .int .i64 le, .bool long] 30) (Obj.cells #[.slice B m j, .int .i64 sw] 32)
  have HL0 : Hid (Ln w ((w.alloc (Obj.cells #[.int .i64 cla, .int .i64 ins, .int .i64 p1, .int .i64 p2, .slice A n k, .int .i64 le, .bool long] 30)).alloc (Obj.cells #[.slice B m j, .int .i64 sw] 32)) (.pointer none) (Obj.cells #[.int .i64 cla, .int .i64 ins, .int .i64 p1, .int .i64 p2, .slice A n k, .int .i64 le, .bool long] 30) (Obj.cells #[.slice B m j, .int .i64 sw] 32)) := ⟨.inl rfl, hn1, hn2, hb2⟩
  clear hb2 hn1 hn2
  go_enter Tryd.func7, Tryd.ntmps7
  go_wp2_with fail
  go_loopw [5, 6] (fun c i wr => ∃ q : Nat, q ≤ 2 ∧ i = .int .i64 q ∧ Ln w wr c (Obj.cells #[.int .i64 cla, .int .i64 ins, .int .i64 p1, .int .i64 p2, .slice A n k, .int .i64 le, .bool long] 30) (Obj.cells #[.slice B m j, .int .i64 sw] 32)) (fun c i _ => 2 - (intOf i).toNat)
  case atStart => exact ⟨0, by omega, rfl, HL0.out⟩
  case round =>
    obtain ⟨q, hq, rfl, hln⟩ := hrel
    have hqq : q = 2 ∨ q < 2 := by omega
    rcases hqq with rfl | hq2
    · have HB := Lib.hid hln.b
      clear hln
      go_wp2_with fail
      refine (awake_any _).mono ?_
      rintro e w9 ⟨rfl, hb9⟩
      have HB9 := Lib.hid (HB.out.trans (hb9.mono HB.out.size))
      clear hb9
      go_wp2_with fail
      go_ret
      exact ⟨rfl, HB9.out⟩
    · have HQ := Lib.hid hq2
      have HLN := Lib.hid hln
      obtain ⟨⟨q0, q1, q2, q3, q4, q5, q6⟩, ⟨g0, g1, g2, g3, g4, g5, g6⟩⟩ := cells7 hln.rx
      have s0 := cell_of_row _ _ 0 _ _ _ hln.rr
      have s1 := cell_of_row _ _ 1 _ _ _ hln.rr
      clear hln
      go_wp2_with fail
      refine (HWR.out _ _ HLN.out.um).mono ?_
      rintro e w1 ⟨rfl, hb1⟩
      have HLM1 := Lib.hid (HLN.out.on hb1)
      have HLN1 := Lib.hid (HLM1.out.on (alloc_below w1 (Obj.cells #[.int .i64 0, .int .i64 0, .int .i64 0, .int .i64 0, .slice none 0 0, .int .i64 0, .bool false] 30)))
      clear hb1 q0 q1 q2 q3 q4 q5 q6 g0 g1 g2 g3 g4 g5 g6 s0 s1
      obtain ⟨⟨q0, q1, q2, q3, q4, q5, q6⟩, ⟨g0, g1, g2, g3, g4, g5, g6⟩⟩ := cells7 HLM1.out.rx
      have s0 := cell_of_row _ _ 0 _ _ _ HLM1.out.rr
      have s1 := cell_of_row _ _ 1 _ _ _ HLM1.out.rr
      have hx1 : w.heap.size + 1 < w1.heap.size := blk_lt HLM1.out.rr
      have hy1 : w.heap.size ≠ w1.heap.size := by omega
      have hz1 : w.heap.size + 1 ≠ w1.heap.size := by omega
      have hu1 : w1.heap.size ≠ w.heap.size := by omega
      have hv1 : w1.heap.size ≠ w.heap.size + 1 := by omega
      have ht1 : w.heap.size < w1.heap.size := by omega
      go_wp2_with fail
      refine (HUW.out _ _ HLN1.out.um).mono ?_
      rintro e w2 ⟨rfl, hb2⟩
      have HLM2 := Lib.hid (HLN1.out.on hb2)
      have HLN2 := Lib.hid (HLM2.out.on (alloc_below w2 (Obj.cells #[.int .i64 0, .int .i64 0, .int .i64 0, .int .i64 0, .slice none 0 0, .int .i64 0, .bool false] 30)))
      clear hb2 q0 q1 q2 q3 q4 q5 q6 g0 g1 g2 g3 g4 g5 g6 s0 s1
      obtain ⟨⟨q0, q1, q2, q3, q4, q5, q6⟩, ⟨g0, g1, g2, g3, g4, g5, g6⟩⟩ := cells7 HLM2.out.rx
      have s0 := cell_of_row _ _ 0 _ _ _ HLM2.out.rr
      have s1 := cell_of_row _ _ 1 _ _ _ HLM2.out.rr
      have hx2 : w.heap.size + 1 < w2.heap.size := blk_lt HLM2.out.rr
      have hy2 : w.heap.size ≠ w2.heap.size := by omega
      have hz2 : w.heap.size + 1 ≠ w2.heap.size := by omega
      have hu2 : w2.heap.size ≠ w.heap.size := by omega
      have hv2 : w2.heap.size ≠ w.heap.size + 1 := by omega
      have ht2 : w.heap.size < w2.heap.size := by omega
      go_wp2_with fail
      refine (HSE.out _ _ HLN2.out.um).mono ?_
      rintro e w3 ⟨rfl, hb3⟩
      have HLM3 := Lib.hid (HLN2.out.on hb3)
      have HLN3 := Lib.hid (HLM3.out.on (alloc_below w3 (Obj.cells #[.slice none 0 0, .int .i64 0] 32)))
      clear hb3 q0 q1 q2 q3 q4 q5 q6 g0 g1 g2 g3 g4 g5 g6 s0 s1
      obtain ⟨⟨q0, q1, q2, q3, q4, q5, q6⟩, ⟨g0, g1, g2, g3, g4, g5, g6⟩⟩ := cells7 HLM3.out.rx
      have s0 := cell_of_row _ _ 0 _ _ _ HLM3.out.rr
      have s1 := cell_of_row _ _ 1 _ _ _ HLM3.out.rr
      have hx3 : w.heap.size + 1 < w3.heap.size := blk_lt HLM3.out.rr
      have hy3 : w.heap.size ≠ w3.heap.size := by omega
      have hz3 : w.heap.size + 1 ≠ w3.heap.size := by omega
      have hu3 : w3.heap.size ≠ w.heap.size := by omega
      have hv3 : w3.heap.size ≠ w.heap.size + 1 := by omega
      have ht3 : w.heap.size < w3.heap.size := by omega
      go_wp2_with fail
      refine (HOP.out _ _ HLN3.out.um).mono ?_
      rintro e w4 ⟨rfl, hb4⟩
      have HLM4 := Lib.hid (HLN3.out.on hb4)
      have HLN4 := Lib.hid (HLM4.out.on (alloc_below w4 (Obj.cells #[.slice none 0 0, .int .i64 0] 32)))
      clear hb4 q0 q1 q2 q3 q4 q5 q6 g0 g1 g2 g3 g4 g5 g6 s0 s1
      obtain ⟨⟨q0, q1, q2, q3, q4, q5, q6⟩, ⟨g0, g1, g2, g3, g4, g5, g6⟩⟩ := cells7 HLM4.out.rx
      have s0 := cell_of_row _ _ 0 _ _ _ HLM4.out.rr
      have s1 := cell_of_row _ _ 1 _ _ _ HLM4.out.rr
      have hx4 : w.heap.size + 1 < w4.heap.size := blk_lt HLM4.out.rr
      have hy4 : w.heap.size ≠ w4.heap.size := by omega
      have hz4 : w.heap.size + 1 ≠ w4.heap.size := by omega
      have hu4 : w4.heap.size ≠ w.heap.size := by omega
      have hv4 : w4.heap.size ≠ w.heap.size + 1 := by omega
      have ht4 : w.heap.size < w4.heap.size := by omega
      have HCO := Lib.hid (pcount_un _ _ HLN4.out.um)
      have HLV := Lib.hid (plevel_un _ _ HLN4.out.um)
      have HDA := Lib.hid (pdata_un _ _ HLN4.out.um)
      have hun := um_new (w4.alloc (Obj.cells #[.slice none 0 0, .int .i64 0] 32))
      have hbn := alloc_below (w4.alloc (Obj.cells #[.slice none 0 0, .int .i64 0] 32)) (Obj.cells #[.slice none 0 0, .slice none 0 0, .slice none 0 0, .slice none 0 0, .int .i64 0, .slice none 0 0, .int .i64 0, .bool false, .bool false] 56)
      have HLN5 := Lib.hid (Ln.mk hun (HLN4.out.on hbn).rx (HLN4.out.on hbn).rr (HLN4.out.on hbn).b)
      clear hun hbn
      go_wp2_with (first
        | (go_at_call 13; refine HCO.out.mono ?_; rintro e w' ⟨rfl, rfl⟩)
        | (go_at_call 17; refine HLV.out.mono ?_; rintro e w' ⟨rfl, rfl⟩)
        | (go_at_call 21; refine HDA.out.mono ?_; rintro e w' ⟨rfl, rfl⟩)
        | fail "none")
      have hq3 := HQ.out
      have h5 := HLN5.out
      rw [alloc_size] at h5
      exact ⟨⟨q + 1, by omega, rfl, h5⟩, by simp [intOf]; omega⟩
theorem law_nilf (c : Cm) (dv : Value) (l : List UInt8) (sw : Int) (dr : Value) (W : World) (h : SL W W.heap.size dv c.data) (hr : SL W W.heap.size dr l) : Calls Tryd.prog 7 #[c.val dv, .agg #[dr, .int .i64 sw]] W fun e w' => e = .returned (.bool true) ∧ Below W.heap.size W w' := by
  obtain ⟨A, k, rfl, _⟩ := id h
  obtain ⟨B, j, rfl, _⟩ := id hr
  exact law_nil c ⟨l, sw⟩ A B _ k _ j W
end Go.Proofs.YtdalcldilmmgmaaDoor
