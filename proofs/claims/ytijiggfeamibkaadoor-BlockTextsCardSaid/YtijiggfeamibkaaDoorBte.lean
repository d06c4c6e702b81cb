/-
  The text of a block (the reference's).
-/
import Derived.Test.YtijiggfeamibkaaDoorBtd
import Derived.Deep.RegionHeld3
namespace Go.Proofs.YtijiggfeamibkaaDoor
set_option linter.unusedVariables false
set_option linter.unusedSimpArgs false
open Go.RowKit
theorem cells4 {W : World} {g : Nat} {x0 x1 x2 x3 : Value} (h : W.heap[g]? = some (.cells #[x0, x1, x2, x3] 9 (0, 0))) : W.cell? ⟨g, 0, none⟩ = some x0 ∧ W.cell? ⟨g, 1, none⟩ = some x1 ∧ W.cell? ⟨g, 2, none⟩ = some x2 ∧ W.cell? ⟨g, 3, none⟩ = some x3 := by
  have y0 := cell_of_row W g 0 _ _ _ h
  have y1 := cell_of_row W g 1 _ _ _ h
  have y2 := cell_of_row W g 2 _ _ _ h
  have y3 := cell_of_row W g 3 _ _ _ h
  simp only [List.getElem?_toArray, List.getElem?_cons_zero, List.getElem?_cons_succ] at y0 y1 y2 y3
  exact ⟨y0, y1, y2, y3⟩

theorem bsz (l : List UInt8) : ByteArray.size ⟨l.toArray⟩ = l.length := by simp [ByteArray.size]
theorem add_run (a b : ByteArray) (h : a.size + b.size ≤ 1000000) (W : World) : Sem.run Tryd.prog (Op.stringOp .add a b) W = .ok (.string (a ++ b)) W := run_string_add_sum W a b (by omega)

set_option maxRecDepth 100000 in
set_option maxHeartbeats 3200000 in
theorem rtext_sup0a (nad s : Int) (m : Bool) (l : List UInt8) (v : Value) (w : World) (hv : SL w w.heap.size v l) (h : chkB ⟨nad, 2, s, m, 0, true, l⟩ = 0) :
    Calls Tryd.prog 5 #[Bk.val ⟨nad, 2, s, m, 0, true, l⟩ v] w fun e w' => e = .returned (.string ⟨(lineK nad (.sup 0 true) l).toArray⟩) ∧ Below w.heap.size w w' := by
  have HCK := Lib.hid (fun (W : World) (hW : Below w.heap.size w W) => rchk_any ⟨nad, 2, s, m, 0, true, l⟩ v W (hv.on hW))
  obtain ⟨q1, q2, q3, q4, _⟩ := chk_ok h
  have hlen : l.length ≤ 254 := infE_len q4
  have hw := nad_mod (show okNad nad = true from q1)
  have HX := Lib.hid (fun W o ho => rhex1 (UInt8.ofNat nad.toNat) _ hw W o ho)
  have HF := Lib.hid (fun (W : World) (hW : Below w.heap.size w W) => rinft_any l v W (hv.on hW) (by omega))
  have hfl : (infT l).length ≤ 1000 := by unfold infT; split; decide; (rw [hexL_length]; omega)
  rw [h] at HCK
  change Hid (∀ W o, o = Obj.cells #[.int .u8 (nad % 256)] 5 → Calls Tryd.prog 13 #[.slice (some ⟨W.heap.size, 0, none⟩) 1 1] (W.alloc o) fun e w' => e = .returned (.string ⟨(nadL nad).toArray⟩) ∧ Below W.heap.size W w') at HX
  have hln := nadL_len nad
  rw [line_sup]
  generalize nadL nad = nd at *
  generalize infT l = ft at *
  obtain ⟨A, c, rfl, _, _, _⟩ := hv
  simp only [Bk.val] at *
  clear h q1 q2 q3 q4 hlen hw
  have hA0 : ∀ W : World, Sem.run Tryd.prog (Op.stringOp .add ⟨#[32]⟩ ⟨nd.toArray⟩) W = .ok (.string (⟨#[32]⟩ ++ ⟨nd.toArray⟩)) W := (add_run _ _ (by rw [bsz nd]; show 1 + _ ≤ _; omega))
  have e0 : ((⟨#[32]⟩ : ByteArray) ++ ⟨nd.toArray⟩).size = 1 + nd.length := by rw [ByteArray.size_append, bsz nd]; rfl
  have hA00 : ∀ W : World, Sem.run Tryd.prog (Op.stringOp .add ((⟨#[32]⟩ : ByteArray) ++ ⟨nd.toArray⟩) ⟨#[32]⟩) W = .ok (.string ((⟨#[32]⟩ ++ ⟨nd.toArray⟩) ++ ⟨#[32]⟩)) W := (add_run _ _ (by rw [e0]; show _ + 1 ≤ _; omega))
  have e1 : ((⟨#[32]⟩ : ByteArray) ++ ⟨nd.toArray⟩ ++ ⟨#[32]⟩).size = 2 + nd.length := by rw [ByteArray.size_append, e0]; show 1 + nd.length + 1 = _; omega
  have HEQ : Hid ((⟨#[83]⟩ ++ ((⟨#[32]⟩ ++ ⟨nd.toArray⟩) ++ ⟨#[32]⟩) ++ ⟨#[114, 101, 115, 121, 110, 99]⟩ ++ ⟨#[32, 97, 110, 115, 119, 101, 114, 32]⟩ ++ ⟨ft.toArray⟩ : ByteArray) = ⟨(83 :: 32 :: (nd ++ (32 :: (nmS 0 ++ 32 :: (wdS true ++ 32 :: ft))))).toArray⟩) := by
    show _ = _
    apply ByteArray.ext
    simp [nmS, wdS]
  generalize (⟨#[32]⟩ : ByteArray) ++ ⟨nd.toArray⟩ = Y0 at *
  generalize Y0 ++ ⟨#[32]⟩ = Y1 at *
  have hA1 : ∀ W : World, Sem.run Tryd.prog (Op.stringOp .add ⟨#[83]⟩ Y1) W = .ok (.string (⟨#[83]⟩ ++ Y1)) W := (add_run _ _ (by rw [e1]; show 1 + _ ≤ _; omega))
  have e2 : ((⟨#[83]⟩ : ByteArray) ++ Y1).size = 3 + nd.length := by rw [ByteArray.size_append, e1]; show 1 + _ = _; omega
  generalize (⟨#[83]⟩ : ByteArray) ++ Y1 = Y2 at *
  have hA2 : ∀ W : World, Sem.run Tryd.prog (Op.stringOp .add Y2 ⟨#[114, 101, 115, 121, 110, 99]⟩) W = .ok (.string (Y2 ++ ⟨#[114, 101, 115, 121, 110, 99]⟩)) W := (add_run _ _ (by rw [e2]; show _ + 6 ≤ _; omega))
  have e3 : (Y2 ++ ⟨#[114, 101, 115, 121, 110, 99]⟩).size = 9 + nd.length := by rw [ByteArray.size_append, e2]; show _ + 6 = _; omega
  generalize Y2 ++ ⟨#[114, 101, 115, 121, 110, 99]⟩ = Y3 at *
  have hA3 : ∀ W : World, Sem.run Tryd.prog (Op.stringOp .add Y3 ⟨#[32, 97, 110, 115, 119, 101, 114, 32]⟩) W = .ok (.string (Y3 ++ ⟨#[32, 97, 110, 115, 119, 101, 114, 32]⟩)) W := (add_run _ _ (by rw [e3]; show _ + 8 ≤ _; omega))
  have e4 : (Y3 ++ ⟨#[32, 97, 110, 115, 119, 101, 114, 32]⟩).size = 17 + nd.length := by rw [ByteArray.size_append, e3]; show _ + 8 = _; omega
  generalize Y3 ++ ⟨#[32, 97, 110, 115, 119, 101, 114, 32]⟩ = Y4 at *
  have hA4 : ∀ W : World, Sem.run Tryd.prog (Op.stringOp .add Y4 ⟨ft.toArray⟩) W = .ok (.string (Y4 ++ ⟨ft.toArray⟩)) W := (add_run _ _ (by rw [e4, bsz ft]; omega))
  generalize Y4 ++ ⟨ft.toArray⟩ = Y5 at *
  generalize nmS 0 = NS at *
  clear e0 e1 e2 e3 e4 hln hfl
  cases hsq : (s == 1)
  all_goals
    go_enter Tryd.func5, Tryd.ntmps5
    go_wp2_with fail
    refine (HCK.out _ (alloc_below _ _)).mono ?_
    rintro e w1 ⟨rfl, hb1⟩
    have HR1 := Lib.hid ((hb1.block _ (by rw [alloc_size]; omega)).trans (heap_alloc_new w _))
    have HW1 := Lib.hid (below_alloc2 hb1)
    have hs1 : w.heap.size < w1.heap.size := by have := hb1.size; rw [alloc_size] at this; omega
    clear hb1
    obtain ⟨r0, r1, r2, r3, r4, r5, r6⟩ := cells7 HR1.out
    go_wp2_with fail
    refine (HX.out _ _ rfl).mono ?_
    rintro e w2 ⟨rfl, hb2⟩
    have HR2 := Lib.hid ((hb2.block _ hs1).trans HR1.out)
    have HW2 := Lib.hid (HW1.out.trans (hb2.mono HW1.out.size))
    have hs2 : w.heap.size < w2.heap.size := by have := hb2.size; omega
    clear hb2 r0 r1 r2 r3 r4 r5 r6
    have hb3 := alloc_below w2 (Obj.cells #[.string ⟨#[114, 101, 115, 121, 110, 99]⟩, .string ⟨#[105, 102, 115]⟩, .string ⟨#[97, 98, 111, 114, 116]⟩, .string ⟨#[119, 116, 120]⟩] 9)
    have HB3 := Lib.hid (HW2.out.trans (hb3.mono HW2.out.size))
    obtain ⟨z0, z1, z2, z3⟩ := cells4 (heap_alloc_new w2 (Obj.cells #[.string ⟨#[114, 101, 115, 121, 110, 99]⟩, .string ⟨#[105, 102, 115]⟩, .string ⟨#[97, 98, 111, 114, 116]⟩, .string ⟨#[119, 116, 120]⟩] 9))
    have HR3 := Lib.hid ((hb3.block _ hs2).trans HR2.out)
    obtain ⟨r0, r1, r2, r3, r4, r5, r6⟩ := cells7 HR2.out
    obtain ⟨q0, q1, q2, q3, q4, q5, q6⟩ := cells7 HR3.out
    clear hb3
    have hs3 : w.heap.size < (w2.alloc (Obj.cells #[.string ⟨#[114, 101, 115, 121, 110, 99]⟩, .string ⟨#[105, 102, 115]⟩, .string ⟨#[97, 98, 111, 114, 116]⟩, .string ⟨#[119, 116, 120]⟩] 9)).heap.size := by rw [alloc_size]; omega
    have hs4 : w2.heap.size < (w2.alloc (Obj.cells #[.string ⟨#[114, 101, 115, 121, 110, 99]⟩, .string ⟨#[105, 102, 115]⟩, .string ⟨#[97, 98, 111, 114, 116]⟩, .string ⟨#[119, 116, 120]⟩] 9)).heap.size := by rw [alloc_size]; omega
    go_wp2_with fail
    generalize w2.alloc (Obj.cells #[.string ⟨#[114, 101, 115, 121, 110, 99]⟩, .string ⟨#[105, 102, 115]⟩, .string ⟨#[97, 98, 111, 114, 116]⟩, .string ⟨#[119, 116, 120]⟩] 9) = W3 at *
    clear r0 r1 r2 r3 r4 r5 r6
    go_region_held3 (fun w' => w'.cell? ⟨w.heap.size, 4, none⟩ = some (.int .i64 0) ∧ w'.cell? ⟨w.heap.size, 6, none⟩ = some (.slice A l.length c) ∧ w'.cell? ⟨w2.heap.size, 0, none⟩ = some (.string ⟨#[114, 101, 115, 121, 110, 99]⟩))
      (first | (go_keep; done) | exact ⟨q4, q6, z0⟩ | exact ⟨(hbx.cell (p := ⟨w.heap.size, 4, none⟩) hs3).trans q4, (hbx.cell (p := ⟨w.heap.size, 6, none⟩) hs3).trans q6, (hbx.cell (p := ⟨w2.heap.size, 0, none⟩) hs4).trans z0⟩)
      (first | (go_at_call 14; (with_reducible refine (HF.out _ (HB3.out.drew)).mono ?_); rintro e wx ⟨rfl, hbx⟩))
    go_wp2_with fail
    go_ret
    exact ⟨by rw [HEQ.out]; rfl, HB3.out.drew.trans (hbx.mono HB3.out.drew.size)⟩

set_option maxRecDepth 100000 in
set_option maxHeartbeats 3200000 in
theorem rtext_sup0r (nad s : Int) (m : Bool) (l : List UInt8) (v : Value) (w : World) (hv : SL w w.heap.size v l) (h : chkB ⟨nad, 2, s, m, 0, false, l⟩ = 0) :
    Calls Tryd.prog 5 #[Bk.val ⟨nad, 2, s, m, 0, false, l⟩ v] w fun e w' => e = .returned (.string ⟨(lineK nad (.sup 0 false) l).toArray⟩) ∧ Below w.heap.size w w' := by
  have HCK := Lib.hid (fun (W : World) (hW : Below w.heap.size w W) => rchk_any ⟨nad, 2, s, m, 0, false, l⟩ v W (hv.on hW))
  obtain ⟨q1, q2, q3, q4, _⟩ := chk_ok h
  have hlen : l.length ≤ 254 := infE_len q4
  have hw := nad_mod (show okNad nad = true from q1)
  have HX := Lib.hid (fun W o ho => rhex1 (UInt8.ofNat nad.toNat) _ hw W o ho)
  have HF := Lib.hid (fun (W : World) (hW : Below w.heap.size w W) => rinft_any l v W (hv.on hW) (by omega))
  have hfl : (infT l).length ≤ 1000 := by unfold infT; split; decide; (rw [hexL_length]; omega)
  rw [h] at HCK
  change Hid (∀ W o, o = Obj.cells #[.int .u8 (nad % 256)] 5 → Calls Tryd.prog 13 #[.slice (some ⟨W.heap.size, 0, none⟩) 1 1] (W.alloc o) fun e w' => e = .returned (.string ⟨(nadL nad).toArray⟩) ∧ Below W.heap.size W w') at HX
  have hln := nadL_len nad
  rw [line_sup]
  generalize nadL nad = nd at *
  generalize infT l = ft at *
  obtain ⟨A, c, rfl, _, _, _⟩ := hv
  simp only [Bk.val] at *
  clear h q1 q2 q3 q4 hlen hw
  have hA0 : ∀ W : World, Sem.run Tryd.prog (Op.stringOp .add ⟨#[32]⟩ ⟨nd.toArray⟩) W = .ok (.string (⟨#[32]⟩ ++ ⟨nd.toArray⟩)) W := (add_run _ _ (by rw [bsz nd]; show 1 + _ ≤ _; omega))
  have e0 : ((⟨#[32]⟩ : ByteArray) ++ ⟨nd.toArray⟩).size = 1 + nd.length := by rw [ByteArray.size_append, bsz nd]; rfl
  have hA00 : ∀ W : World, Sem.run Tryd.prog (Op.stringOp .add ((⟨#[32]⟩ : ByteArray) ++ ⟨nd.toArray⟩) ⟨#[32]⟩) W = .ok (.string ((⟨#[32]⟩ ++ ⟨nd.toArray⟩) ++ ⟨#[32]⟩)) W := (add_run _ _ (by rw [e0]; show _ + 1 ≤ _; omega))
  have e1 : ((⟨#[32]⟩ : ByteArray) ++ ⟨nd.toArray⟩ ++ ⟨#[32]⟩).size = 2 + nd.length := by rw [ByteArray.size_append, e0]; show 1 + nd.length + 1 = _; omega
  have HEQ : Hid ((⟨#[83]⟩ ++ ((⟨#[32]⟩ ++ ⟨nd.toArray⟩) ++ ⟨#[32]⟩) ++ ⟨#[114, 101, 115, 121, 110, 99]⟩ ++ ⟨#[32, 114, 101, 113, 117, 101, 115, 116, 32]⟩ ++ ⟨ft.toArray⟩ : ByteArray) = ⟨(83 :: 32 :: (nd ++ (32 :: (nmS 0 ++ 32 :: (wdS false ++ 32 :: ft))))).toArray⟩) := by
    show _ = _
    apply ByteArray.ext
    simp [nmS, wdS]
  generalize (⟨#[32]⟩ : ByteArray) ++ ⟨nd.toArray⟩ = Y0 at *
  generalize Y0 ++ ⟨#[32]⟩ = Y1 at *
  have hA1 : ∀ W : World, Sem.run Tryd.prog (Op.stringOp .add ⟨#[83]⟩ Y1) W = .ok (.string (⟨#[83]⟩ ++ Y1)) W := (add_run _ _ (by rw [e1]; show 1 + _ ≤ _; omega))
  have e2 : ((⟨#[83]⟩ : ByteArray) ++ Y1).size = 3 + nd.length := by rw [ByteArray.size_append, e1]; show 1 + _ = _; omega
  generalize (⟨#[83]⟩ : ByteArray) ++ Y1 = Y2 at *
  have hA2 : ∀ W : World, Sem.run Tryd.prog (Op.stringOp .add Y2 ⟨#[114, 101, 115, 121, 110, 99]⟩) W = .ok (.string (Y2 ++ ⟨#[114, 101, 115, 121, 110, 99]⟩)) W := (add_run _ _ (by rw [e2]; show _ + 6 ≤ _; omega))
  have e3 : (Y2 ++ ⟨#[114, 101, 115, 121, 110, 99]⟩).size = 9 + nd.length := by rw [ByteArray.size_append, e2]; show _ + 6 = _; omega
  generalize Y2 ++ ⟨#[114, 101, 115, 121, 110, 99]⟩ = Y3 at *
  have hA3 : ∀ W : World, Sem.run Tryd.prog (Op.stringOp .add Y3 ⟨#[32, 114, 101, 113, 117, 101, 115, 116, 32]⟩) W = .ok (.string (Y3 ++ ⟨#[32, 114, 101, 113, 117, 101, 115, 116, 32]⟩)) W := (add_run _ _ (by rw [e3]; show _ + 9 ≤ _; omega))
  have e4 : (Y3 ++ ⟨#[32, 114, 101, 113, 117, 101, 115, 116, 32]⟩).size = 18 + nd.length := by rw [ByteArray.size_append, e3]; show _ + 9 = _; omega
  generalize Y3 ++ ⟨#[32, 114, 101, 113, 117, 101, 115, 116, 32]⟩ = Y4 at *
  have hA4 : ∀ W : World, Sem.run Tryd.prog (Op.stringOp .add Y4 ⟨ft.toArray⟩) W = .ok (.string (Y4 ++ ⟨ft.toArray⟩)) W := (add_run _ _ (by rw [e4, bsz ft]; omega))
  generalize Y4 ++ ⟨ft.toArray⟩ = Y5 at *
  generalize nmS 0 = NS at *
  clear e0 e1 e2 e3 e4 hln hfl
  cases hsq : (s == 1)
  all_goals
    go_enter Tryd.func5, Tryd.ntmps5
    go_wp2_with fail
    refine (HCK.out _ (alloc_below _ _)).mono ?_
    rintro e w1 ⟨rfl, hb1⟩
    have HR1 := Lib.hid ((hb1.block _ (by rw [alloc_size]; omega)).trans (heap_alloc_new w _))
    have HW1 := Lib.hid (below_alloc2 hb1)
    have hs1 : w.heap.size < w1.heap.size := by have := hb1.size; rw [alloc_size] at this; omega
    clear hb1
    obtain ⟨r0, r1, r2, r3, r4, r5, r6⟩ := cells7 HR1.out
    go_wp2_with fail
    refine (HX.out _ _ rfl).mono ?_
    rintro e w2 ⟨rfl, hb2⟩
    have HR2 := Lib.hid ((hb2.block _ hs1).trans HR1.out)
    have HW2 := Lib.hid (HW1.out.trans (hb2.mono HW1.out.size))
    have hs2 : w.heap.size < w2.heap.size := by have := hb2.size; omega
    clear hb2 r0 r1 r2 r3 r4 r5 r6
    have hb3 := alloc_below w2 (Obj.cells #[.string ⟨#[114, 101, 115, 121, 110, 99]⟩, .string ⟨#[105, 102, 115]⟩, .string ⟨#[97, 98, 111, 114, 116]⟩, .string ⟨#[119, 116, 120]⟩] 9)
    have HB3 := Lib.hid (HW2.out.trans (hb3.mono HW2.out.size))
    obtain ⟨z0, z1, z2, z3⟩ := cells4 (heap_alloc_new w2 (Obj.cells #[.string ⟨#[114, 101, 115, 121, 110, 99]⟩, .string ⟨#[105, 102, 115]⟩, .string ⟨#[97, 98, 111, 114, 116]⟩, .string ⟨#[119, 116, 120]⟩] 9))
    have HR3 := Lib.hid ((hb3.block _ hs2).trans HR2.out)
    obtain ⟨r0, r1, r2, r3, r4, r5, r6⟩ := cells7 HR2.out
    obtain ⟨q0, q1, q2, q3, q4, q5, q6⟩ := cells7 HR3.out
    clear hb3
    have hs3 : w.heap.size < (w2.alloc (Obj.cells #[.string ⟨#[114, 101, 115, 121, 110, 99]⟩, .string ⟨#[105, 102, 115]⟩, .string ⟨#[97, 98, 111, 114, 116]⟩, .string ⟨#[119, 116, 120]⟩] 9)).heap.size := by rw [alloc_size]; omega
    have hs4 : w2.heap.size < (w2.alloc (Obj.cells #[.string ⟨#[114, 101, 115, 121, 110, 99]⟩, .string ⟨#[105, 102, 115]⟩, .string ⟨#[97, 98, 111, 114, 116]⟩, .string ⟨#[119, 116, 120]⟩] 9)).heap.size := by rw [alloc_size]; omega
    go_wp2_with fail
    generalize w2.alloc (Obj.cells #[.string ⟨#[114, 101, 115, 121, 110, 99]⟩, .string ⟨#[105, 102, 115]⟩, .string ⟨#[97, 98, 111, 114, 116]⟩, .string ⟨#[119, 116, 120]⟩] 9) = W3 at *
    clear r0 r1 r2 r3 r4 r5 r6
    go_region_held3 (fun w' => w'.cell? ⟨w.heap.size, 4, none⟩ = some (.int .i64 0) ∧ w'.cell? ⟨w.heap.size, 6, none⟩ = some (.slice A l.length c) ∧ w'.cell? ⟨w2.heap.size, 0, none⟩ = some (.string ⟨#[114, 101, 115, 121, 110, 99]⟩))
      (first | (go_keep; done) | exact ⟨q4, q6, z0⟩ | exact ⟨(hbx.cell (p := ⟨w.heap.size, 4, none⟩) hs3).trans q4, (hbx.cell (p := ⟨w.heap.size, 6, none⟩) hs3).trans q6, (hbx.cell (p := ⟨w2.heap.size, 0, none⟩) hs4).trans z0⟩)
      (first | (go_at_call 14; (with_reducible refine (HF.out _ (HB3.out.drew)).mono ?_); rintro e wx ⟨rfl, hbx⟩))
    go_wp2_with fail
    go_ret
    exact ⟨by rw [HEQ.out]; rfl, HB3.out.drew.trans (hbx.mono HB3.out.drew.size)⟩

set_option maxRecDepth 100000 in
set_option maxHeartbeats 3200000 in
theorem rtext_sup1a (nad s : Int) (m : Bool) (l : List UInt8) (v : Value) (w : World) (hv : SL w w.heap.size v l) (h : chkB ⟨nad, 2, s, m, 1, true, l⟩ = 0) :
    Calls Tryd.prog 5 #[Bk.val ⟨nad, 2, s, m, 1, true, l⟩ v] w fun e w' => e = .returned (.string ⟨(lineK nad (.sup 1 true) l).toArray⟩) ∧ Below w.heap.size w w' := by
  have HCK := Lib.hid (fun (W : World) (hW : Below w.heap.size w W) => rchk_any ⟨nad, 2, s, m, 1, true, l⟩ v W (hv.on hW))
  obtain ⟨q1, q2, q3, q4, _⟩ := chk_ok h
  have hlen : l.length ≤ 254 := infE_len q4
  have hw := nad_mod (show okNad nad = true from q1)
  have HX := Lib.hid (fun W o ho => rhex1 (UInt8.ofNat nad.toNat) _ hw W o ho)
  have HF := Lib.hid (fun (W : World) (hW : Below w.heap.size w W) => rinft_any l v W (hv.on hW) (by omega))
  have hfl : (infT l).length ≤ 1000 := by unfold infT; split; decide; (rw [hexL_length]; omega)
  rw [h] at HCK
  change Hid (∀ W o, o = Obj.cells #[.int .u8 (nad % 256)] 5 → Calls Tryd.prog 13 #[.slice (some ⟨W.heap.size, 0, none⟩) 1 1] (W.alloc o) fun e w' => e = .returned (.string ⟨(nadL nad).toArray⟩) ∧ Below W.heap.size W w') at HX
  have hln := nadL_len nad
  rw [line_sup]
  generalize nadL nad = nd at *
  generalize infT l = ft at *
  obtain ⟨A, c, rfl, _, _, _⟩ := hv
  simp only [Bk.val] at *
  clear h q1 q2 q3 q4 hlen hw
  have hA0 : ∀ W : World, Sem.run Tryd.prog (Op.stringOp .add ⟨#[32]⟩ ⟨nd.toArray⟩) W = .ok (.string (⟨#[32]⟩ ++ ⟨nd.toArray⟩)) W := (add_run _ _ (by rw [bsz nd]; show 1 + _ ≤ _; omega))
  have e0 : ((⟨#[32]⟩ : ByteArray) ++ ⟨nd.toArray⟩).size = 1 + nd.length := by rw [ByteArray.size_append, bsz nd]; rfl
  have hA00 : ∀ W : World, Sem.run Tryd.prog (Op.stringOp .add ((⟨#[32]⟩ : ByteArray) ++ ⟨nd.toArray⟩) ⟨#[32]⟩) W = .ok (.string ((⟨#[32]⟩ ++ ⟨nd.toArray⟩) ++ ⟨#[32]⟩)) W := (add_run _ _ (by rw [e0]; show _ + 1 ≤ _; omega))
  have e1 : ((⟨#[32]⟩ : ByteArray) ++ ⟨nd.toArray⟩ ++ ⟨#[32]⟩).size = 2 + nd.length := by rw [ByteArray.size_append, e0]; show 1 + nd.length + 1 = _; omega
  have HEQ : Hid ((⟨#[83]⟩ ++ ((⟨#[32]⟩ ++ ⟨nd.toArray⟩) ++ ⟨#[32]⟩) ++ ⟨#[105, 102, 115]⟩ ++ ⟨#[32, 97, 110, 115, 119, 101, 114, 32]⟩ ++ ⟨ft.toArray⟩ : ByteArray) = ⟨(83 :: 32 :: (nd ++ (32 :: (nmS 1 ++ 32 :: (wdS true ++ 32 :: ft))))).toArray⟩) := by
    show _ = _
    apply ByteArray.ext
    simp [nmS, wdS]
  generalize (⟨#[32]⟩ : ByteArray) ++ ⟨nd.toArray⟩ = Y0 at *
  generalize Y0 ++ ⟨#[32]⟩ = Y1 at *
  have hA1 : ∀ W : World, Sem.run Tryd.prog (Op.stringOp .add ⟨#[83]⟩ Y1) W = .ok (.string (⟨#[83]⟩ ++ Y1)) W := (add_run _ _ (by rw [e1]; show 1 + _ ≤ _; omega))
  have e2 : ((⟨#[83]⟩ : ByteArray) ++ Y1).size = 3 + nd.length := by rw [ByteArray.size_append, e1]; show 1 + _ = _; omega
  generalize (⟨#[83]⟩ : ByteArray) ++ Y1 = Y2 at *
  have hA2 : ∀ W : World, Sem.run Tryd.prog (Op.stringOp .add Y2 ⟨#[105, 102, 115]⟩) W = .ok (.string (Y2 ++ ⟨#[105, 102, 115]⟩)) W := (add_run _ _ (by rw [e2]; show _ + 3 ≤ _; omega))
  have e3 : (Y2 ++ ⟨#[105, 102, 115]⟩).size = 6 + nd.length := by rw [ByteArray.size_append, e2]; show _ + 3 = _; omega
  generalize Y2 ++ ⟨#[105, 102, 115]⟩ = Y3 at *
  have hA3 : ∀ W : World, Sem.run Tryd.prog (Op.stringOp .add Y3 ⟨#[32, 97, 110, 115, 119, 101, 114, 32]⟩) W = .ok (.string (Y3 ++ ⟨#[32, 97, 110, 115, 119, 101, 114, 32]⟩)) W := (add_run _ _ (by rw [e3]; show _ + 8 ≤ _; omega))
  have e4 : (Y3 ++ ⟨#[32, 97, 110, 115, 119, 101, 114, 32]⟩).size = 14 + nd.length := by rw [ByteArray.size_append, e3]; show _ + 8 = _; omega
  generalize Y3 ++ ⟨#[32, 97, 110, 115, 119, 101, 114, 32]⟩ = Y4 at *
  have hA4 : ∀ W : World, Sem.run Tryd.prog (Op.stringOp .add Y4 ⟨ft.toArray⟩) W = .ok (.string (Y4 ++ ⟨ft.toArray⟩)) W := (add_run _ _ (by rw [e4, bsz ft]; omega))
  generalize Y4 ++ ⟨ft.toArray⟩ = Y5 at *
  generalize nmS 1 = NS at *
  clear e0 e1 e2 e3 e4 hln hfl
  cases hsq : (s == 1)
  all_goals
    go_enter Tryd.func5, Tryd.ntmps5
    go_wp2_with fail
    refine (HCK.out _ (alloc_below _ _)).mono ?_
    rintro e w1 ⟨rfl, hb1⟩
    have HR1 := Lib.hid ((hb1.block _ (by rw [alloc_size]; omega)).trans (heap_alloc_new w _))
    have HW1 := Lib.hid (below_alloc2 hb1)
    have hs1 : w.heap.size < w1.heap.size := by have := hb1.size; rw [alloc_size] at this; omega
    clear hb1
    obtain ⟨r0, r1, r2, r3, r4, r5, r6⟩ := cells7 HR1.out
    go_wp2_with fail
    refine (HX.out _ _ rfl).mono ?_
    rintro e w2 ⟨rfl, hb2⟩
    have HR2 := Lib.hid ((hb2.block _ hs1).trans HR1.out)
    have HW2 := Lib.hid (HW1.out.trans (hb2.mono HW1.out.size))
    have hs2 : w.heap.size < w2.heap.size := by have := hb2.size; omega
    clear hb2 r0 r1 r2 r3 r4 r5 r6
    have hb3 := alloc_below w2 (Obj.cells #[.string ⟨#[114, 101, 115, 121, 110, 99]⟩, .string ⟨#[105, 102, 115]⟩, .string ⟨#[97, 98, 111, 114, 116]⟩, .string ⟨#[119, 116, 120]⟩] 9)
    have HB3 := Lib.hid (HW2.out.trans (hb3.mono HW2.out.size))
    obtain ⟨z0, z1, z2, z3⟩ := cells4 (heap_alloc_new w2 (Obj.cells #[.string ⟨#[114, 101, 115, 121, 110, 99]⟩, .string ⟨#[105, 102, 115]⟩, .string ⟨#[97, 98, 111, 114, 116]⟩, .string ⟨#[119, 116, 120]⟩] 9))
    have HR3 := Lib.hid ((hb3.block _ hs2).trans HR2.out)
    obtain ⟨r0, r1, r2, r3, r4, r5, r6⟩ := cells7 HR2.out
    obtain ⟨q0, q1, q2, q3, q4, q5, q6⟩ := cells7 HR3.out
    clear hb3
    have hs3 : w.heap.size < (w2.alloc (Obj.cells #[.string ⟨#[114, 101, 115, 121, 110, 99]⟩, .string ⟨#[105, 102, 115]⟩, .string ⟨#[97, 98, 111, 114, 116]⟩, .string ⟨#[119, 116, 120]⟩] 9)).heap.size := by rw [alloc_size]; omega
    have hs4 : w2.heap.size < (w2.alloc (Obj.cells #[.string ⟨#[114, 101, 115, 121, 110, 99]⟩, .string ⟨#[105, 102, 115]⟩, .string ⟨#[97, 98, 111, 114, 116]⟩, .string ⟨#[119, 116, 120]⟩] 9)).heap.size := by rw [alloc_size]; omega
    go_wp2_with fail
    generalize w2.alloc (Obj.cells #[.string ⟨#[114, 101, 115, 121, 110, 99]⟩, .string ⟨#[105, 102, 115]⟩, .string ⟨#[97, 98, 111, 114, 116]⟩, .string ⟨#[119, 116, 120]⟩] 9) = W3 at *
    clear r0 r1 r2 r3 r4 r5 r6
    go_region_held3 (fun w' => w'.cell? ⟨w.heap.size, 4, none⟩ = some (.int .i64 1) ∧ w'.cell? ⟨w.heap.size, 6, none⟩ = some (.slice A l.length c) ∧ w'.cell? ⟨w2.heap.size, 1, none⟩ = some (.string ⟨#[105, 102, 115]⟩))
      (first | (go_keep; done) | exact ⟨q4, q6, z1⟩ | exact ⟨(hbx.cell (p := ⟨w.heap.size, 4, none⟩) hs3).trans q4, (hbx.cell (p := ⟨w.heap.size, 6, none⟩) hs3).trans q6, (hbx.cell (p := ⟨w2.heap.size, 1, none⟩) hs4).trans z1⟩)
      (first | (go_at_call 14; (with_reducible refine (HF.out _ (HB3.out.drew)).mono ?_); rintro e wx ⟨rfl, hbx⟩))
    go_wp2_with fail
    go_ret
    exact ⟨by rw [HEQ.out]; rfl, HB3.out.drew.trans (hbx.mono HB3.out.drew.size)⟩

set_option maxRecDepth 100000 in
set_option maxHeartbeats 3200000 in
theorem rtext_sup1r (nad s : Int) (m : Bool) (l : List UInt8) (v : Value) (w : World) (hv : SL w w.heap.size v l) (h : chkB ⟨nad, 2, s, m, 1, false, l⟩ = 0) :
    Calls Tryd.prog 5 #[Bk.val ⟨nad, 2, s, m, 1, false, l⟩ v] w fun e w' => e = .returned (.string ⟨(lineK nad (.sup 1 false) l).toArray⟩) ∧ Below w.heap.size w w' := by
  have HCK := Lib.hid (fun (W : World) (hW : Below w.heap.size w W) => rchk_any ⟨nad, 2, s, m, 1, false, l⟩ v W (hv.on hW))
  obtain ⟨q1, q2, q3, q4, _⟩ := chk_ok h
  have hlen : l.length ≤ 254 := infE_len q4
  have hw := nad_mod (show okNad nad = true from q1)
  have HX := Lib.hid (fun W o ho => rhex1 (UInt8.ofNat nad.toNat) _ hw W o ho)
  have HF := Lib.hid (fun (W : World) (hW : Below w.heap.size w W) => rinft_any l v W (hv.on hW) (by omega))
  have hfl : (infT l).length ≤ 1000 := by unfold infT; split; decide; (rw [hexL_length]; omega)
  rw [h] at HCK
  change Hid (∀ W o, o = Obj.cells #[.int .u8 (nad % 256)] 5 → Calls Tryd.prog 13 #[.slice (some ⟨W.heap.size, 0, none⟩) 1 1] (W.alloc o) fun e w' => e = .returned (.string ⟨(nadL nad).toArray⟩) ∧ Below W.heap.size W w') at HX
  have hln := nadL_len nad
  rw [line_sup]
  generalize nadL nad = nd at *
  generalize infT l = ft at *
  obtain ⟨A, c, rfl, _, _, _⟩ := hv
  simp only [Bk.val] at *
  clear h q1 q2 q3 q4 hlen hw
  have hA0 : ∀ W : World, Sem.run Tryd.prog (Op.stringOp .add ⟨#[32]⟩ ⟨nd.toArray⟩) W = .ok (.string (⟨#[32]⟩ ++ ⟨nd.toArray⟩)) W := (add_run _ _ (by rw [bsz nd]; show 1 + _ ≤ _; omega))
  have e0 : ((⟨#[32]⟩ : ByteArray) ++ ⟨nd.toArray⟩).size = 1 + nd.length := by rw [ByteArray.size_append, bsz nd]; rfl
  have hA00 : ∀ W : World, Sem.run Tryd.prog (Op.stringOp .add ((⟨#[32]⟩ : ByteArray) ++ ⟨nd.toArray⟩) ⟨#[32]⟩) W = .ok (.string ((⟨#[32]⟩ ++ ⟨nd.toArray⟩) ++ ⟨#[32]⟩)) W := (add_run _ _ (by rw [e0]; show _ + 1 ≤ _; omega))
  have e1 : ((⟨#[32]⟩ : ByteArray) ++ ⟨nd.toArray⟩ ++ ⟨#[32]⟩).size = 2 + nd.length := by rw [ByteArray.size_append, e0]; show 1 + nd.length + 1 = _; omega
  have HEQ : Hid ((⟨#[83]⟩ ++ ((⟨#[32]⟩ ++ ⟨nd.toArray⟩) ++ ⟨#[32]⟩) ++ ⟨#[105, 102, 115]⟩ ++ ⟨#[32, 114, 101, 113, 117, 101, 115, 116, 32]⟩ ++ ⟨ft.toArray⟩ : ByteArray) = ⟨(83 :: 32 :: (nd ++ (32 :: (nmS 1 ++ 32 :: (wdS false ++ 32 :: ft))))).toArray⟩) := by
    show _ = _
    apply ByteArray.ext
    simp [nmS, wdS]
  generalize (⟨#[32]⟩ : ByteArray) ++ ⟨nd.toArray⟩ = Y0 at *
  generalize Y0 ++ ⟨#[32]⟩ = Y1 at *
  have hA1 : ∀ W : World, Sem.run Tryd.prog (Op.stringOp .add ⟨#[83]⟩ Y1) W = .ok (.string (⟨#[83]⟩ ++ Y1)) W := (add_run _ _ (by rw [e1]; show 1 + _ ≤ _; omega))
  have e2 : ((⟨#[83]⟩ : ByteArray) ++ Y1).size = 3 + nd.length := by rw [ByteArray.size_append, e1]; show 1 + _ = _; omega
  generalize (⟨#[83]⟩ : ByteArray) ++ Y1 = Y2 at *
  have hA2 : ∀ W : World, Sem.run Tryd.prog (Op.stringOp .add Y2 ⟨#[105, 102, 115]⟩) W = .ok (.string (Y2 ++ ⟨#[105, 102, 115]⟩)) W := (add_run _ _ (by rw [e2]; show _ + 3 ≤ _; omega))
  have e3 : (Y2 ++ ⟨#[105, 102, 115]⟩).size = 6 + nd.length := by rw [ByteArray.size_append, e2]; show _ + 3 = _; omega
  generalize Y2 ++ ⟨#[105, 102, 115]⟩ = Y3 at *
  have hA3 : ∀ W : World, Sem.run Tryd.prog (Op.stringOp .add Y3 ⟨#[32, 114, 101, 113, 117, 101, 115, 116, 32]⟩) W = .ok (.string (Y3 ++ ⟨#[32, 114, 101, 113, 117, 101, 115, 116, 32]⟩)) W := (add_run _ _ (by rw [e3]; show _ + 9 ≤ _; omega))
  have e4 : (Y3 ++ ⟨#[32, 114, 101, 113, 117, 101, 115, 116, 32]⟩).size = 15 + nd.length := by rw [ByteArray.size_append, e3]; show _ + 9 = _; omega
  generalize Y3 ++ ⟨#[32, 114, 101, 113, 117, 101, 115, 116, 32]⟩ = Y4 at *
  have hA4 : ∀ W : World, Sem.run Tryd.prog (Op.stringOp .add Y4 ⟨ft.toArray⟩) W = .ok (.string (Y4 ++ ⟨ft.toArray⟩)) W := (add_run _ _ (by rw [e4, bsz ft]; omega))
  generalize Y4 ++ ⟨ft.toArray⟩ = Y5 at *
  generalize nmS 1 = NS at *
  clear e0 e1 e2 e3 e4 hln hfl
  cases hsq : (s == 1)
  all_goals
    go_enter Tryd.func5, Tryd.ntmps5
    go_wp2_with fail
    refine (HCK.out _ (alloc_below _ _)).mono ?_
    rintro e w1 ⟨rfl, hb1⟩
    have HR1 := Lib.hid ((hb1.block _ (by rw [alloc_size]; omega)).trans (heap_alloc_new w _))
    have HW1 := Lib.hid (below_alloc2 hb1)
    have hs1 : w.heap.size < w1.heap.size := by have := hb1.size; rw [alloc_size] at this; omega
    clear hb1
    obtain ⟨r0, r1, r2, r3, r4, r5, r6⟩ := cells7 HR1.out
    go_wp2_with fail
    refine (HX.out _ _ rfl).mono ?_
    rintro e w2 ⟨rfl, hb2⟩
    have HR2 := Lib.hid ((hb2.block _ hs1).trans HR1.out)
    have HW2 := Lib.hid (HW1.out.trans (hb2.mono HW1.out.size))
    have hs2 : w.heap.size < w2.heap.size := by have := hb2.size; omega
    clear hb2 r0 r1 r2 r3 r4 r5 r6
    have hb3 := alloc_below w2 (Obj.cells #[.string ⟨#[114, 101, 115, 121, 110, 99]⟩, .string ⟨#[105, 102, 115]⟩, .string ⟨#[97, 98, 111, 114, 116]⟩, .string ⟨#[119, 116, 120]⟩] 9)
    have HB3 := Lib.hid (HW2.out.trans (hb3.mono HW2.out.size))
    obtain ⟨z0, z1, z2, z3⟩ := cells4 (heap_alloc_new w2 (Obj.cells #[.string ⟨#[114, 101, 115, 121, 110, 99]⟩, .string ⟨#[105, 102, 115]⟩, .string ⟨#[97, 98, 111, 114, 116]⟩, .string ⟨#[119, 116, 120]⟩] 9))
    have HR3 := Lib.hid ((hb3.block _ hs2).trans HR2.out)
    obtain ⟨r0, r1, r2, r3, r4, r5, r6⟩ := cells7 HR2.out
    obtain ⟨q0, q1, q2, q3, q4, q5, q6⟩ := cells7 HR3.out
    clear hb3
    have hs3 : w.heap.size < (w2.alloc (Obj.cells #[.string ⟨#[114, 101, 115, 121, 110, 99]⟩, .string ⟨#[105, 102, 115]⟩, .string ⟨#[97, 98, 111, 114, 116]⟩, .string ⟨#[119, 116, 120]⟩] 9)).heap.size := by rw [alloc_size]; omega
    have hs4 : w2.heap.size < (w2.alloc (Obj.cells #[.string ⟨#[114, 101, 115, 121, 110, 99]⟩, .string ⟨#[105, 102, 115]⟩, .string ⟨#[97, 98, 111, 114, 116]⟩, .string ⟨#[119, 116, 120]⟩] 9)).heap.size := by rw [alloc_size]; omega
    go_wp2_with fail
    generalize w2.alloc (Obj.cells #[.string ⟨#[114, 101, 115, 121, 110, 99]⟩, .string ⟨#[105, 102, 115]⟩, .string ⟨#[97, 98, 111, 114, 116]⟩, .string ⟨#[119, 116, 120]⟩] 9) = W3 at *
    clear r0 r1 r2 r3 r4 r5 r6
    go_region_held3 (fun w' => w'.cell? ⟨w.heap.size, 4, none⟩ = some (.int .i64 1) ∧ w'.cell? ⟨w.heap.size, 6, none⟩ = some (.slice A l.length c) ∧ w'.cell? ⟨w2.heap.size, 1, none⟩ = some (.string ⟨#[105, 102, 115]⟩))
      (first | (go_keep; done) | exact ⟨q4, q6, z1⟩ | exact ⟨(hbx.cell (p := ⟨w.heap.size, 4, none⟩) hs3).trans q4, (hbx.cell (p := ⟨w.heap.size, 6, none⟩) hs3).trans q6, (hbx.cell (p := ⟨w2.heap.size, 1, none⟩) hs4).trans z1⟩)
      (first | (go_at_call 14; (with_reducible refine (HF.out _ (HB3.out.drew)).mono ?_); rintro e wx ⟨rfl, hbx⟩))
    go_wp2_with fail
    go_ret
    exact ⟨by rw [HEQ.out]; rfl, HB3.out.drew.trans (hbx.mono HB3.out.drew.size)⟩

set_option maxRecDepth 100000 in
set_option maxHeartbeats 3200000 in
theorem rtext_sup2a (nad s : Int) (m : Bool) (l : List UInt8) (v : Value) (w : World) (hv : SL w w.heap.size v l) (h : chkB ⟨nad, 2, s, m, 2, true, l⟩ = 0) :
    Calls Tryd.prog 5 #[Bk.val ⟨nad, 2, s, m, 2, true, l⟩ v] w fun e w' => e = .returned (.string ⟨(lineK nad (.sup 2 true) l).toArray⟩) ∧ Below w.heap.size w w' := by
  have HCK := Lib.hid (fun (W : World) (hW : Below w.heap.size w W) => rchk_any ⟨nad, 2, s, m, 2, true, l⟩ v W (hv.on hW))
  obtain ⟨q1, q2, q3, q4, _⟩ := chk_ok h
  have hlen : l.length ≤ 254 := infE_len q4
  have hw := nad_mod (show okNad nad = true from q1)
  have HX := Lib.hid (fun W o ho => rhex1 (UInt8.ofNat nad.toNat) _ hw W o ho)
  have HF := Lib.hid (fun (W : World) (hW : Below w.heap.size w W) => rinft_any l v W (hv.on hW) (by omega))
  have hfl : (infT l).length ≤ 1000 := by unfold infT; split; decide; (rw [hexL_length]; omega)
  rw [h] at HCK
  change Hid (∀ W o, o = Obj.cells #[.int .u8 (nad % 256)] 5 → Calls Tryd.prog 13 #[.slice (some ⟨W.heap.size, 0, none⟩) 1 1] (W.alloc o) fun e w' => e = .returned (.string ⟨(nadL nad).toArray⟩) ∧ Below W.heap.size W w') at HX
  have hln := nadL_len nad
  rw [line_sup]
  generalize nadL nad = nd at *
  generalize infT l = ft at *
  obtain ⟨A, c, rfl, _, _, _⟩ := hv
  simp only [Bk.val] at *
  clear h q1 q2 q3 q4 hlen hw
  have hA0 : ∀ W : World, Sem.run Tryd.prog (Op.stringOp .add ⟨#[32]⟩ ⟨nd.toArray⟩) W = .ok (.string (⟨#[32]⟩ ++ ⟨nd.toArray⟩)) W := (add_run _ _ (by rw [bsz nd]; show 1 + _ ≤ _; omega))
  have e0 : ((⟨#[32]⟩ : ByteArray) ++ ⟨nd.toArray⟩).size = 1 + nd.length := by rw [ByteArray.size_append, bsz nd]; rfl
  have hA00 : ∀ W : World, Sem.run Tryd.prog (Op.stringOp .add ((⟨#[32]⟩ : ByteArray) ++ ⟨nd.toArray⟩) ⟨#[32]⟩) W = .ok (.string ((⟨#[32]⟩ ++ ⟨nd.toArray⟩) ++ ⟨#[32]⟩)) W := (add_run _ _ (by rw [e0]; show _ + 1 ≤ _; omega))
  have e1 : ((⟨#[32]⟩ : ByteArray) ++ ⟨nd.toArray⟩ ++ ⟨#[32]⟩).size = 2 + nd.length := by rw [ByteArray.size_append, e0]; show 1 + nd.length + 1 = _; omega
  have HEQ : Hid ((⟨#[83]⟩ ++ ((⟨#[32]⟩ ++ ⟨nd.toArray⟩) ++ ⟨#[32]⟩) ++ ⟨#[97, 98, 111, 114, 116]⟩ ++ ⟨#[32, 97, 110, 115, 119, 101, 114, 32]⟩ ++ ⟨ft.toArray⟩ : ByteArray) = ⟨(83 :: 32 :: (nd ++ (32 :: (nmS 2 ++ 32 :: (wdS true ++ 32 :: ft))))).toArray⟩) := by
    show _ = _
    apply ByteArray.ext
    simp [nmS, wdS]
  generalize (⟨#[32]⟩ : ByteArray) ++ ⟨nd.toArray⟩ = Y0 at *
  generalize Y0 ++ ⟨#[32]⟩ = Y1 at *
  have hA1 : ∀ W : World, Sem.run Tryd.prog (Op.stringOp .add ⟨#[83]⟩ Y1) W = .ok (.string (⟨#[83]⟩ ++ Y1)) W := (add_run _ _ (by rw [e1]; show 1 + _ ≤ _; omega))
  have e2 : ((⟨#[83]⟩ : ByteArray) ++ Y1).size = 3 + nd.length := by rw [ByteArray.size_append, e1]; show 1 + _ = _; omega
  generalize (⟨#[83]⟩ : ByteArray) ++ Y1 = Y2 at *
  have hA2 : ∀ W : World, Sem.run Tryd.prog (Op.stringOp .add Y2 ⟨#[97, 98, 111, 114, 116]⟩) W = .ok (.string (Y2 ++ ⟨#[97, 98, 111, 114, 116]⟩)) W := (add_run _ _ (by rw [e2]; show _ + 5 ≤ _; omega))
  have e3 : (Y2 ++ ⟨#[97, 98, 111, 114, 116]⟩).size = 8 + nd.length := by rw [ByteArray.size_append, e2]; show _ + 5 = _; omega
  generalize Y2 ++ ⟨#[97, 98, 111, 114, 116]⟩ = Y3 at *
  have hA3 : ∀ W : World, Sem.run Tryd.prog (Op.stringOp .add Y3 ⟨#[32, 97, 110, 115, 119, 101, 114, 32]⟩) W = .ok (.string (Y3 ++ ⟨#[32, 97, 110, 115, 119, 101, 114, 32]⟩)) W := (add_run _ _ (by rw [e3]; show _ + 8 ≤ _; omega))
  have e4 : (Y3 ++ ⟨#[32, 97, 110, 115, 119, 101, 114, 32]⟩).size = 16 + nd.length := by rw [ByteArray.size_append, e3]; show _ + 8 = _; omega
  generalize Y3 ++ ⟨#[32, 97, 110, 115, 119, 101, 114, 32]⟩ = Y4 at *
  have hA4 : ∀ W : World, Sem.run Tryd.prog (Op.stringOp .add Y4 ⟨ft.toArray⟩) W = .ok (.string (Y4 ++ ⟨ft.toArray⟩)) W := (add_run _ _ (by rw [e4, bsz ft]; omega))
  generalize Y4 ++ ⟨ft.toArray⟩ = Y5 at *
  generalize nmS 2 = NS at *
  clear e0 e1 e2 e3 e4 hln hfl
  cases hsq : (s == 1)
  all_goals
    go_enter Tryd.func5, Tryd.ntmps5
    go_wp2_with fail
    refine (HCK.out _ (alloc_below _ _)).mono ?_
    rintro e w1 ⟨rfl, hb1⟩
    have HR1 := Lib.hid ((hb1.block _ (by rw [alloc_size]; omega)).trans (heap_alloc_new w _))
    have HW1 := Lib.hid (below_alloc2 hb1)
    have hs1 : w.heap.size < w1.heap.size := by have := hb1.size; rw [alloc_size] at this; omega
    clear hb1
    obtain ⟨r0, r1, r2, r3, r4, r5, r6⟩ := cells7 HR1.out
    go_wp2_with fail
    refine (HX.out _ _ rfl).mono ?_
    rintro e w2 ⟨rfl, hb2⟩
    have HR2 := Lib.hid ((hb2.block _ hs1).trans HR1.out)
    have HW2 := Lib.hid (HW1.out.trans (hb2.mono HW1.out.size))
    have hs2 : w.heap.size < w2.heap.size := by have := hb2.size; omega
    clear hb2 r0 r1 r2 r3 r4 r5 r6
    have hb3 := alloc_below w2 (Obj.cells #[.string ⟨#[114, 101, 115, 121, 110, 99]⟩, .string ⟨#[105, 102, 115]⟩, .string ⟨#[97, 98, 111, 114, 116]⟩, .string ⟨#[119, 116, 120]⟩] 9)
    have HB3 := Lib.hid (HW2.out.trans (hb3.mono HW2.out.size))
    obtain ⟨z0, z1, z2, z3⟩ := cells4 (heap_alloc_new w2 (Obj.cells #[.string ⟨#[114, 101, 115, 121, 110, 99]⟩, .string ⟨#[105, 102, 115]⟩, .string ⟨#[97, 98, 111, 114, 116]⟩, .string ⟨#[119, 116, 120]⟩] 9))
    have HR3 := Lib.hid ((hb3.block _ hs2).trans HR2.out)
    obtain ⟨r0, r1, r2, r3, r4, r5, r6⟩ := cells7 HR2.out
    obtain ⟨q0, q1, q2, q3, q4, q5, q6⟩ := cells7 HR3.out
    clear hb3
    have hs3 : w.heap.size < (w2.alloc (Obj.cells #[.string ⟨#[114, 101, 115, 121, 110, 99]⟩, .string ⟨#[105, 102, 115]⟩, .string ⟨#[97, 98, 111, 114, 116]⟩, .string ⟨#[119, 116, 120]⟩] 9)).heap.size := by rw [alloc_size]; omega
    have hs4 : w2.heap.size < (w2.alloc (Obj.cells #[.string ⟨#[114, 101, 115, 121, 110, 99]⟩, .string ⟨#[105, 102, 115]⟩, .string ⟨#[97, 98, 111, 114, 116]⟩, .string ⟨#[119, 116, 120]⟩] 9)).heap.size := by rw [alloc_size]; omega
    go_wp2_with fail
    generalize w2.alloc (Obj.cells #[.string ⟨#[114, 101, 115, 121, 110, 99]⟩, .string ⟨#[105, 102, 115]⟩, .string ⟨#[97, 98, 111, 114, 116]⟩, .string ⟨#[119, 116, 120]⟩] 9) = W3 at *
    clear r0 r1 r2 r3 r4 r5 r6
    go_region_held3 (fun w' => w'.cell? ⟨w.heap.size, 4, none⟩ = some (.int .i64 2) ∧ w'.cell? ⟨w.heap.size, 6, none⟩ = some (.slice A l.length c) ∧ w'.cell? ⟨w2.heap.size, 2, none⟩ = some (.string ⟨#[97, 98, 111, 114, 116]⟩))
      (first | (go_keep; done) | exact ⟨q4, q6, z2⟩ | exact ⟨(hbx.cell (p := ⟨w.heap.size, 4, none⟩) hs3).trans q4, (hbx.cell (p := ⟨w.heap.size, 6, none⟩) hs3).trans q6, (hbx.cell (p := ⟨w2.heap.size, 2, none⟩) hs4).trans z2⟩)
      (first | (go_at_call 14; (with_reducible refine (HF.out _ (HB3.out.drew)).mono ?_); rintro e wx ⟨rfl, hbx⟩))
    go_wp2_with fail
    go_ret
    exact ⟨by rw [HEQ.out]; rfl, HB3.out.drew.trans (hbx.mono HB3.out.drew.size)⟩

set_option maxRecDepth 100000 in
set_option maxHeartbeats 3200000 in
theorem rtext_sup2r (nad s : Int) (m : Bool) (l : List UInt8) (v : Value) (w : World) (hv : SL w w.heap.size v l) (h : chkB ⟨nad, 2, s, m, 2, false, l⟩ = 0) :
    Calls Tryd.prog 5 #[Bk.val ⟨nad, 2, s, m, 2, false, l⟩ v] w fun e w' => e = .returned (.string ⟨(lineK nad (.sup 2 false) l).toArray⟩) ∧ Below w.heap.size w w' := by
  have HCK := Lib.hid (fun (W : World) (hW : Below w.heap.size w W) => rchk_any ⟨nad, 2, s, m, 2, false, l⟩ v W (hv.on hW))
  obtain ⟨q1, q2, q3, q4, _⟩ := chk_ok h
  have hlen : l.length ≤ 254 := infE_len q4
  have hw := nad_mod (show okNad nad = true from q1)
  have HX := Lib.hid (fun W o ho => rhex1 (UInt8.ofNat nad.toNat) _ hw W o ho)
  have HF := Lib.hid (fun (W : World) (hW : Below w.heap.size w W) => rinft_any l v W (hv.on hW) (by omega))
  have hfl : (infT l).length ≤ 1000 := by unfold infT; split; decide; (rw [hexL_length]; omega)
  rw [h] at HCK
  change Hid (∀ W o, o = Obj.cells #[.int .u8 (nad % 256)] 5 → Calls Tryd.prog 13 #[.slice (some ⟨W.heap.size, 0, none⟩) 1 1] (W.alloc o) fun e w' => e = .returned (.string ⟨(nadL nad).toArray⟩) ∧ Below W.heap.size W w') at HX
  have hln := nadL_len nad
  rw [line_sup]
  generalize nadL nad = nd at *
  generalize infT l = ft at *
  obtain ⟨A, c, rfl, _, _, _⟩ := hv
  simp only [Bk.val] at *
  clear h q1 q2 q3 q4 hlen hw
  have hA0 : ∀ W : World, Sem.run Tryd.prog (Op.stringOp .add ⟨#[32]⟩ ⟨nd.toArray⟩) W = .ok (.string (⟨#[32]⟩ ++ ⟨nd.toArray⟩)) W := (add_run _ _ (by rw [bsz nd]; show 1 + _ ≤ _; omega))
  have e0 : ((⟨#[32]⟩ : ByteArray) ++ ⟨nd.toArray⟩).size = 1 + nd.length := by rw [ByteArray.size_append, bsz nd]; rfl
  have hA00 : ∀ W : World, Sem.run Tryd.prog (Op.stringOp .add ((⟨#[32]⟩ : ByteArray) ++ ⟨nd.toArray⟩) ⟨#[32]⟩) W = .ok (.string ((⟨#[32]⟩ ++ ⟨nd.toArray⟩) ++ ⟨#[32]⟩)) W := (add_run _ _ (by rw [e0]; show _ + 1 ≤ _; omega))
  have e1 : ((⟨#[32]⟩ : ByteArray) ++ ⟨nd.toArray⟩ ++ ⟨#[32]⟩).size = 2 + nd.length := by rw [ByteArray.size_append, e0]; show 1 + nd.length + 1 = _; omega
  have HEQ : Hid ((⟨#[83]⟩ ++ ((⟨#[32]⟩ ++ ⟨nd.toArray⟩) ++ ⟨#[32]⟩) ++ ⟨#[97, 98, 111, 114, 116]⟩ ++ ⟨#[32, 114, 101, 113, 117, 101, 115, 116, 32]⟩ ++ ⟨ft.toArray⟩ : ByteArray) = ⟨(83 :: 32 :: (nd ++ (32 :: (nmS 2 ++ 32 :: (wdS false ++ 32 :: ft))))).toArray⟩) := by
    show _ = _
    apply ByteArray.ext
    simp [nmS, wdS]
  generalize (⟨#[32]⟩ : ByteArray) ++ ⟨nd.toArray⟩ = Y0 at *
  generalize Y0 ++ ⟨#[32]⟩ = Y1 at *
  have hA1 : ∀ W : World, Sem.run Tryd.prog (Op.stringOp .add ⟨#[83]⟩ Y1) W = .ok (.string (⟨#[83]⟩ ++ Y1)) W := (add_run _ _ (by rw [e1]; show 1 + _ ≤ _; omega))
  have e2 : ((⟨#[83]⟩ : ByteArray) ++ Y1).size = 3 + nd.length := by rw [ByteArray.size_append, e1]; show 1 + _ = _; omega
  generalize (⟨#[83]⟩ : ByteArray) ++ Y1 = Y2 at *
  have hA2 : ∀ W : World, Sem.run Tryd.prog (Op.stringOp .add Y2 ⟨#[97, 98, 111, 114, 116]⟩) W = .ok (.string (Y2 ++ ⟨#[97, 98, 111, 114, 116]⟩)) W := (add_run _ _ (by rw [e2]; show _ + 5 ≤ _; omega))
  have e3 : (Y2 ++ ⟨#[97, 98, 111, 114, 116]⟩).size = 8 + nd.length := by rw [ByteArray.size_append, e2]; show _ + 5 = _; omega
  generalize Y2 ++ ⟨#[97, 98, 111, 114, 116]⟩ = Y3 at *
  have hA3 : ∀ W : World, Sem.run Tryd.prog (Op.stringOp .add Y3 ⟨#[32, 114, 101, 113, 117, 101, 115, 116, 32]⟩) W = .ok (.string (Y3 ++ ⟨#[32, 114, 101, 113, 117, 101, 115, 116, 32]⟩)) W := (add_run _ _ (by rw [e3]; show _ + 9 ≤ _; omega))
  have e4 : (Y3 ++ ⟨#[32, 114, 101, 113, 117, 101, 115, 116, 32]⟩).size = 17 + nd.length := by rw [ByteArray.size_append, e3]; show _ + 9 = _; omega
  generalize Y3 ++ ⟨#[32, 114, 101, 113, 117, 101, 115, 116, 32]⟩ = Y4 at *
  have hA4 : ∀ W : World, Sem.run Tryd.prog (Op.stringOp .add Y4 ⟨ft.toArray⟩) W = .ok (.string (Y4 ++ ⟨ft.toArray⟩)) W := (add_run _ _ (by rw [e4, bsz ft]; omega))
  generalize Y4 ++ ⟨ft.toArray⟩ = Y5 at *
  generalize nmS 2 = NS at *
  clear e0 e1 e2 e3 e4 hln hfl
  cases hsq : (s == 1)
  all_goals
    go_enter Tryd.func5, Tryd.ntmps5
    go_wp2_with fail
    refine (HCK.out _ (alloc_below _ _)).mono ?_
    rintro e w1 ⟨rfl, hb1⟩
    have HR1 := Lib.hid ((hb1.block _ (by rw [alloc_size]; omega)).trans (heap_alloc_new w _))
    have HW1 := Lib.hid (below_alloc2 hb1)
    have hs1 : w.heap.size < w1.heap.size := by have := hb1.size; rw [alloc_size] at this; omega
    clear hb1
    obtain ⟨r0, r1, r2, r3, r4, r5, r6⟩ := cells7 HR1.out
    go_wp2_with fail
    refine (HX.out _ _ rfl).mono ?_
    rintro e w2 ⟨rfl, hb2⟩
    have HR2 := Lib.hid ((hb2.block _ hs1).trans HR1.out)
    have HW2 := Lib.hid (HW1.out.trans (hb2.mono HW1.out.size))
    have hs2 : w.heap.size < w2.heap.size := by have := hb2.size; omega
    clear hb2 r0 r1 r2 r3 r4 r5 r6
    have hb3 := alloc_below w2 (Obj.cells #[.string ⟨#[114, 101, 115, 121, 110, 99]⟩, .string ⟨#[105, 102, 115]⟩, .string ⟨#[97, 98, 111, 114, 116]⟩, .string ⟨#[119, 116, 120]⟩] 9)
    have HB3 := Lib.hid (HW2.out.trans (hb3.mono HW2.out.size))
    obtain ⟨z0, z1, z2, z3⟩ := cells4 (heap_alloc_new w2 (Obj.cells #[.string ⟨#[114, 101, 115, 121, 110, 99]⟩, .string ⟨#[105, 102, 115]⟩, .string ⟨#[97, 98, 111, 114, 116]⟩, .string ⟨#[119, 116, 120]⟩] 9))
    have HR3 := Lib.hid ((hb3.block _ hs2).trans HR2.out)
    obtain ⟨r0, r1, r2, r3, r4, r5, r6⟩ := cells7 HR2.out
    obtain ⟨q0, q1, q2, q3, q4, q5, q6⟩ := cells7 HR3.out
    clear hb3
    have hs3 : w.heap.size < (w2.alloc (Obj.cells #[.string ⟨#[114, 101, 115, 121, 110, 99]⟩, .string ⟨#[105, 102, 115]⟩, .string ⟨#[97, 98, 111, 114, 116]⟩, .string ⟨#[119, 116, 120]⟩] 9)).heap.size := by rw [alloc_size]; omega
    have hs4 : w2.heap.size < (w2.alloc (Obj.cells #[.string ⟨#[114, 101, 115, 121, 110, 99]⟩, .string ⟨#[105, 102, 115]⟩, .string ⟨#[97, 98, 111, 114, 116]⟩, .string ⟨#[119, 116, 120]⟩] 9)).heap.size := by rw [alloc_size]; omega
    go_wp2_with fail
    generalize w2.alloc (Obj.cells #[.string ⟨#[114, 101, 115, 121, 110, 99]⟩, .string ⟨#[105, 102, 115]⟩, .string ⟨#[97, 98, 111, 114, 116]⟩, .string ⟨#[119, 116, 120]⟩] 9) = W3 at *
    clear r0 r1 r2 r3 r4 r5 r6
    go_region_held3 (fun w' => w'.cell? ⟨w.heap.size, 4, none⟩ = some (.int .i64 2) ∧ w'.cell? ⟨w.heap.size, 6, none⟩ = some (.slice A l.length c) ∧ w'.cell? ⟨w2.heap.size, 2, none⟩ = some (.string ⟨#[97, 98, 111, 114, 116]⟩))
      (first | (go_keep; done) | exact ⟨q4, q6, z2⟩ | exact ⟨(hbx.cell (p := ⟨w.heap.size, 4, none⟩) hs3).trans q4, (hbx.cell (p := ⟨w.heap.size, 6, none⟩) hs3).trans q6, (hbx.cell (p := ⟨w2.heap.size, 2, none⟩) hs4).trans z2⟩)
      (first | (go_at_call 14; (with_reducible refine (HF.out _ (HB3.out.drew)).mono ?_); rintro e wx ⟨rfl, hbx⟩))
    go_wp2_with fail
    go_ret
    exact ⟨by rw [HEQ.out]; rfl, HB3.out.drew.trans (hbx.mono HB3.out.drew.size)⟩

set_option maxRecDepth 100000 in
set_option maxHeartbeats 3200000 in
theorem rtext_sup3a (nad s : Int) (m : Bool) (l : List UInt8) (v : Value) (w : World) (hv : SL w w.heap.size v l) (h : chkB ⟨nad, 2, s, m, 3, true, l⟩ = 0) :
    Calls Tryd.prog 5 #[Bk.val ⟨nad, 2, s, m, 3, true, l⟩ v] w fun e w' => e = .returned (.string ⟨(lineK nad (.sup 3 true) l).toArray⟩) ∧ Below w.heap.size w w' := by
  have HCK := Lib.hid (fun (W : World) (hW : Below w.heap.size w W) => rchk_any ⟨nad, 2, s, m, 3, true, l⟩ v W (hv.on hW))
  obtain ⟨q1, q2, q3, q4, _⟩ := chk_ok h
  have hlen : l.length ≤ 254 := infE_len q4
  have hw := nad_mod (show okNad nad = true from q1)
  have HX := Lib.hid (fun W o ho => rhex1 (UInt8.ofNat nad.toNat) _ hw W o ho)
  have HF := Lib.hid (fun (W : World) (hW : Below w.heap.size w W) => rinft_any l v W (hv.on hW) (by omega))
  have hfl : (infT l).length ≤ 1000 := by unfold infT; split; decide; (rw [hexL_length]; omega)
  rw [h] at HCK
  change Hid (∀ W o, o = Obj.cells #[.int .u8 (nad % 256)] 5 → Calls Tryd.prog 13 #[.slice (some ⟨W.heap.size, 0, none⟩) 1 1] (W.alloc o) fun e w' => e = .returned (.string ⟨(nadL nad).toArray⟩) ∧ Below W.heap.size W w') at HX
  have hln := nadL_len nad
  rw [line_sup]
  generalize nadL nad = nd at *
  generalize infT l = ft at *
  obtain ⟨A, c, rfl, _, _, _⟩ := hv
  simp only [Bk.val] at *
  clear h q1 q2 q3 q4 hlen hw
  have hA0 : ∀ W : World, Sem.run Tryd.prog (Op.stringOp .add ⟨#[32]⟩ ⟨nd.toArray⟩) W = .ok (.string (⟨#[32]⟩ ++ ⟨nd.toArray⟩)) W := (add_run _ _ (by rw [bsz nd]; show 1 + _ ≤ _; omega))
  have e0 : ((⟨#[32]⟩ : ByteArray) ++ ⟨nd.toArray⟩).size = 1 + nd.length := by rw [ByteArray.size_append, bsz nd]; rfl
  have hA00 : ∀ W : World, Sem.run Tryd.prog (Op.stringOp .add ((⟨#[32]⟩ : ByteArray) ++ ⟨nd.toArray⟩) ⟨#[32]⟩) W = .ok (.string ((⟨#[32]⟩ ++ ⟨nd.toArray⟩) ++ ⟨#[32]⟩)) W := (add_run _ _ (by rw [e0]; show _ + 1 ≤ _; omega))
  have e1 : ((⟨#[32]⟩ : ByteArray) ++ ⟨nd.toArray⟩ ++ ⟨#[32]⟩).size = 2 + nd.length := by rw [ByteArray.size_append, e0]; show 1 + nd.length + 1 = _; omega
  have HEQ : Hid ((⟨#[83]⟩ ++ ((⟨#[32]⟩ ++ ⟨nd.toArray⟩) ++ ⟨#[32]⟩) ++ ⟨#[119, 116, 120]⟩ ++ ⟨#[32, 97, 110, 115, 119, 101, 114, 32]⟩ ++ ⟨ft.toArray⟩ : ByteArray) = ⟨(83 :: 32 :: (nd ++ (32 :: (nmS 3 ++ 32 :: (wdS true ++ 32 :: ft))))).toArray⟩) := by
    show _ = _
    apply ByteArray.ext
    simp [nmS, wdS]
  generalize (⟨#[32]⟩ : ByteArray) ++ ⟨nd.toArray⟩ = Y0 at *
  generalize Y0 ++ ⟨#[32]⟩ = Y1 at *
  have hA1 : ∀ W : World, Sem.run Tryd.prog (Op.stringOp .add ⟨#[83]⟩ Y1) W = .ok (.string (⟨#[83]⟩ ++ Y1)) W := (add_run _ _ (by rw [e1]; show 1 + _ ≤ _; omega))
  have e2 : ((⟨#[83]⟩ : ByteArray) ++ Y1).size = 3 + nd.length := by rw [ByteArray.size_append, e1]; show 1 + _ = _; omega
  generalize (⟨#[83]⟩ : ByteArray) ++ Y1 = Y2 at *
  have hA2 : ∀ W : World, Sem.run Tryd.prog (Op.stringOp .add Y2 ⟨#[119, 116, 120]⟩) W = .ok (.string (Y2 ++ ⟨#[119, 116, 120]⟩)) W := (add_run _ _ (by rw [e2]; show _ + 3 ≤ _; omega))
  have e3 : (Y2 ++ ⟨#[119, 116, 120]⟩).size = 6 + nd.length := by rw [ByteArray.size_append, e2]; show _ + 3 = _; omega
  generalize Y2 ++ ⟨#[119, 116, 120]⟩ = Y3 at *
  have hA3 : ∀ W : World, Sem.run Tryd.prog (Op.stringOp .add Y3 ⟨#[32, 97, 110, 115, 119, 101, 114, 32]⟩) W = .ok (.string (Y3 ++ ⟨#[32, 97, 110, 115, 119, 101, 114, 32]⟩)) W := (add_run _ _ (by rw [e3]; show _ + 8 ≤ _; omega))
  have e4 : (Y3 ++ ⟨#[32, 97, 110, 115, 119, 101, 114, 32]⟩).size = 14 + nd.length := by rw [ByteArray.size_append, e3]; show _ + 8 = _; omega
  generalize Y3 ++ ⟨#[32, 97, 110, 115, 119, 101, 114, 32]⟩ = Y4 at *
  have hA4 : ∀ W : World, Sem.run Tryd.prog (Op.stringOp .add Y4 ⟨ft.toArray⟩) W = .ok (.string (Y4 ++ ⟨ft.toArray⟩)) W := (add_run _ _ (by rw [e4, bsz ft]; omega))
  generalize Y4 ++ ⟨ft.toArray⟩ = Y5 at *
  generalize nmS 3 = NS at *
  clear e0 e1 e2 e3 e4 hln hfl
  cases hsq : (s == 1)
  all_goals
    go_enter Tryd.func5, Tryd.ntmps5
    go_wp2_with fail
    refine (HCK.out _ (alloc_below _ _)).mono ?_
    rintro e w1 ⟨rfl, hb1⟩
    have HR1 := Lib.hid ((hb1.block _ (by rw [alloc_size]; omega)).trans (heap_alloc_new w _))
    have HW1 := Lib.hid (below_alloc2 hb1)
    have hs1 : w.heap.size < w1.heap.size := by have := hb1.size; rw [alloc_size] at this; omega
    clear hb1
    obtain ⟨r0, r1, r2, r3, r4, r5, r6⟩ := cells7 HR1.out
    go_wp2_with fail
    refine (HX.out _ _ rfl).mono ?_
    rintro e w2 ⟨rfl, hb2⟩
    have HR2 := Lib.hid ((hb2.block _ hs1).trans HR1.out)
    have HW2 := Lib.hid (HW1.out.trans (hb2.mono HW1.out.size))
    have hs2 : w.heap.size < w2.heap.size := by have := hb2.size; omega
    clear hb2 r0 r1 r2 r3 r4 r5 r6
    have hb3 := alloc_below w2 (Obj.cells #[.string ⟨#[114, 101, 115, 121, 110, 99]⟩, .string ⟨#[105, 102, 115]⟩, .string ⟨#[97, 98, 111, 114, 116]⟩, .string ⟨#[119, 116, 120]⟩] 9)
    have HB3 := Lib.hid (HW2.out.trans (hb3.mono HW2.out.size))
    obtain ⟨z0, z1, z2, z3⟩ := cells4 (heap_alloc_new w2 (Obj.cells #[.string ⟨#[114, 101, 115, 121, 110, 99]⟩, .string ⟨#[105, 102, 115]⟩, .string ⟨#[97, 98, 111, 114, 116]⟩, .string ⟨#[119, 116, 120]⟩] 9))
    have HR3 := Lib.hid ((hb3.block _ hs2).trans HR2.out)
    obtain ⟨r0, r1, r2, r3, r4, r5, r6⟩ := cells7 HR2.out
    obtain ⟨q0, q1, q2, q3, q4, q5, q6⟩ := cells7 HR3.out
    clear hb3
    have hs3 : w.heap.size < (w2.alloc (Obj.cells #[.string ⟨#[114, 101, 115, 121, 110, 99]⟩, .string ⟨#[105, 102, 115]⟩, .string ⟨#[97, 98, 111, 114, 116]⟩, .string ⟨#[119, 116, 120]⟩] 9)).heap.size := by rw [alloc_size]; omega
    have hs4 : w2.heap.size < (w2.alloc (Obj.cells #[.string ⟨#[114, 101, 115, 121, 110, 99]⟩, .string ⟨#[105, 102, 115]⟩, .string ⟨#[97, 98, 111, 114, 116]⟩, .string ⟨#[119, 116, 120]⟩] 9)).heap.size := by rw [alloc_size]; omega
    go_wp2_with fail
    generalize w2.alloc (Obj.cells #[.string ⟨#[114, 101, 115, 121, 110, 99]⟩, .string ⟨#[105, 102, 115]⟩, .string ⟨#[97, 98, 111, 114, 116]⟩, .string ⟨#[119, 116, 120]⟩] 9) = W3 at *
    clear r0 r1 r2 r3 r4 r5 r6
    go_region_held3 (fun w' => w'.cell? ⟨w.heap.size, 4, none⟩ = some (.int .i64 3) ∧ w'.cell? ⟨w.heap.size, 6, none⟩ = some (.slice A l.length c) ∧ w'.cell? ⟨w2.heap.size, 3, none⟩ = some (.string ⟨#[119, 116, 120]⟩))
      (first | (go_keep; done) | exact ⟨q4, q6, z3⟩ | exact ⟨(hbx.cell (p := ⟨w.heap.size, 4, none⟩) hs3).trans q4, (hbx.cell (p := ⟨w.heap.size, 6, none⟩) hs3).trans q6, (hbx.cell (p := ⟨w2.heap.size, 3, none⟩) hs4).trans z3⟩)
      (first | (go_at_call 14; (with_reducible refine (HF.out _ (HB3.out.drew)).mono ?_); rintro e wx ⟨rfl, hbx⟩))
    go_wp2_with fail
    go_ret
    exact ⟨by rw [HEQ.out]; rfl, HB3.out.drew.trans (hbx.mono HB3.out.drew.size)⟩

set_option maxRecDepth 100000 in
set_option maxHeartbeats 3200000 in
theorem rtext_sup3r (nad s : Int) (m : Bool) (l : List UInt8) (v : Value) (w : World) (hv : SL w w.heap.size v l) (h : chkB ⟨nad, 2, s, m, 3, false, l⟩ = 0) :
    Calls Tryd.prog 5 #[Bk.val ⟨nad, 2, s, m, 3, false, l⟩ v] w fun e w' => e = .returned (.string ⟨(lineK nad (.sup 3 false) l).toArray⟩) ∧ Below w.heap.size w w' := by
  have HCK := Lib.hid (fun (W : World) (hW : Below w.heap.size w W) => rchk_any ⟨nad, 2, s, m, 3, false, l⟩ v W (hv.on hW))
  obtain ⟨q1, q2, q3, q4, _⟩ := chk_ok h
  have hlen : l.length ≤ 254 := infE_len q4
  have hw := nad_mod (show okNad nad = true from q1)
  have HX := Lib.hid (fun W o ho => rhex1 (UInt8.ofNat nad.toNat) _ hw W o ho)
  have HF := Lib.hid (fun (W : World) (hW : Below w.heap.size w W) => rinft_any l v W (hv.on hW) (by omega))
  have hfl : (infT l).length ≤ 1000 := by unfold infT; split; decide; (rw [hexL_length]; omega)
  rw [h] at HCK
  change Hid (∀ W o, o = Obj.cells #[.int .u8 (nad % 256)] 5 → Calls Tryd.prog 13 #[.slice (some ⟨W.heap.size, 0, none⟩) 1 1] (W.alloc o) fun e w' => e = .returned (.string ⟨(nadL nad).toArray⟩) ∧ Below W.heap.size W w') at HX
  have hln := nadL_len nad
  rw [line_sup]
  generalize nadL nad = nd at *
  generalize infT l = ft at *
  obtain ⟨A, c, rfl, _, _, _⟩ := hv
  simp only [Bk.val] at *
  clear h q1 q2 q3 q4 hlen hw
  have hA0 : ∀ W : World, Sem.run Tryd.prog (Op.stringOp .add ⟨#[32]⟩ ⟨nd.toArray⟩) W = .ok (.string (⟨#[32]⟩ ++ ⟨nd.toArray⟩)) W := (add_run _ _ (by rw [bsz nd]; show 1 + _ ≤ _; omega))
  have e0 : ((⟨#[32]⟩ : ByteArray) ++ ⟨nd.toArray⟩).size = 1 + nd.length := by rw [ByteArray.size_append, bsz nd]; rfl
  have hA00 : ∀ W : World, Sem.run Tryd.prog (Op.stringOp .add ((⟨#[32]⟩ : ByteArray) ++ ⟨nd.toArray⟩) ⟨#[32]⟩) W = .ok (.string ((⟨#[32]⟩ ++ ⟨nd.toArray⟩) ++ ⟨#[32]⟩)) W := (add_run _ _ (by rw [e0]; show _ + 1 ≤ _; omega))
  have e1 : ((⟨#[32]⟩ : ByteArray) ++ ⟨nd.toArray⟩ ++ ⟨#[32]⟩).size = 2 + nd.length := by rw [ByteArray.size_append, e0]; show 1 + nd.length + 1 = _; omega
  have HEQ : Hid ((⟨#[83]⟩ ++ ((⟨#[32]⟩ ++ ⟨nd.toArray⟩) ++ ⟨#[32]⟩) ++ ⟨#[119, 116, 120]⟩ ++ ⟨#[32, 114, 101, 113, 117, 101, 115, 116, 32]⟩ ++ ⟨ft.toArray⟩ : ByteArray) = ⟨(83 :: 32 :: (nd ++ (32 :: (nmS 3 ++ 32 :: (wdS false ++ 32 :: ft))))).toArray⟩) := by
    show _ = _
    apply ByteArray.ext
    simp [nmS, wdS]
  generalize (⟨#[32]⟩ : ByteArray) ++ ⟨nd.toArray⟩ = Y0 at *
  generalize Y0 ++ ⟨#[32]⟩ = Y1 at *
  have hA1 : ∀ W : World, Sem.run Tryd.prog (Op.stringOp .add ⟨#[83]⟩ Y1) W = .ok (.string (⟨#[83]⟩ ++ Y1)) W := (add_run _ _ (by rw [e1]; show 1 + _ ≤ _; omega))
  have e2 : ((⟨#[83]⟩ : ByteArray) ++ Y1).size = 3 + nd.length := by rw [ByteArray.size_append, e1]; show 1 + _ = _; omega
  generalize (⟨#[83]⟩ : ByteArray) ++ Y1 = Y2 at *
  have hA2 : ∀ W : World, Sem.run Tryd.prog (Op.stringOp .add Y2 ⟨#[119, 116, 120]⟩) W = .ok (.string (Y2 ++ ⟨#[119, 116, 120]⟩)) W := (add_run _ _ (by rw [e2]; show _ + 3 ≤ _; omega))
  have e3 : (Y2 ++ ⟨#[119, 116, 120]⟩).size = 6 + nd.length := by rw [ByteArray.size_append, e2]; show _ + 3 = _; omega
  generalize Y2 ++ ⟨#[119, 116, 120]⟩ = Y3 at *
  have hA3 : ∀ W : World, Sem.run Tryd.prog (Op.stringOp .add Y3 ⟨#[32, 114, 101, 113, 117, 101, 115, 116, 32]⟩) W = .ok (.string (Y3 ++ ⟨#[32, 114, 101, 113, 117, 101, 115, 116, 32]⟩)) W := (add_run _ _ (by rw [e3]; show _ + 9 ≤ _; omega))
  have e4 : (Y3 ++ ⟨#[32, 114, 101, 113, 117, 101, 115, 116, 32]⟩).size = 15 + nd.length := by rw [ByteArray.size_append, e3]; show _ + 9 = _; omega
  generalize Y3 ++ ⟨#[32, 114, 101, 113, 117, 101, 115, 116, 32]⟩ = Y4 at *
  have hA4 : ∀ W : World, Sem.run Tryd.prog (Op.stringOp .add Y4 ⟨ft.toArray⟩) W = .ok (.string (Y4 ++ ⟨ft.toArray⟩)) W := (add_run _ _ (by rw [e4, bsz ft]; omega))
  generalize Y4 ++ ⟨ft.toArray⟩ = Y5 at *
  generalize nmS 3 = NS at *
  clear e0 e1 e2 e3 e4 hln hfl
  cases hsq : (s == 1)
  all_goals
    go_enter Tryd.func5, Tryd.ntmps5
    go_wp2_with fail
    refine (HCK.out _ (alloc_below _ _)).mono ?_
    rintro e w1 ⟨rfl, hb1⟩
    have HR1 := Lib.hid ((hb1.block _ (by rw [alloc_size]; omega)).trans (heap_alloc_new w _))
    have HW1 := Lib.hid (below_alloc2 hb1)
    have hs1 : w.heap.size < w1.heap.size := by have := hb1.size; rw [alloc_size] at this; omega
    clear hb1
    obtain ⟨r0, r1, r2, r3, r4, r5, r6⟩ := cells7 HR1.out
    go_wp2_with fail
    refine (HX.out _ _ rfl).mono ?_
    rintro e w2 ⟨rfl, hb2⟩
    have HR2 := Lib.hid ((hb2.block _ hs1).trans HR1.out)
    have HW2 := Lib.hid (HW1.out.trans (hb2.mono HW1.out.size))
    have hs2 : w.heap.size < w2.heap.size := by have := hb2.size; omega
    clear hb2 r0 r1 r2 r3 r4 r5 r6
    have hb3 := alloc_below w2 (Obj.cells #[.string ⟨#[114, 101, 115, 121, 110, 99]⟩, .string ⟨#[105, 102, 115]⟩, .string ⟨#[97, 98, 111, 114, 116]⟩, .string ⟨#[119, 116, 120]⟩] 9)
    have HB3 := Lib.hid (HW2.out.trans (hb3.mono HW2.out.size))
    obtain ⟨z0, z1, z2, z3⟩ := cells4 (heap_alloc_new w2 (Obj.cells #[.string ⟨#[114, 101, 115, 121, 110, 99]⟩, .string ⟨#[105, 102, 115]⟩, .string ⟨#[97, 98, 111, 114, 116]⟩, .string ⟨#[119, 116, 120]⟩] 9))
    have HR3 := Lib.hid ((hb3.block _ hs2).trans HR2.out)
    obtain ⟨r0, r1, r2, r3, r4, r5, r6⟩ := cells7 HR2.out
    obtain ⟨q0, q1, q2, q3, q4, q5, q6⟩ := cells7 HR3.out
    clear hb3
    have hs3 : w.heap.size < (w2.alloc (Obj.cells #[.string ⟨#[114, 101, 115, 121, 110, 99]⟩, .string ⟨#[105, 102, 115]⟩, .string ⟨#[97, 98, 111, 114, 116]⟩, .string ⟨#[119, 116, 120]⟩] 9)).heap.size := by rw [alloc_size]; omega
    have hs4 : w2.heap.size < (w2.alloc (Obj.cells #[.string ⟨#[114, 101, 115, 121, 110, 99]⟩, .string ⟨#[105, 102, 115]⟩, .string ⟨#[97, 98, 111, 114, 116]⟩, .string ⟨#[119, 116, 120]⟩] 9)).heap.size := by rw [alloc_size]; omega
    go_wp2_with fail
    generalize w2.alloc (Obj.cells #[.string ⟨#[114, 101, 115, 121, 110, 99]⟩, .string ⟨#[105, 102, 115]⟩, .string ⟨#[97, 98, 111, 114, 116]⟩, .string ⟨#[119, 116, 120]⟩] 9) = W3 at *
    clear r0 r1 r2 r3 r4 r5 r6
    go_region_held3 (fun w' => w'.cell? ⟨w.heap.size, 4, none⟩ = some (.int .i64 3) ∧ w'.cell? ⟨w.heap.size, 6, none⟩ = some (.slice A l.length c) ∧ w'.cell? ⟨w2.heap.size, 3, none⟩ = some (.string ⟨#[119, 116, 120]⟩))
      (first | (go_keep; done) | exact ⟨q4, q6, z3⟩ | exact ⟨(hbx.cell (p := ⟨w.heap.size, 4, none⟩) hs3).trans q4, (hbx.cell (p := ⟨w.heap.size, 6, none⟩) hs3).trans q6, (hbx.cell (p := ⟨w2.heap.size, 3, none⟩) hs4).trans z3⟩)
      (first | (go_at_call 14; (with_reducible refine (HF.out _ (HB3.out.drew)).mono ?_); rintro e wx ⟨rfl, hbx⟩))
    go_wp2_with fail
    go_ret
    exact ⟨by rw [HEQ.out]; rfl, HB3.out.drew.trans (hbx.mono HB3.out.drew.size)⟩

theorem rtext_sup (nad s code : Int) (m ans : Bool) (l : List UInt8) (v : Value) (w : World) (hv : SL w w.heap.size v l) (h : chkB ⟨nad, 2, s, m, code, ans, l⟩ = 0) :
    Calls Tryd.prog 5 #[Bk.val ⟨nad, 2, s, m, code, ans, l⟩ v] w fun e w' => e = .returned (.string ⟨(lineK nad (.sup code ans) l).toArray⟩) ∧ Below w.heap.size w w' := by
  have q2 := (chk_ok h).2.1
  rcases sc_cases q2 with rfl | rfl | rfl | rfl <;> cases ans
  · exact rtext_sup0r nad s m l v w hv h
  · exact rtext_sup0a nad s m l v w hv h
  · exact rtext_sup1r nad s m l v w hv h
  · exact rtext_sup1a nad s m l v w hv h
  · exact rtext_sup2r nad s m l v w hv h
  · exact rtext_sup2a nad s m l v w hv h
  · exact rtext_sup3r nad s m l v w hv h
  · exact rtext_sup3a nad s m l v w hv h
end Go.Proofs.YtijiggfeamibkaaDoor
