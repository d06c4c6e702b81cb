/-
  The text of a block (the reference's).
-/
import Derived.Test.YtijiggfeamibkaaDoorBtc
namespace Go.Proofs.YtijiggfeamibkaaDoor
set_option linter.unusedVariables false
set_option linter.unusedSimpArgs false
open Go.RowKit

theorem rinft_any (l : List UInt8) (v : Value) (w : World) (hl : SL w w.heap.size v l) (hs : l.length ≤ 300) : Calls Tryd.prog 14 #[v] w fun e w' => e = .returned (.string ⟨(infT l).toArray⟩) ∧ Below w.heap.size w w' := by
  have HX := Lib.hid (rhex_any l v w w.heap.size hl (by omega))
  obtain ⟨A, c, rfl, h1, h2, h3⟩ := hl
  clear h3
  unfold infT
  by_cases h0 : l = []
  · rw [if_pos h0]
    have e0 : ((l.length : Int) == 0) = true := by rw [h0]; rfl
    go_enter Tryd.func14, Tryd.ntmps14
    go_wp2_with fail
    go_ret
    exact ⟨rfl, Below.refl _ _⟩
  · rw [if_neg h0]
    have e0 : ((l.length : Int) == 0) = false := by
      have : l.length ≠ 0 := fun h => h0 (List.eq_nil_of_length_eq_zero h)
      rw [beq_eq_false_iff_ne]; omega
    generalize hexL l = r at *
    go_enter Tryd.func14, Tryd.ntmps14
    go_wp2_with fail
    refine HX.out.mono ?_
    rintro e w1 ⟨rfl, n, rfl⟩
    go_wp2_with fail
    go_ret
    exact ⟨rfl, drewN_below _ _ _⟩
theorem rhex1 (x : UInt8) (z : Int) (hz : z = (x.toNat : Int)) (W : World) (o : Obj) (ho : o = .cells #[.int .u8 z] 5) :
    Calls Tryd.prog 13 #[.slice (some ⟨W.heap.size, 0, none⟩) 1 1] (W.alloc o) fun e w' => e = .returned (.string ⟨(hexL [x]).toArray⟩) ∧ Below W.heap.size W w' := by
  subst ho hz
  have h := OB.of_cells (Nat.le_refl _) (show [x].length = 1 from rfl) (by unfold maxLen; omega) (heap_alloc_new W (.cells ([x].map bv).toArray 5))
  refine (rhex_any [x] _ _ _ h.sl (by simp)).mono fun e w' ⟨h1, n, h2⟩ => ⟨h1, ?_⟩
  subst h2
  exact below_drewN (alloc_below W _) n
theorem nad_mod {n : Int} (h : okNad n = true) : n % 256 = ((UInt8.ofNat n.toNat).toNat : Int) := by
  simp only [okNad, Bool.and_eq_true, decide_eq_true_eq] at h
  rw [byte_toNat (show n.toNat < 256 by omega)]
  omega
theorem ls (a b : List UInt8) : (⟨a.toArray⟩ : ByteArray) ++ ⟨b.toArray⟩ = ⟨(a ++ b).toArray⟩ := by
  apply ByteArray.ext
  simp

set_option maxRecDepth 100000 in
set_option maxHeartbeats 1600000 in
theorem rtext_err (b : Bk) (v : Value) (w : World) (hv : SL w w.heap.size v b.inf) (h : chkB b ≠ 0) :
    Calls Tryd.prog 5 #[b.val v] w fun e w' => e = .returned (.string ⟨#[]⟩) ∧ Below w.heap.size w w' := by
  have HCK := Lib.hid (fun (W : World) (hW : Below w.heap.size w W) => rchk_any b v W (hv.on hW))
  have hn : (chkB b != 0) = true := by simp [h]
  generalize chkB b = E at *
  obtain ⟨A, c, rfl, _, _, _⟩ := hv
  obtain ⟨nad, kind, s, m, code, ans, l⟩ := b
  simp only [Bk.val] at *
  clear h
  go_enter Tryd.func5, Tryd.ntmps5
  go_wp2_with fail
  refine (HCK.out _ (alloc_below _ _)).mono ?_
  rintro e w1 ⟨rfl, hb1⟩
  go_wp2_with fail
  go_ret
  exact ⟨rfl, below_alloc2 hb1⟩

set_option maxRecDepth 100000 in
set_option maxHeartbeats 1600000 in
theorem rtext_inf (nad s code : Int) (m ans : Bool) (l : List UInt8) (v : Value) (w : World) (hv : SL w w.heap.size v l) (h : chkB ⟨nad, 0, s, m, code, ans, l⟩ = 0) :
    Calls Tryd.prog 5 #[Bk.val ⟨nad, 0, s, m, code, ans, l⟩ v] w fun e w' => e = .returned (.string ⟨(lineK nad (.inf s m) l).toArray⟩) ∧ Below w.heap.size w w' := by
  have HCK := Lib.hid (fun (W : World) (hW : Below w.heap.size w W) => rchk_any ⟨nad, 0, s, m, code, ans, l⟩ v W (hv.on hW))
  obtain ⟨q1, q2, q3, q4, _⟩ := chk_ok h
  have hlen : l.length ≤ 254 := infE_len q4
  have hw := nad_mod (show okNad nad = true from q1)
  have HX := Lib.hid (fun W o ho => rhex1 (UInt8.ofNat nad.toNat) _ hw W o ho)
  have HF := Lib.hid (fun (W : World) (hW : Below w.heap.size w W) => rinft_any l v W (hv.on hW) (by omega))
  have hfl : (infT l).length ≤ 1000 := by unfold infT; split; decide; (rw [hexL_length]; omega)
  rw [h] at HCK
  change Hid (∀ W o, o = Obj.cells #[.int .u8 (nad % 256)] 5 → Calls Tryd.prog 13 #[.slice (some ⟨W.heap.size, 0, none⟩) 1 1] (W.alloc o) fun e w' => e = .returned (.string ⟨(nadL nad).toArray⟩) ∧ Below W.heap.size W w') at HX
  have HND := Lib.hid (nadL_len nad)
  rw [line_inf]
  generalize nadL nad = nd at *
  generalize infT l = ft at *
  obtain ⟨A, c, rfl, _, _, _⟩ := hv
  have HS : Hid (s = 0 ∨ s = 1) := bit_cases q2
  simp only [Bk.val] at *
  clear h q1 q2 q3 q4 hlen hw
  have hln := HND.out
  rcases HS.out with rfl | rfl <;> cases m
  all_goals
    go_enter Tryd.func5, Tryd.ntmps5
    go_wp2_with fail
    refine (HCK.out _ (alloc_below _ _)).mono ?_
    rintro e w1 ⟨rfl, hb1⟩
    have HR1 := Lib.hid ((hb1.block _ (by rw [alloc_size]; omega)).trans (heap_alloc_new w _))
    have HW1 := Lib.hid (below_alloc2 hb1)
    have hs1 : w.heap.size < w1.heap.size := by have := hb1.size; rw [alloc_size] at this; omega
    clear hb1
    obtain ⟨r0, r1, r2, r3, r4, r5, r6⟩ := cells7 HR1.out
    go_wp2_with fail
    refine (HX.out _ _ rfl).mono ?_
    rintro e w2 ⟨rfl, hb2⟩
    have HR2 := Lib.hid ((hb2.block _ hs1).trans HR1.out)
    have HW2 := Lib.hid (HW1.out.trans (hb2.mono HW1.out.size))
    have hs2 : w.heap.size < w2.heap.size := by have := hb2.size; omega
    clear hb2 r0 r1 r2 r3 r4 r5 r6
    obtain ⟨r0, r1, r2, r3, r4, r5, r6⟩ := cells7 HR2.out
    have HF2 := Lib.hid (HF.out _ HW2.out)
    go_wp2_with (go_at_call 14; refine HF2.out.mono ?_; rintro e w3 ⟨rfl, hb3⟩)
  all_goals
    go_ret
    refine ⟨?_, HW2.out.trans (hb3.mono HW2.out.size)⟩
    show Ending.returned (Value.string _) = Ending.returned (Value.string _)
    refine congrArg _ (congrArg _ ?_)
    apply ByteArray.ext
    simp [decF, wdI]
set_option maxRecDepth 100000 in
set_option maxHeartbeats 1600000 in
theorem rtext_rdy (nad s code : Int) (m ans : Bool) (l : List UInt8) (v : Value) (w : World) (hv : SL w w.heap.size v l) (h : chkB ⟨nad, 1, s, m, code, ans, l⟩ = 0) :
    Calls Tryd.prog 5 #[Bk.val ⟨nad, 1, s, m, code, ans, l⟩ v] w fun e w' => e = .returned (.string ⟨(lineK nad (.rdy s code) l).toArray⟩) ∧ Below w.heap.size w w' := by
  have HCK := Lib.hid (fun (W : World) (hW : Below w.heap.size w W) => rchk_any ⟨nad, 1, s, m, code, ans, l⟩ v W (hv.on hW))
  obtain ⟨q1, q2, q3, q4, _⟩ := chk_ok h
  have hlen : l.length ≤ 254 := infE_len q4
  have hw := nad_mod (show okNad nad = true from q1)
  have HX := Lib.hid (fun W o ho => rhex1 (UInt8.ofNat nad.toNat) _ hw W o ho)
  have HF := Lib.hid (fun (W : World) (hW : Below w.heap.size w W) => rinft_any l v W (hv.on hW) (by omega))
  have hfl : (infT l).length ≤ 1000 := by unfold infT; split; decide; (rw [hexL_length]; omega)
  rw [h] at HCK
  change Hid (∀ W o, o = Obj.cells #[.int .u8 (nad % 256)] 5 → Calls Tryd.prog 13 #[.slice (some ⟨W.heap.size, 0, none⟩) 1 1] (W.alloc o) fun e w' => e = .returned (.string ⟨(nadL nad).toArray⟩) ∧ Below W.heap.size W w') at HX
  have HND := Lib.hid (nadL_len nad)
  rw [line_rdy]
  generalize nadL nad = nd at *
  generalize infT l = ft at *
  obtain ⟨A, c, rfl, _, _, _⟩ := hv
  have q2' : (isBit s && isRc code) = true := q2
  rw [Bool.and_eq_true] at q2'
  have HS : Hid (s = 0 ∨ s = 1) := bit_cases q2'.1
  have HS2 : Hid (code = 0 ∨ code = 1 ∨ code = 2) := rc_cases q2'.2
  simp only [Bk.val] at *
  clear h q1 q2 q2' q3 q4 hlen hw
  have hln := HND.out
  rcases HS.out with rfl | rfl <;> rcases HS2.out with rfl | rfl | rfl
  all_goals
    go_enter Tryd.func5, Tryd.ntmps5
    go_wp2_with fail
    refine (HCK.out _ (alloc_below _ _)).mono ?_
    rintro e w1 ⟨rfl, hb1⟩
    have HR1 := Lib.hid ((hb1.block _ (by rw [alloc_size]; omega)).trans (heap_alloc_new w _))
    have HW1 := Lib.hid (below_alloc2 hb1)
    have hs1 : w.heap.size < w1.heap.size := by have := hb1.size; rw [alloc_size] at this; omega
    clear hb1
    obtain ⟨r0, r1, r2, r3, r4, r5, r6⟩ := cells7 HR1.out
    go_wp2_with fail
    refine (HX.out _ _ rfl).mono ?_
    rintro e w2 ⟨rfl, hb2⟩
    have HR2 := Lib.hid ((hb2.block _ hs1).trans HR1.out)
    have HW2 := Lib.hid (HW1.out.trans (hb2.mono HW1.out.size))
    have hs2 : w.heap.size < w2.heap.size := by have := hb2.size; omega
    clear hb2 r0 r1 r2 r3 r4 r5 r6
    obtain ⟨r0, r1, r2, r3, r4, r5, r6⟩ := cells7 HR2.out
    go_wp2_with fail
  all_goals
    go_ret
    refine ⟨?_, by first | exact HW2.out | exact HW2.out.alloc HW2.out.size _⟩
    show Ending.returned (Value.string _) = Ending.returned (Value.string _)
    refine congrArg _ (congrArg _ ?_)
    apply ByteArray.ext
    simp [decF, nmR]
end Go.Proofs.YtijiggfeamibkaaDoor
