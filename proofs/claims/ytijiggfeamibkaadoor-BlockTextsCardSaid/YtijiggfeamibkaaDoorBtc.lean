/-
  The text of a block (the program's).
-/
import Derived.Test.YtijiggfeamibkaaDoorBtb
namespace Go.Proofs.YtijiggfeamibkaaDoor
set_option linter.unusedVariables false
set_option linter.unusedSimpArgs false
open Go.RowKit

theorem mt_line_46 (v : Value) (w : World) : (method 214 46 v "smartcard/block.line").run Tryd.prog w = .ok (53, v) w := by kernel_rfl
theorem mt_line_48 (v : Value) (w : World) : (method 214 48 v "smartcard/block.line").run Tryd.prog w = .ok (82, v) w := by kernel_rfl
theorem mt_line_50 (v : Value) (w : World) : (method 214 50 v "smartcard/block.line").run Tryd.prog w = .ok (88, v) w := by kernel_rfl
theorem na_line_46 (x y : Value) (w : World) : (nilAhead 214 46 (.agg #[x, y]) "smartcard/block.line").run Tryd.prog w = .ok (some false) w := by kernel_rfl
theorem na_line_48 (x y : Value) (w : World) : (nilAhead 214 48 (.agg #[x, y]) "smartcard/block.line").run Tryd.prog w = .ok (some false) w := by kernel_rfl
theorem na_line_50 (x y : Value) (w : World) : (nilAhead 214 50 (.agg #[x, y]) "smartcard/block.line").run Tryd.prog w = .ok (some false) w := by kernel_rfl
/-- A byte in a block of its own, as digits. -/
theorem hex1 (x : UInt8) (z : Int) (hz : z = (x.toNat : Int)) (W : World) (o : Obj) (ho : o = .cells #[.int .u8 z] 5) :
    Calls Tryd.prog 10 #[.slice (some ⟨W.heap.size, 0, none⟩) 1 1] (W.alloc o) fun e w' => e = .returned (.string ⟨(hexL [x]).toArray⟩) ∧ Below W.heap.size W w' := by
  subst ho hz
  have h := OB.of_cells (Nat.le_refl _) (show [x].length = 1 from rfl) (by unfold maxLen; omega) (heap_alloc_new W (.cells ([x].map bv).toArray 5))
  exact (phex_any [x] _ _ h.sl (by simp)).mono fun e w' ⟨h1, h2⟩ => ⟨h1, below_alloc2 h2⟩
theorem hex1d (x : UInt8) (z : Int) (hz : z = (x.toNat : Int)) (W : World) (o : Obj) (ho : o = .cells #[.int .u8 z] 5) :
    Calls Tryd.prog 10 #[.slice (some ⟨W.heap.size, 0, none⟩) 1 1] (W.alloc o).drew fun e w' => e = .returned (.string ⟨(hexL [x]).toArray⟩) ∧ Below W.heap.size W w' := by
  subst ho hz
  have h := OB.of_cells (Nat.le_refl _) (show [x].length = 1 from rfl) (by unfold maxLen; omega) (heap_alloc_new W (.cells ([x].map bv).toArray 5))
  have hs : SL (W.alloc (.cells ([x].map bv).toArray 5)).drew (W.alloc (.cells ([x].map bv).toArray 5)).drew.heap.size (.slice (some ⟨W.heap.size, 0, none⟩) 1 1) [x] := h.sl
  have hb := (alloc_below W (.cells ([x].map bv).toArray 5)).drew
  exact (phex_any [x] _ _ hs (by simp)).mono fun e w' ⟨h1, h2⟩ => ⟨h1, hb.trans (h2.mono hb.size)⟩
theorem nad_wrap {n : Int} (h : okNad n = true) : IntKind.u8.wrap n = ((UInt8.ofNat n.toNat).toNat : Int) := by
  simp only [okNad, Bool.and_eq_true, decide_eq_true_eq] at h
  rw [byte_toNat (show n.toNat < 256 by omega), IntWalk.u8_in _ (by omega)]
  omega

set_option maxRecDepth 100000 in
set_option maxHeartbeats 1600000 in
theorem ptext_err (b : Bk) (v : Value) (w : World) (hv : SL w w.heap.size v b.inf) (h : chkB b ≠ 0) :
    Calls Tryd.prog 4 #[b.val v] w fun e w' => e = .returned (.string ⟨#[]⟩) ∧ Below w.heap.size w w' := by
  have HCK := Lib.hid (fun (W : World) (hW : Below w.heap.size w W) => pchk_any b v W (hv.on hW))
  have hn : (chkB b != 0) = true := by simp [h]
  generalize chkB b = E at *
  obtain ⟨A, c, rfl, _, _, _⟩ := hv
  obtain ⟨nad, kind, s, m, code, ans, l⟩ := b
  simp only [Bk.val] at *
  clear h
  go_enter Tryd.func4, Tryd.ntmps4
  go_wp2_with fail
  refine (HCK.out _ (alloc_below _ _)).mono ?_
  rintro e w1 ⟨rfl, hb1⟩
  go_wp2_with fail
  go_ret
  exact ⟨rfl, below_alloc2 hb1⟩

set_option maxRecDepth 100000 in
set_option maxHeartbeats 1600000 in
theorem ptext_inf (nad s code : Int) (m ans : Bool) (l : List UInt8) (v : Value) (w : World) (hv : SL w w.heap.size v l) (h : chkB ⟨nad, 0, s, m, code, ans, l⟩ = 0) :
    Calls Tryd.prog 4 #[Bk.val ⟨nad, 0, s, m, code, ans, l⟩ v] w fun e w' => e = .returned (.string ⟨(lineK nad (.inf s m) l).toArray⟩) ∧ Below w.heap.size w w' := by
  have HCK := Lib.hid (fun (W : World) (hW : Below w.heap.size w W) => pchk_any ⟨nad, 0, s, m, code, ans, l⟩ v W (hv.on hW))
  obtain ⟨q1, q2, q3, q4, _⟩ := chk_ok h
  have hlen : l.length ≤ 254 := infE_len q4
  have HKD := Lib.hid (fun (W : World) => pkind_inf ⟨nad, 0, s, m, code, ans, l⟩ v W rfl)
  have hw := nad_wrap (show okNad nad = true from q1)
  have HX := Lib.hid (fun W o ho => hex1 (UInt8.ofNat nad.toNat) _ hw W o ho)
  have HXD := Lib.hid (fun W o ho => hex1d (UInt8.ofNat nad.toNat) _ hw W o ho)
  have HF := Lib.hid (fun (W : World) (hW : Below w.heap.size w W) => pinft_any l v W (hv.on hW) (by omega))
  have hfl : (infT l).length ≤ 1000 := by unfold infT; split; decide; (rw [hexL_length]; omega)
  have HL := Lib.hid (fun W => pline_inf s m (nadL nad) (infT l) W q2 (by rw [nadL_len]; omega) hfl)
  have HM := mt_line_46
  have HNA := na_line_46
  rw [h] at HCK
  change Hid (∀ W o, o = Obj.cells #[.int .u8 (IntKind.u8.wrap nad)] 5 → Calls Tryd.prog 10 #[.slice (some ⟨W.heap.size, 0, none⟩) 1 1] (W.alloc o) fun e w' => e = .returned (.string ⟨(nadL nad).toArray⟩) ∧ Below W.heap.size W w') at HX
  change Hid (∀ W o, o = Obj.cells #[.int .u8 (IntKind.u8.wrap nad)] 5 → Calls Tryd.prog 10 #[.slice (some ⟨W.heap.size, 0, none⟩) 1 1] (W.alloc o).drew fun e w' => e = .returned (.string ⟨(nadL nad).toArray⟩) ∧ Below W.heap.size W w') at HXD
  simp only [lineK]
  generalize nadL nad = nd at *
  generalize infT l = ft at *
  generalize jn [[73], nd, decF s.toNat, wdI m, ft] = r at *
  obtain ⟨A, c, rfl, _, _, _⟩ := hv
  simp only [Bk.val, Kd.val] at *
  clear h q1 q2 q3 q4 hlen hw hfl
  go_enter Tryd.func4, Tryd.ntmps4
  go_wp2_with fail
  refine (HCK.out _ (alloc_below _ _)).mono ?_
  rintro e w1 ⟨rfl, hb1⟩
  have HR1 := Lib.hid ((hb1.block _ (by rw [alloc_size]; omega)).trans (heap_alloc_new w _))
  have HW1 := Lib.hid (below_alloc2 hb1)
  have hs1 : w.heap.size < w1.heap.size := by have := hb1.size; rw [alloc_size] at this; omega
  clear hb1
  obtain ⟨r0, r1, r2, r3, r4, r5, r6⟩ := cells7 HR1.out
  go_wp2_with fail
  refine (HKD.out _).mono ?_
  rintro e w2 ⟨rfl, hb2⟩
  have HR2 := Lib.hid ((hb2.block _ hs1).trans HR1.out)
  have HW2 := Lib.hid (HW1.out.trans (hb2.mono HW1.out.size))
  have hs2 : w.heap.size < w2.heap.size := by have := hb2.size; omega
  clear hb2 r0 r1 r2 r3 r4 r5 r6
  obtain ⟨r0, r1, r2, r3, r4, r5, r6⟩ := cells7 HR2.out
  have nn0 := World.new_ne w2 _ r0
  have nn6 := World.new_ne w2 _ r6
  clear r1 r2 r3 r4 r5
  go_wp2_with fail
  go_region_held3 (fun w' => w'.cell? ⟨w.heap.size, 0, none⟩ = some (.int .i64 nad) ∧ w'.cell? ⟨w.heap.size, 6, none⟩ = some (.slice A l.length c))
    (first
      | go_keep
      | exact ⟨(cells7 HR2.out).1, (cells7 HR2.out).2.2.2.2.2.2⟩
      | exact ⟨(cells7 ((hb3.block _ hs2).trans HR2.out)).1, (cells7 ((hb3.block _ hs2).trans HR2.out)).2.2.2.2.2.2⟩
      | exact ⟨(cells7 ((hb4.block _ hs3).trans ((hb3.block _ hs2).trans HR2.out))).1, (cells7 ((hb4.block _ hs3).trans ((hb3.block _ hs2).trans HR2.out))).2.2.2.2.2.2⟩
      | exact ⟨(cells7 ((hb5.block _ hs4).trans ((hb4.block _ hs3).trans ((hb3.block _ hs2).trans HR2.out)))).1, (cells7 ((hb5.block _ hs4).trans ((hb4.block _ hs3).trans ((hb3.block _ hs2).trans HR2.out)))).2.2.2.2.2.2⟩)
    (first
      | (go_at_call 10; (with_reducible refine (HXD.out _ _ rfl).mono ?_); rintro e w3 ⟨rfl, hb3⟩; have hs3 : w.heap.size < w3.heap.size := (by have h := hb3.size; have h' : w2.heap.size ≤ w3.heap.size := h; omega); have HW3 := Lib.hid (HW2.out.trans (Below.mono hb3 HW2.out.size)))
      | (go_at_call 11; refine (HF.out _ HW3.out).mono ?_; rintro e w4 ⟨rfl, hb4⟩; have hs4 : w.heap.size < w4.heap.size := (by have h := hb4.size; have h' : w3.heap.size ≤ w4.heap.size := h; omega))
      | (go_at_call 53; refine (HL.out _).mono ?_; rintro e w5 ⟨rfl, hb5⟩))
  all_goals
    go_wp2_with fail
    go_ret
    have hB := HW3.out.trans (hb4.mono HW3.out.size)
    exact ⟨rfl, hB.trans (hb5.mono hB.size)⟩

set_option maxRecDepth 100000 in
set_option maxHeartbeats 1600000 in
theorem ptext_rdy (nad s code : Int) (m ans : Bool) (l : List UInt8) (v : Value) (w : World) (hv : SL w w.heap.size v l) (h : chkB ⟨nad, 1, s, m, code, ans, l⟩ = 0) :
    Calls Tryd.prog 4 #[Bk.val ⟨nad, 1, s, m, code, ans, l⟩ v] w fun e w' => e = .returned (.string ⟨(lineK nad (.rdy s code) l).toArray⟩) ∧ Below w.heap.size w w' := by
  have HCK := Lib.hid (fun (W : World) (hW : Below w.heap.size w W) => pchk_any ⟨nad, 1, s, m, code, ans, l⟩ v W (hv.on hW))
  obtain ⟨q1, q2, q3, q4, _⟩ := chk_ok h
  have hlen : l.length ≤ 254 := infE_len q4
  have HKD := Lib.hid (fun (W : World) => pkind_rdy ⟨nad, 1, s, m, code, ans, l⟩ v W rfl)
  have hw := nad_wrap (show okNad nad = true from q1)
  have HX := Lib.hid (fun W o ho => hex1 (UInt8.ofNat nad.toNat) _ hw W o ho)
  have HXD := Lib.hid (fun W o ho => hex1d (UInt8.ofNat nad.toNat) _ hw W o ho)
  have HF := Lib.hid (fun (W : World) (hW : Below w.heap.size w W) => pinft_any l v W (hv.on hW) (by omega))
  have hfl : (infT l).length ≤ 1000 := by unfold infT; split; decide; (rw [hexL_length]; omega)
  have HL := Lib.hid (fun W => pline_rdy s code (nadL nad) (infT l) W (by have h : (isBit s && isRc code) = true := q2; rw [Bool.and_eq_true] at h; exact h.1) (by have h : (isBit s && isRc code) = true := q2; rw [Bool.and_eq_true] at h; exact h.2) (by rw [nadL_len]; omega))
  have HM := mt_line_48
  have HNA := na_line_48
  rw [h] at HCK
  change Hid (∀ W o, o = Obj.cells #[.int .u8 (IntKind.u8.wrap nad)] 5 → Calls Tryd.prog 10 #[.slice (some ⟨W.heap.size, 0, none⟩) 1 1] (W.alloc o) fun e w' => e = .returned (.string ⟨(nadL nad).toArray⟩) ∧ Below W.heap.size W w') at HX
  change Hid (∀ W o, o = Obj.cells #[.int .u8 (IntKind.u8.wrap nad)] 5 → Calls Tryd.prog 10 #[.slice (some ⟨W.heap.size, 0, none⟩) 1 1] (W.alloc o).drew fun e w' => e = .returned (.string ⟨(nadL nad).toArray⟩) ∧ Below W.heap.size W w') at HXD
  simp only [lineK]
  generalize nadL nad = nd at *
  generalize infT l = ft at *
  generalize jn [[82], nd, decF s.toNat, nmR code] = r at *
  obtain ⟨A, c, rfl, _, _, _⟩ := hv
  simp only [Bk.val, Kd.val] at *
  clear h q1 q2 q3 q4 hlen hw hfl
  go_enter Tryd.func4, Tryd.ntmps4
  go_wp2_with fail
  refine (HCK.out _ (alloc_below _ _)).mono ?_
  rintro e w1 ⟨rfl, hb1⟩
  have HR1 := Lib.hid ((hb1.block _ (by rw [alloc_size]; omega)).trans (heap_alloc_new w _))
  have HW1 := Lib.hid (below_alloc2 hb1)
  have hs1 : w.heap.size < w1.heap.size := by have := hb1.size; rw [alloc_size] at this; omega
  clear hb1
  obtain ⟨r0, r1, r2, r3, r4, r5, r6⟩ := cells7 HR1.out
  go_wp2_with fail
  refine (HKD.out _).mono ?_
  rintro e w2 ⟨rfl, hb2⟩
  have HR2 := Lib.hid ((hb2.block _ hs1).trans HR1.out)
  have HW2 := Lib.hid (HW1.out.trans (hb2.mono HW1.out.size))
  have hs2 : w.heap.size < w2.heap.size := by have := hb2.size; omega
  clear hb2 r0 r1 r2 r3 r4 r5 r6
  obtain ⟨r0, r1, r2, r3, r4, r5, r6⟩ := cells7 HR2.out
  have nn0 := World.new_ne w2 _ r0
  have nn6 := World.new_ne w2 _ r6
  clear r1 r2 r3 r4 r5
  go_wp2_with fail
  go_region_held3 (fun w' => w'.cell? ⟨w.heap.size, 0, none⟩ = some (.int .i64 nad) ∧ w'.cell? ⟨w.heap.size, 6, none⟩ = some (.slice A l.length c))
    (first
      | go_keep
      | exact ⟨(cells7 HR2.out).1, (cells7 HR2.out).2.2.2.2.2.2⟩
      | exact ⟨(cells7 ((hb3.block _ hs2).trans HR2.out)).1, (cells7 ((hb3.block _ hs2).trans HR2.out)).2.2.2.2.2.2⟩
      | exact ⟨(cells7 ((hb4.block _ hs3).trans ((hb3.block _ hs2).trans HR2.out))).1, (cells7 ((hb4.block _ hs3).trans ((hb3.block _ hs2).trans HR2.out))).2.2.2.2.2.2⟩
      | exact ⟨(cells7 ((hb5.block _ hs4).trans ((hb4.block _ hs3).trans ((hb3.block _ hs2).trans HR2.out)))).1, (cells7 ((hb5.block _ hs4).trans ((hb4.block _ hs3).trans ((hb3.block _ hs2).trans HR2.out)))).2.2.2.2.2.2⟩)
    (first
      | (go_at_call 10; (with_reducible refine (HXD.out _ _ rfl).mono ?_); rintro e w3 ⟨rfl, hb3⟩; have hs3 : w.heap.size < w3.heap.size := (by have h := hb3.size; have h' : w2.heap.size ≤ w3.heap.size := h; omega); have HW3 := Lib.hid (HW2.out.trans (Below.mono hb3 HW2.out.size)))
      | (go_at_call 11; refine (HF.out _ HW3.out).mono ?_; rintro e w4 ⟨rfl, hb4⟩; have hs4 : w.heap.size < w4.heap.size := (by have h := hb4.size; have h' : w3.heap.size ≤ w4.heap.size := h; omega))
      | (go_at_call 82; refine (HL.out _).mono ?_; rintro e w5 ⟨rfl, hb5⟩))
  all_goals
    go_wp2_with fail
    go_ret
    have hB := HW3.out.trans (hb4.mono HW3.out.size)
    exact ⟨rfl, hB.trans (hb5.mono hB.size)⟩

set_option maxRecDepth 100000 in
set_option maxHeartbeats 1600000 in
theorem ptext_sup (nad s code : Int) (m ans : Bool) (l : List UInt8) (v : Value) (w : World) (hv : SL w w.heap.size v l) (h : chkB ⟨nad, 2, s, m, code, ans, l⟩ = 0) :
    Calls Tryd.prog 4 #[Bk.val ⟨nad, 2, s, m, code, ans, l⟩ v] w fun e w' => e = .returned (.string ⟨(lineK nad (.sup code ans) l).toArray⟩) ∧ Below w.heap.size w w' := by
  have HCK := Lib.hid (fun (W : World) (hW : Below w.heap.size w W) => pchk_any ⟨nad, 2, s, m, code, ans, l⟩ v W (hv.on hW))
  obtain ⟨q1, q2, q3, q4, _⟩ := chk_ok h
  have hlen : l.length ≤ 254 := infE_len q4
  have HKD := Lib.hid (fun (W : World) => pkind_sup ⟨nad, 2, s, m, code, ans, l⟩ v W rfl)
  have hw := nad_wrap (show okNad nad = true from q1)
  have HX := Lib.hid (fun W o ho => hex1 (UInt8.ofNat nad.toNat) _ hw W o ho)
  have HXD := Lib.hid (fun W o ho => hex1d (UInt8.ofNat nad.toNat) _ hw W o ho)
  have HF := Lib.hid (fun (W : World) (hW : Below w.heap.size w W) => pinft_any l v W (hv.on hW) (by omega))
  have hfl : (infT l).length ≤ 1000 := by unfold infT; split; decide; (rw [hexL_length]; omega)
  have HL := Lib.hid (fun W => pline_sup code ans (nadL nad) (infT l) W q2 (by rw [nadL_len]; omega) hfl)
  have HM := mt_line_50
  have HNA := na_line_50
  rw [h] at HCK
  change Hid (∀ W o, o = Obj.cells #[.int .u8 (IntKind.u8.wrap nad)] 5 → Calls Tryd.prog 10 #[.slice (some ⟨W.heap.size, 0, none⟩) 1 1] (W.alloc o) fun e w' => e = .returned (.string ⟨(nadL nad).toArray⟩) ∧ Below W.heap.size W w') at HX
  change Hid (∀ W o, o = Obj.cells #[.int .u8 (IntKind.u8.wrap nad)] 5 → Calls Tryd.prog 10 #[.slice (some ⟨W.heap.size, 0, none⟩) 1 1] (W.alloc o).drew fun e w' => e = .returned (.string ⟨(nadL nad).toArray⟩) ∧ Below W.heap.size W w') at HXD
  simp only [lineK]
  generalize nadL nad = nd at *
  generalize infT l = ft at *
  generalize jn [[83], nd, nmS code, wdS ans, ft] = r at *
  obtain ⟨A, c, rfl, _, _, _⟩ := hv
  simp only [Bk.val, Kd.val] at *
  clear h q1 q2 q3 q4 hlen hw hfl
  go_enter Tryd.func4, Tryd.ntmps4
  go_wp2_with fail
  refine (HCK.out _ (alloc_below _ _)).mono ?_
  rintro e w1 ⟨rfl, hb1⟩
  have HR1 := Lib.hid ((hb1.block _ (by rw [alloc_size]; omega)).trans (heap_alloc_new w _))
  have HW1 := Lib.hid (below_alloc2 hb1)
  have hs1 : w.heap.size < w1.heap.size := by have := hb1.size; rw [alloc_size] at this; omega
  clear hb1
  obtain ⟨r0, r1, r2, r3, r4, r5, r6⟩ := cells7 HR1.out
  go_wp2_with fail
  refine (HKD.out _).mono ?_
  rintro e w2 ⟨rfl, hb2⟩
  have HR2 := Lib.hid ((hb2.block _ hs1).trans HR1.out)
  have HW2 := Lib.hid (HW1.out.trans (hb2.mono HW1.out.size))
  have hs2 : w.heap.size < w2.heap.size := by have := hb2.size; omega
  clear hb2 r0 r1 r2 r3 r4 r5 r6
  obtain ⟨r0, r1, r2, r3, r4, r5, r6⟩ := cells7 HR2.out
  have nn0 := World.new_ne w2 _ r0
  have nn6 := World.new_ne w2 _ r6
  clear r1 r2 r3 r4 r5
  go_wp2_with fail
  go_region_held3 (fun w' => w'.cell? ⟨w.heap.size, 0, none⟩ = some (.int .i64 nad) ∧ w'.cell? ⟨w.heap.size, 6, none⟩ = some (.slice A l.length c))
    (first
      | go_keep
      | exact ⟨(cells7 HR2.out).1, (cells7 HR2.out).2.2.2.2.2.2⟩
      | exact ⟨(cells7 ((hb3.block _ hs2).trans HR2.out)).1, (cells7 ((hb3.block _ hs2).trans HR2.out)).2.2.2.2.2.2⟩
      | exact ⟨(cells7 ((hb4.block _ hs3).trans ((hb3.block _ hs2).trans HR2.out))).1, (cells7 ((hb4.block _ hs3).trans ((hb3.block _ hs2).trans HR2.out))).2.2.2.2.2.2⟩
      | exact ⟨(cells7 ((hb5.block _ hs4).trans ((hb4.block _ hs3).trans ((hb3.block _ hs2).trans HR2.out)))).1, (cells7 ((hb5.block _ hs4).trans ((hb4.block _ hs3).trans ((hb3.block _ hs2).trans HR2.out)))).2.2.2.2.2.2⟩)
    (first
      | (go_at_call 10; (with_reducible refine (HXD.out _ _ rfl).mono ?_); rintro e w3 ⟨rfl, hb3⟩; have hs3 : w.heap.size < w3.heap.size := (by have h := hb3.size; have h' : w2.heap.size ≤ w3.heap.size := h; omega); have HW3 := Lib.hid (HW2.out.trans (Below.mono hb3 HW2.out.size)))
      | (go_at_call 11; refine (HF.out _ HW3.out).mono ?_; rintro e w4 ⟨rfl, hb4⟩; have hs4 : w.heap.size < w4.heap.size := (by have h := hb4.size; have h' : w3.heap.size ≤ w4.heap.size := h; omega))
      | (go_at_call 88; refine (HL.out _).mono ?_; rintro e w5 ⟨rfl, hb5⟩))
  all_goals
    go_wp2_with fail
    go_ret
    have hB := HW3.out.trans (hb4.mono HW3.out.size)
    exact ⟨rfl, hB.trans (hb5.mono hB.size)⟩
theorem ptext_any (b : Bk) (v : Value) (w : World) (hv : SL w w.heap.size v b.inf) :
    Calls Tryd.prog 4 #[b.val v] w fun e w' => e = .returned (.string ⟨(txtB b).toArray⟩) ∧ Below w.heap.size w w' := by
  unfold txtB
  by_cases h : chkB b = 0
  · rw [if_pos h]
    have hk : b.kind = 0 ∨ b.kind = 1 ∨ b.kind = 2 := (chk_ok h).2.2.2.2
    obtain ⟨nad, kind, s, m, code, ans, l⟩ := b
    rcases hk with rfl | rfl | rfl
    · exact ptext_inf nad s code m ans l v w hv h
    · exact ptext_rdy nad s code m ans l v w hv h
    · exact ptext_sup nad s code m ans l v w hv h
  · rw [if_neg h]
    exact ptext_err b v w hv h
end Go.Proofs.YtijiggfeamibkaaDoor
