/-
  The walk of the program's Encode.
-/
import Derived.Test.YtjoibonbmalbdaaSta
namespace Go.Proofs.Ytjoibonbmalbdaa
set_option linter.unusedVariables false
set_option linter.unusedSimpArgs false
open Go.RowKit

/-- Some byte slices in a block of their own. -/
theorem LL.lit (w : World) (vs : List Value) (ls : List (List UInt8)) (hlen : vs.length = ls.length) (hn : ls.length ≤ 1000) (h : ∀ k, k < ls.length → SL w w.heap.size (vs.getD k (.slice none 0 0)) (ls.getD k [])) :
    LL (w.alloc (.cells vs.toArray 22)) (w.alloc (.cells vs.toArray 22)).heap.size (.slice (some ⟨w.heap.size, 0, none⟩) ls.length ls.length) ls := by
  have hb := alloc_below w (.cells vs.toArray 22)
  refine ⟨some ⟨w.heap.size, 0, none⟩, ls.length, vs, rfl, Nat.le_refl _, by unfold maxLen; omega, hlen, fun _ => ⟨w.heap.size, 0, rfl, by rw [alloc_size]; omega, fun k hk => ?_⟩, fun k hk => (h k hk).on hb⟩
  rw [cell_of_row _ w.heap.size _ _ 22 (0, 0) (heap_alloc_new w _), Nat.zero_add, List.getElem?_toArray, List.getD, List.getElem?_eq_getElem (by omega)]
  rfl
theorem LL.five (w : World) (u1 u2 u3 u4 u5 : Value) (l1 l2 l3 l4 l5 : List UInt8) (h1 : SL w w.heap.size u1 l1) (h2 : SL w w.heap.size u2 l2) (h3 : SL w w.heap.size u3 l3) (h4 : SL w w.heap.size u4 l4) (h5 : SL w w.heap.size u5 l5) :
    LL (w.alloc (.cells #[u1, u2, u3, u4, u5] 22)) (w.alloc (.cells #[u1, u2, u3, u4, u5] 22)).heap.size (.slice (some ⟨w.heap.size, 0, none⟩) 5 5) [l1, l2, l3, l4, l5] :=
  LL.lit w [u1, u2, u3, u4, u5] [l1, l2, l3, l4, l5] rfl (by simp) fun k hk => by
    match k, hk with
    | 0, _ => exact h1
    | 1, _ => exact h2
    | 2, _ => exact h3
    | 3, _ => exact h4
    | 4, _ => exact h5
    | k + 5, hk => simp at hk; omega

/-- A literal of bytes in a new block. -/
theorem SL.lit (w : World) (l : List UInt8) (h : l.length ≤ 1000) : SL (w.alloc (.cells (l.map bv).toArray 5)) (w.heap.size + 1) (.slice (some ⟨w.heap.size, 0, none⟩) l.length l.length) l :=
  ⟨_, _, rfl, Nat.le_refl _, by simp only [maxLen]; omega, fun _ => ⟨w.heap.size, 0, rfl, Nat.lt_succ_self _, fun k hk => by
    rw [cell_of_row _ w.heap.size _ _ 5 (0, 0) (heap_alloc_new w _), Nat.zero_add, List.getElem?_toArray, map_bv_get l k hk]⟩⟩
theorem SL.lit' (w : World) (l : List UInt8) (h : l.length ≤ 1000) : SL (w.alloc (.cells (l.map bv).toArray 5)) (w.alloc (.cells (l.map bv).toArray 5)).heap.size (.slice (some ⟨w.heap.size, 0, none⟩) l.length l.length) l := by
  rw [alloc_size]; exact SL.lit w l h

theorem byte_of {n : Int} (h : isB n = true) : ∃ x : UInt8, n = (x.toNat : Int) := by
  obtain ⟨h0, h1⟩ := isB_yes h
  refine ⟨UInt8.ofNat n.toNat, ?_⟩
  simp
  omega

def markL (long : Bool) : List UInt8 := if long then [0] else []
def lenL (n : Nat) (long : Bool) : List UInt8 := if n = 0 then [] else putL (n % 256 ^ widN long) (widN long)
/-- The bytes of a command that is valid. -/
def encL (c : Cm) : List UInt8 :=
  [UInt8.ofNat c.cla.toNat, UInt8.ofNat c.ins.toNat, UInt8.ofNat c.p1.toNat, UInt8.ofNat c.p2.toNat] ++ (markL c.long ++ (lenL c.data.length c.long ++ (c.data ++ lenL c.le.toNat c.long)))
def encV (c : Cm) : List UInt8 := if chkC c = 0 then encL c else []
def EncR (c : Cm) (w : World) (e : Ending) (w' : World) : Prop :=
  ∃ v', e = .returned (.tuple #[v', .int .i64 (chkC c)]) ∧ SL w' w'.heap.size v' (encV c) ∧ Below w.heap.size w w'

theorem join_five (u1 u2 u3 u4 u5 : Value) (l1 l2 l3 l4 l5 : List UInt8) (W : World) (h1 : SL W W.heap.size u1 l1) (h2 : SL W W.heap.size u2 l2) (h3 : SL W W.heap.size u3 l3) (h4 : SL W W.heap.size u4 l4) (h5 : SL W W.heap.size u5 l5)
    (hs : l1.length + l2.length + l3.length + l4.length + l5.length ≤ 1000000) :
    Calls Try.prog 41 #[.slice (some ⟨W.heap.size, 0, none⟩) 5 5] (W.alloc (.cells #[u1, u2, u3, u4, u5] 22)) fun e w' => ∃ v', e = .returned v' ∧ SL w' w'.heap.size v' (l1 ++ (l2 ++ (l3 ++ (l4 ++ l5)))) ∧ Below W.heap.size W w' := by
  refine (pjoin_any [l1, l2, l3, l4, l5] _ _ (LL.five W u1 u2 u3 u4 u5 l1 l2 l3 l4 l5 h1 h2 h3 h4 h5) (by simp) (by simp [Lib.lens]; omega)).mono ?_
  rintro e w' ⟨v', he, hv, hb⟩
  refine ⟨v', he, by simpa using hv, (alloc_below _ _).trans (hb.mono (by rw [alloc_size]; omega))⟩
theorem putL_len2 (n : Nat) (long : Bool) : (putL (n % 256 ^ widN long) (widN long)).length ≤ 2 := by
  rw [putL_length]; cases long <;> decide

set_option maxRecDepth 100000 in
set_option maxHeartbeats 1600000 in
theorem penc_1 (x0 x1 x2 x3 : UInt8) (data : List UInt8) (le : Nat) (long : Bool) (d : Value) (w : World) (hv : SL w w.heap.size d data) (h0 : chkC ⟨x0.toNat, x1.toNat, x2.toNat, x3.toNat, data, le, long⟩ = 0) (hd : data = []) (hl : le = 0) :
    Calls Try.prog 12 #[Cm.val ⟨x0.toNat, x1.toNat, x2.toNat, x3.toNat, data, le, long⟩ d] w (EncR ⟨x0.toNat, x1.toNat, x2.toNat, x3.toNat, data, le, long⟩ w) := by
  obtain ⟨_, _, hp3, hp4, hp5, _⟩ := chk_parts h0
  have hL := maxL_le long
  have hD := maxD_le long
  have hd2 : data.length ≤ 65535 := by have : (data.length : Int) ≤ 65535 := Int.le_trans hp3 hD; omega
  have hl2 : le ≤ 65536 := by have : (le : Int) ≤ 65536 := Int.le_trans hp5 hL; omega
  have HQ : Hid (caseC ⟨x0.toNat, x1.toNat, x2.toNat, x3.toNat, data, le, long⟩ = 1) := by
    show _ = _
    rw [caseC, if_pos h0]
    rw [if_pos (by show data.length = 0; rw [hd]; rfl), if_pos (by show (le : Int) = 0; omega)]
  have HV : Hid (encV ⟨x0.toNat, x1.toNat, x2.toNat, x3.toNat, data, le, long⟩ = [x0, x1, x2, x3] ++ (markL long ++ ([] ++ (data ++ [])))) := by
    show _ = _
    rw [encV, if_pos h0, encL]
    subst hd; subst hl; simp [lenL]
  have HC := Lib.hid (fun (A : Option Addr) (k : Nat) (w : World) => pchk_any ⟨x0.toNat, x1.toNat, x2.toNat, x3.toNat, data, le, long⟩ A data.length k w rfl (by show -9223372036854775808 ≤ (le : Int) ∧ (le : Int) ≤ 9223372036854775807; omega))
  have HK := Lib.hid (fun (A : Option Addr) (k : Nat) (w : World) => pcase_any ⟨x0.toNat, x1.toNat, x2.toNat, x3.toNat, data, le, long⟩ A data.length k w rfl (by show -9223372036854775808 ≤ (le : Int) ∧ (le : Int) ≤ 9223372036854775807; omega))
  have H0 := Lib.hid h0
  have HD := Lib.hid hv
  obtain ⟨A, k, rfl, _, _, _⟩ := hv
  have y0 := x0.toNat_lt
  have y1 := x1.toNat_lt
  have y2 := x2.toNat_lt
  have y3 := x3.toNat_lt
  simp only [Cm.val] at HC HK ⊢
  have hml : (markL long).length ≤ 1 := by cases long <;> decide
  have hp2a := putL_len2 data.length long
  have hp2b := putL_len2 le long
  clear hp3 hp4 hp5 hL hD h0 hd hl
  cases long
  · go_enter Try.func12, Try.ntmps12
    go_wp2_with fail
    refine (HC.out _ _ _).mono ?_
    rintro e w1 ⟨rfl, hb1⟩
    rw [H0.out]
    rw [alloc_size] at hb1
    have c0 := box_cell hb1 0 _ rfl
    have c1 := box_cell hb1 1 _ rfl
    have c2 := box_cell hb1 2 _ rfl
    have c3 := box_cell hb1 3 _ rfl
    have c4 := box_cell hb1 4 _ rfl
    have c5 := box_cell hb1 5 _ rfl
    have c6 := box_cell hb1 6 _ rfl
    have hs1 := hb1.size
    rw [alloc_size] at hs1
    have hw1 : Below w.heap.size w w1 := (alloc_below _ _).trans (hb1.mono (by omega))
    have HD1 := Lib.hid (HD.out.on hw1)
    have HX := Lib.hid (SL.lit' w1 [x0, x1, x2, x3] (by simp))
    have hlt : w.heap.size < w1.heap.size := by omega
    clear hb1 hs1
    go_wp2_with fail
    refine (HK.out _ _ _).mono ?_
    rintro e w2 ⟨rfl, hb2⟩
    rw [HQ.out]
    have hw12 : Below w1.heap.size w1 w2 := by first | exact (alloc_below _ _).trans (hb2.mono (by rw [alloc_size]; omega)) | exact ((alloc_below _ _).alloc (by rw [alloc_size]; omega) _).trans (hb2.mono (by rw [alloc_size, alloc_size]; omega))
    have HW12 := Lib.hid hw12
    have d4 := (hw12.cell (p := ⟨w.heap.size, 4, none⟩) hlt).trans c4
    have d5 := (hw12.cell (p := ⟨w.heap.size, 5, none⟩) hlt).trans c5
    have d6 := (hw12.cell (p := ⟨w.heap.size, 6, none⟩) hlt).trans c6
    have hx2 : SL w2 w2.heap.size (.slice (some ⟨w1.heap.size, 0, none⟩) 4 4) [x0, x1, x2, x3] := by first | exact HX.out.on hb2 | exact (HX.out.on (alloc_below _ _)).on hb2
    have hm2 : SL w2 w2.heap.size (.slice none 0 0) (markL false) := SL.nil _ _ _ _ (Nat.zero_le _)
    have hw2 : Below w.heap.size w w2 := hw1.trans (hw12.mono hw1.size)
    have hd2' := HD1.out.on hw12
    have HX2 := Lib.hid hx2
    have HM2 := Lib.hid hm2
    have HD2 := Lib.hid hd2'
    have HW2 := Lib.hid hw2
    have hlt2 : w.heap.size < w2.heap.size := by have := hw12.size; omega
    clear hx2 hm2 hd2' hw2 hb2 c0 c1 c2 c3 c4 c5 c6 HX hw12 hw1 hlt
    have z1 := HX2.out
    have z2 := HM2.out
    have z4 := HD2.out
    have z3 := SL.nil w2 w2.heap.size 0 none (Nat.zero_le _)
    have z5 := SL.nil w2 w2.heap.size 0 none (Nat.zero_le _)
    have hwc : Below w.heap.size w w2 := HW2.out
    have HJ := Lib.hid (join_five _ _ _ _ _ _ _ _ _ _ w2 z1 z2 z3 z4 z5 (by simp only [List.length_cons, List.length_nil]; omega))
    have HWC := Lib.hid hwc
    clear z1 z2 z3 z4 z5 hwc
    go_wp2_with fail
    refine HJ.out.mono ?_
    rintro e w5 ⟨v5, rfl, hv5, hb5⟩
    go_wp2_with fail
    go_ret2
    exact ⟨_, by rw [H0.out]; rfl, by rw [HV.out]; exact hv5, HWC.out.trans (hb5.mono HWC.out.size)⟩
  · go_enter Try.func12, Try.ntmps12
    go_wp2_with fail
    refine (HC.out _ _ _).mono ?_
    rintro e w1 ⟨rfl, hb1⟩
    rw [H0.out]
    rw [alloc_size] at hb1
    have c0 := box_cell hb1 0 _ rfl
    have c1 := box_cell hb1 1 _ rfl
    have c2 := box_cell hb1 2 _ rfl
    have c3 := box_cell hb1 3 _ rfl
    have c4 := box_cell hb1 4 _ rfl
    have c5 := box_cell hb1 5 _ rfl
    have c6 := box_cell hb1 6 _ rfl
    have hs1 := hb1.size
    rw [alloc_size] at hs1
    have hw1 : Below w.heap.size w w1 := (alloc_below _ _).trans (hb1.mono (by omega))
    have HD1 := Lib.hid (HD.out.on hw1)
    have HX := Lib.hid (SL.lit' w1 [x0, x1, x2, x3] (by simp))
    have hlt : w.heap.size < w1.heap.size := by omega
    clear hb1 hs1
    go_wp2_with fail
    refine (HK.out _ _ _).mono ?_
    rintro e w2 ⟨rfl, hb2⟩
    rw [HQ.out]
    have hw12 : Below w1.heap.size w1 w2 := by first | exact (alloc_below _ _).trans (hb2.mono (by rw [alloc_size]; omega)) | exact ((alloc_below _ _).alloc (by rw [alloc_size]; omega) _).trans (hb2.mono (by rw [alloc_size, alloc_size]; omega))
    have HW12 := Lib.hid hw12
    have d4 := (hw12.cell (p := ⟨w.heap.size, 4, none⟩) hlt).trans c4
    have d5 := (hw12.cell (p := ⟨w.heap.size, 5, none⟩) hlt).trans c5
    have d6 := (hw12.cell (p := ⟨w.heap.size, 6, none⟩) hlt).trans c6
    have hx2 : SL w2 w2.heap.size (.slice (some ⟨w1.heap.size, 0, none⟩) 4 4) [x0, x1, x2, x3] := by first | exact HX.out.on hb2 | exact (HX.out.on (alloc_below _ _)).on hb2
    have hm2 : SL w2 w2.heap.size (.slice (some ⟨(w1.alloc (.cells ([x0, x1, x2, x3].map bv).toArray 5)).heap.size, 0, none⟩) 1 1) (markL true) := (SL.lit' (w1.alloc (.cells ([x0, x1, x2, x3].map bv).toArray 5)) [0] (by simp)).on hb2
    rw [alloc_size] at hm2
    have hw2 : Below w.heap.size w w2 := hw1.trans (hw12.mono hw1.size)
    have hd2' := HD1.out.on hw12
    have HX2 := Lib.hid hx2
    have HM2 := Lib.hid hm2
    have HD2 := Lib.hid hd2'
    have HW2 := Lib.hid hw2
    have hlt2 : w.heap.size < w2.heap.size := by have := hw12.size; omega
    clear hx2 hm2 hd2' hw2 hb2 c0 c1 c2 c3 c4 c5 c6 HX hw12 hw1 hlt
    have z1 := HX2.out
    have z2 := HM2.out
    have z4 := HD2.out
    have z3 := SL.nil w2 w2.heap.size 0 none (Nat.zero_le _)
    have z5 := SL.nil w2 w2.heap.size 0 none (Nat.zero_le _)
    have hwc : Below w.heap.size w w2 := HW2.out
    have HJ := Lib.hid (join_five _ _ _ _ _ _ _ _ _ _ w2 z1 z2 z3 z4 z5 (by simp only [List.length_cons, List.length_nil]; omega))
    have HWC := Lib.hid hwc
    clear z1 z2 z3 z4 z5 hwc
    go_wp2_with fail
    refine HJ.out.mono ?_
    rintro e w5 ⟨v5, rfl, hv5, hb5⟩
    go_wp2_with fail
    go_ret2
    exact ⟨_, by rw [H0.out]; rfl, by rw [HV.out]; exact hv5, HWC.out.trans (hb5.mono HWC.out.size)⟩

set_option maxRecDepth 100000 in
set_option maxHeartbeats 1600000 in
theorem penc_2 (x0 x1 x2 x3 : UInt8) (data : List UInt8) (le : Nat) (long : Bool) (d : Value) (w : World) (hv : SL w w.heap.size d data) (h0 : chkC ⟨x0.toNat, x1.toNat, x2.toNat, x3.toNat, data, le, long⟩ = 0) (hd : data = []) (hl : 0 < le) :
    Calls Try.prog 12 #[Cm.val ⟨x0.toNat, x1.toNat, x2.toNat, x3.toNat, data, le, long⟩ d] w (EncR ⟨x0.toNat, x1.toNat, x2.toNat, x3.toNat, data, le, long⟩ w) := by
  obtain ⟨_, _, hp3, hp4, hp5, _⟩ := chk_parts h0
  have hL := maxL_le long
  have hD := maxD_le long
  have hd2 : data.length ≤ 65535 := by have : (data.length : Int) ≤ 65535 := Int.le_trans hp3 hD; omega
  have hl2 : le ≤ 65536 := by have : (le : Int) ≤ 65536 := Int.le_trans hp5 hL; omega
  have HQ : Hid (caseC ⟨x0.toNat, x1.toNat, x2.toNat, x3.toNat, data, le, long⟩ = 2) := by
    show _ = _
    rw [caseC, if_pos h0]
    rw [if_pos (by show data.length = 0; rw [hd]; rfl), if_neg (by show ¬ (le : Int) = 0; omega)]
  have HV : Hid (encV ⟨x0.toNat, x1.toNat, x2.toNat, x3.toNat, data, le, long⟩ = [x0, x1, x2, x3] ++ (markL long ++ ([] ++ (data ++ putL (le % 256 ^ widN long) (widN long))))) := by
    show _ = _
    rw [encV, if_pos h0, encL]
    subst hd; simp [lenL, show ¬ le = 0 by omega]
  have HC := Lib.hid (fun (A : Option Addr) (k : Nat) (w : World) => pchk_any ⟨x0.toNat, x1.toNat, x2.toNat, x3.toNat, data, le, long⟩ A data.length k w rfl (by show -9223372036854775808 ≤ (le : Int) ∧ (le : Int) ≤ 9223372036854775807; omega))
  have HK := Lib.hid (fun (A : Option Addr) (k : Nat) (w : World) => pcase_any ⟨x0.toNat, x1.toNat, x2.toNat, x3.toNat, data, le, long⟩ A data.length k w rfl (by show -9223372036854775808 ≤ (le : Int) ∧ (le : Int) ≤ 9223372036854775807; omega))
  have H0 := Lib.hid h0
  have HD := Lib.hid hv
  obtain ⟨A, k, rfl, _, _, _⟩ := hv
  have y0 := x0.toNat_lt
  have y1 := x1.toNat_lt
  have y2 := x2.toNat_lt
  have y3 := x3.toNat_lt
  simp only [Cm.val] at HC HK ⊢
  have hml : (markL long).length ≤ 1 := by cases long <;> decide
  have hp2a := putL_len2 data.length long
  have hp2b := putL_len2 le long
  clear hp3 hp4 hp5 hL hD h0 hd
  cases long
  · go_enter Try.func12, Try.ntmps12
    go_wp2_with fail
    refine (HC.out _ _ _).mono ?_
    rintro e w1 ⟨rfl, hb1⟩
    rw [H0.out]
    rw [alloc_size] at hb1
    have c0 := box_cell hb1 0 _ rfl
    have c1 := box_cell hb1 1 _ rfl
    have c2 := box_cell hb1 2 _ rfl
    have c3 := box_cell hb1 3 _ rfl
    have c4 := box_cell hb1 4 _ rfl
    have c5 := box_cell hb1 5 _ rfl
    have c6 := box_cell hb1 6 _ rfl
    have hs1 := hb1.size
    rw [alloc_size] at hs1
    have hw1 : Below w.heap.size w w1 := (alloc_below _ _).trans (hb1.mono (by omega))
    have HD1 := Lib.hid (HD.out.on hw1)
    have HX := Lib.hid (SL.lit' w1 [x0, x1, x2, x3] (by simp))
    have hlt : w.heap.size < w1.heap.size := by omega
    clear hb1 hs1
    go_wp2_with fail
    refine (HK.out _ _ _).mono ?_
    rintro e w2 ⟨rfl, hb2⟩
    rw [HQ.out]
    have hw12 : Below w1.heap.size w1 w2 := by first | exact (alloc_below _ _).trans (hb2.mono (by rw [alloc_size]; omega)) | exact ((alloc_below _ _).alloc (by rw [alloc_size]; omega) _).trans (hb2.mono (by rw [alloc_size, alloc_size]; omega))
    have HW12 := Lib.hid hw12
    have d4 := (hw12.cell (p := ⟨w.heap.size, 4, none⟩) hlt).trans c4
    have d5 := (hw12.cell (p := ⟨w.heap.size, 5, none⟩) hlt).trans c5
    have d6 := (hw12.cell (p := ⟨w.heap.size, 6, none⟩) hlt).trans c6
    have hx2 : SL w2 w2.heap.size (.slice (some ⟨w1.heap.size, 0, none⟩) 4 4) [x0, x1, x2, x3] := by first | exact HX.out.on hb2 | exact (HX.out.on (alloc_below _ _)).on hb2
    have hm2 : SL w2 w2.heap.size (.slice none 0 0) (markL false) := SL.nil _ _ _ _ (Nat.zero_le _)
    have hw2 : Below w.heap.size w w2 := hw1.trans (hw12.mono hw1.size)
    have hd2' := HD1.out.on hw12
    have HX2 := Lib.hid hx2
    have HM2 := Lib.hid hm2
    have HD2 := Lib.hid hd2'
    have HW2 := Lib.hid hw2
    have hlt2 : w.heap.size < w2.heap.size := by have := hw12.size; omega
    clear hx2 hm2 hd2' hw2 hb2 c0 c1 c2 c3 c4 c5 c6 HX hw12 hw1 hlt
    go_wp2_with fail
    refine (plen_any le _ w2 (by omega)).mono ?_
    rintro e w4 ⟨v4, rfl, hv4, hb4⟩
    have g4 := (hb4.cell (p := ⟨w.heap.size, 4, none⟩) hlt2).trans d4
    have HB4 := Lib.hid hb4
    have HV4 := Lib.hid hv4
    obtain ⟨A4, k4, rfl, _, _, _⟩ := hv4
    clear hb4 d4 d5 d6
    have z1 := (HX2.out).on HB4.out
    have z2 := (HM2.out).on HB4.out
    have z4 := (HD2.out).on HB4.out
    have z3 := SL.nil w4 w4.heap.size 0 none (Nat.zero_le _)
    have z5 := HV4.out
    have hwc : Below w.heap.size w w4 := ((HW2.out).trans (HB4.out.mono (HW2.out).size))
    have HJ := Lib.hid (join_five _ _ _ _ _ _ _ _ _ _ w4 z1 z2 z3 z4 z5 (by simp only [List.length_cons, List.length_nil]; omega))
    have HWC := Lib.hid hwc
    clear z1 z2 z3 z4 z5 hwc
    go_wp2_with fail
    refine HJ.out.mono ?_
    rintro e w5 ⟨v5, rfl, hv5, hb5⟩
    go_wp2_with fail
    go_ret2
    exact ⟨_, by rw [H0.out]; rfl, by rw [HV.out]; exact hv5, HWC.out.trans (hb5.mono HWC.out.size)⟩
  · go_enter Try.func12, Try.ntmps12
    go_wp2_with fail
    refine (HC.out _ _ _).mono ?_
    rintro e w1 ⟨rfl, hb1⟩
    rw [H0.out]
    rw [alloc_size] at hb1
    have c0 := box_cell hb1 0 _ rfl
    have c1 := box_cell hb1 1 _ rfl
    have c2 := box_cell hb1 2 _ rfl
    have c3 := box_cell hb1 3 _ rfl
    have c4 := box_cell hb1 4 _ rfl
    have c5 := box_cell hb1 5 _ rfl
    have c6 := box_cell hb1 6 _ rfl
    have hs1 := hb1.size
    rw [alloc_size] at hs1
    have hw1 : Below w.heap.size w w1 := (alloc_below _ _).trans (hb1.mono (by omega))
    have HD1 := Lib.hid (HD.out.on hw1)
    have HX := Lib.hid (SL.lit' w1 [x0, x1, x2, x3] (by simp))
    have hlt : w.heap.size < w1.heap.size := by omega
    clear hb1 hs1
    go_wp2_with fail
    refine (HK.out _ _ _).mono ?_
    rintro e w2 ⟨rfl, hb2⟩
    rw [HQ.out]
    have hw12 : Below w1.heap.size w1 w2 := by first | exact (alloc_below _ _).trans (hb2.mono (by rw [alloc_size]; omega)) | exact ((alloc_below _ _).alloc (by rw [alloc_size]; omega) _).trans (hb2.mono (by rw [alloc_size, alloc_size]; omega))
    have HW12 := Lib.hid hw12
    have d4 := (hw12.cell (p := ⟨w.heap.size, 4, none⟩) hlt).trans c4
    have d5 := (hw12.cell (p := ⟨w.heap.size, 5, none⟩) hlt).trans c5
    have d6 := (hw12.cell (p := ⟨w.heap.size, 6, none⟩) hlt).trans c6
    have hx2 : SL w2 w2.heap.size (.slice (some ⟨w1.heap.size, 0, none⟩) 4 4) [x0, x1, x2, x3] := by first | exact HX.out.on hb2 | exact (HX.out.on (alloc_below _ _)).on hb2
    have hm2 : SL w2 w2.heap.size (.slice (some ⟨(w1.alloc (.cells ([x0, x1, x2, x3].map bv).toArray 5)).heap.size, 0, none⟩) 1 1) (markL true) := (SL.lit' (w1.alloc (.cells ([x0, x1, x2, x3].map bv).toArray 5)) [0] (by simp)).on hb2
    rw [alloc_size] at hm2
    have hw2 : Below w.heap.size w w2 := hw1.trans (hw12.mono hw1.size)
    have hd2' := HD1.out.on hw12
    have HX2 := Lib.hid hx2
    have HM2 := Lib.hid hm2
    have HD2 := Lib.hid hd2'
    have HW2 := Lib.hid hw2
    have hlt2 : w.heap.size < w2.heap.size := by have := hw12.size; omega
    clear hx2 hm2 hd2' hw2 hb2 c0 c1 c2 c3 c4 c5 c6 HX hw12 hw1 hlt
    go_wp2_with fail
    refine (plen_any le _ w2 (by omega)).mono ?_
    rintro e w4 ⟨v4, rfl, hv4, hb4⟩
    have g4 := (hb4.cell (p := ⟨w.heap.size, 4, none⟩) hlt2).trans d4
    have HB4 := Lib.hid hb4
    have HV4 := Lib.hid hv4
    obtain ⟨A4, k4, rfl, _, _, _⟩ := hv4
    clear hb4 d4 d5 d6
    have z1 := (HX2.out).on HB4.out
    have z2 := (HM2.out).on HB4.out
    have z4 := (HD2.out).on HB4.out
    have z3 := SL.nil w4 w4.heap.size 0 none (Nat.zero_le _)
    have z5 := HV4.out
    have hwc : Below w.heap.size w w4 := ((HW2.out).trans (HB4.out.mono (HW2.out).size))
    have HJ := Lib.hid (join_five _ _ _ _ _ _ _ _ _ _ w4 z1 z2 z3 z4 z5 (by simp only [List.length_cons, List.length_nil]; omega))
    have HWC := Lib.hid hwc
    clear z1 z2 z3 z4 z5 hwc
    go_wp2_with fail
    refine HJ.out.mono ?_
    rintro e w5 ⟨v5, rfl, hv5, hb5⟩
    go_wp2_with fail
    go_ret2
    exact ⟨_, by rw [H0.out]; rfl, by rw [HV.out]; exact hv5, HWC.out.trans (hb5.mono HWC.out.size)⟩

set_option maxRecDepth 100000 in
set_option maxHeartbeats 1600000 in
theorem penc_3 (x0 x1 x2 x3 : UInt8) (data : List UInt8) (le : Nat) (long : Bool) (d : Value) (w : World) (hv : SL w w.heap.size d data) (h0 : chkC ⟨x0.toNat, x1.toNat, x2.toNat, x3.toNat, data, le, long⟩ = 0) (hd : 0 < data.length) (hl : le = 0) :
    Calls Try.prog 12 #[Cm.val ⟨x0.toNat, x1.toNat, x2.toNat, x3.toNat, data, le, long⟩ d] w (EncR ⟨x0.toNat, x1.toNat, x2.toNat, x3.toNat, data, le, long⟩ w) := by
  obtain ⟨_, _, hp3, hp4, hp5, _⟩ := chk_parts h0
  have hL := maxL_le long
  have hD := maxD_le long
  have hd2 : data.length ≤ 65535 := by have : (data.length : Int) ≤ 65535 := Int.le_trans hp3 hD; omega
  have hl2 : le ≤ 65536 := by have : (le : Int) ≤ 65536 := Int.le_trans hp5 hL; omega
  have HQ : Hid (caseC ⟨x0.toNat, x1.toNat, x2.toNat, x3.toNat, data, le, long⟩ = 3) := by
    show _ = _
    rw [caseC, if_pos h0]
    rw [if_neg (by show ¬ data.length = 0; omega), if_pos (by show (le : Int) = 0; omega)]
  have HV : Hid (encV ⟨x0.toNat, x1.toNat, x2.toNat, x3.toNat, data, le, long⟩ = [x0, x1, x2, x3] ++ (markL long ++ (putL (data.length % 256 ^ widN long) (widN long) ++ (data ++ [])))) := by
    show _ = _
    rw [encV, if_pos h0, encL]
    subst hl; simp [lenL, show ¬ data.length = 0 by omega, List.ne_nil_of_length_pos hd]
  have HC := Lib.hid (fun (A : Option Addr) (k : Nat) (w : World) => pchk_any ⟨x0.toNat, x1.toNat, x2.toNat, x3.toNat, data, le, long⟩ A data.length k w rfl (by show -9223372036854775808 ≤ (le : Int) ∧ (le : Int) ≤ 9223372036854775807; omega))
  have HK := Lib.hid (fun (A : Option Addr) (k : Nat) (w : World) => pcase_any ⟨x0.toNat, x1.toNat, x2.toNat, x3.toNat, data, le, long⟩ A data.length k w rfl (by show -9223372036854775808 ≤ (le : Int) ∧ (le : Int) ≤ 9223372036854775807; omega))
  have H0 := Lib.hid h0
  have HD := Lib.hid hv
  obtain ⟨A, k, rfl, _, _, _⟩ := hv
  have y0 := x0.toNat_lt
  have y1 := x1.toNat_lt
  have y2 := x2.toNat_lt
  have y3 := x3.toNat_lt
  simp only [Cm.val] at HC HK ⊢
  have hml : (markL long).length ≤ 1 := by cases long <;> decide
  have hp2a := putL_len2 data.length long
  have hp2b := putL_len2 le long
  clear hp3 hp4 hp5 hL hD h0 hl
  cases long
  · go_enter Try.func12, Try.ntmps12
    go_wp2_with fail
    refine (HC.out _ _ _).mono ?_
    rintro e w1 ⟨rfl, hb1⟩
    rw [H0.out]
    rw [alloc_size] at hb1
    have c0 := box_cell hb1 0 _ rfl
    have c1 := box_cell hb1 1 _ rfl
    have c2 := box_cell hb1 2 _ rfl
    have c3 := box_cell hb1 3 _ rfl
    have c4 := box_cell hb1 4 _ rfl
    have c5 := box_cell hb1 5 _ rfl
    have c6 := box_cell hb1 6 _ rfl
    have hs1 := hb1.size
    rw [alloc_size] at hs1
    have hw1 : Below w.heap.size w w1 := (alloc_below _ _).trans (hb1.mono (by omega))
    have HD1 := Lib.hid (HD.out.on hw1)
    have HX := Lib.hid (SL.lit' w1 [x0, x1, x2, x3] (by simp))
    have hlt : w.heap.size < w1.heap.size := by omega
    clear hb1 hs1
    go_wp2_with fail
    refine (HK.out _ _ _).mono ?_
    rintro e w2 ⟨rfl, hb2⟩
    rw [HQ.out]
    have hw12 : Below w1.heap.size w1 w2 := by first | exact (alloc_below _ _).trans (hb2.mono (by rw [alloc_size]; omega)) | exact ((alloc_below _ _).alloc (by rw [alloc_size]; omega) _).trans (hb2.mono (by rw [alloc_size, alloc_size]; omega))
    have HW12 := Lib.hid hw12
    have d4 := (hw12.cell (p := ⟨w.heap.size, 4, none⟩) hlt).trans c4
    have d5 := (hw12.cell (p := ⟨w.heap.size, 5, none⟩) hlt).trans c5
    have d6 := (hw12.cell (p := ⟨w.heap.size, 6, none⟩) hlt).trans c6
    have hx2 : SL w2 w2.heap.size (.slice (some ⟨w1.heap.size, 0, none⟩) 4 4) [x0, x1, x2, x3] := by first | exact HX.out.on hb2 | exact (HX.out.on (alloc_below _ _)).on hb2
    have hm2 : SL w2 w2.heap.size (.slice none 0 0) (markL false) := SL.nil _ _ _ _ (Nat.zero_le _)
    have hw2 : Below w.heap.size w w2 := hw1.trans (hw12.mono hw1.size)
    have hd2' := HD1.out.on hw12
    have HX2 := Lib.hid hx2
    have HM2 := Lib.hid hm2
    have HD2 := Lib.hid hd2'
    have HW2 := Lib.hid hw2
    have hlt2 : w.heap.size < w2.heap.size := by have := hw12.size; omega
    clear hx2 hm2 hd2' hw2 hb2 c0 c1 c2 c3 c4 c5 c6 HX hw12 hw1 hlt
    go_wp2_with fail
    refine (plen_any data.length _ w2 (by omega)).mono ?_
    rintro e w3 ⟨v3, rfl, hv3, hb3⟩
    have f4 := (hb3.cell (p := ⟨w.heap.size, 4, none⟩) hlt2).trans d4
    have f5 := (hb3.cell (p := ⟨w.heap.size, 5, none⟩) hlt2).trans d5
    have f6 := (hb3.cell (p := ⟨w.heap.size, 6, none⟩) hlt2).trans d6
    have HB3 := Lib.hid hb3
    have HV3 := Lib.hid hv3
    have hlt3 : w.heap.size < w3.heap.size := by have := hb3.size; omega
    obtain ⟨A3, k3, rfl, _, _, _⟩ := hv3
    clear hb3 d4 d5 d6 hlt2
    have z1 := (HX2.out).on HB3.out
    have z2 := (HM2.out).on HB3.out
    have z4 := (HD2.out).on HB3.out
    have z3 := HV3.out
    have z5 := SL.nil w3 w3.heap.size 0 none (Nat.zero_le _)
    have hwc : Below w.heap.size w w3 := ((HW2.out).trans (HB3.out.mono (HW2.out).size))
    have HJ := Lib.hid (join_five _ _ _ _ _ _ _ _ _ _ w3 z1 z2 z3 z4 z5 (by simp only [List.length_cons, List.length_nil]; omega))
    have HWC := Lib.hid hwc
    clear z1 z2 z3 z4 z5 hwc
    go_wp2_with fail
    refine HJ.out.mono ?_
    rintro e w5 ⟨v5, rfl, hv5, hb5⟩
    go_wp2_with fail
    go_ret2
    exact ⟨_, by rw [H0.out]; rfl, by rw [HV.out]; exact hv5, HWC.out.trans (hb5.mono HWC.out.size)⟩
  · go_enter Try.func12, Try.ntmps12
    go_wp2_with fail
    refine (HC.out _ _ _).mono ?_
    rintro e w1 ⟨rfl, hb1⟩
    rw [H0.out]
    rw [alloc_size] at hb1
    have c0 := box_cell hb1 0 _ rfl
    have c1 := box_cell hb1 1 _ rfl
    have c2 := box_cell hb1 2 _ rfl
    have c3 := box_cell hb1 3 _ rfl
    have c4 := box_cell hb1 4 _ rfl
    have c5 := box_cell hb1 5 _ rfl
    have c6 := box_cell hb1 6 _ rfl
    have hs1 := hb1.size
    rw [alloc_size] at hs1
    have hw1 : Below w.heap.size w w1 := (alloc_below _ _).trans (hb1.mono (by omega))
    have HD1 := Lib.hid (HD.out.on hw1)
    have HX := Lib.hid (SL.lit' w1 [x0, x1, x2, x3] (by simp))
    have hlt : w.heap.size < w1.heap.size := by omega
    clear hb1 hs1
    go_wp2_with fail
    refine (HK.out _ _ _).mono ?_
    rintro e w2 ⟨rfl, hb2⟩
    rw [HQ.out]
    have hw12 : Below w1.heap.size w1 w2 := by first | exact (alloc_below _ _).trans (hb2.mono (by rw [alloc_size]; omega)) | exact ((alloc_below _ _).alloc (by rw [alloc_size]; omega) _).trans (hb2.mono (by rw [alloc_size, alloc_size]; omega))
    have HW12 := Lib.hid hw12
    have d4 := (hw12.cell (p := ⟨w.heap.size, 4, none⟩) hlt).trans c4
    have d5 := (hw12.cell (p := ⟨w.heap.size, 5, none⟩) hlt).trans c5
    have d6 := (hw12.cell (p := ⟨w.heap.size, 6, none⟩) hlt).trans c6
    have hx2 : SL w2 w2.heap.size (.slice (some ⟨w1.heap.size, 0, none⟩) 4 4) [x0, x1, x2, x3] := by first | exact HX.out.on hb2 | exact (HX.out.on (alloc_below _ _)).on hb2
    have hm2 : SL w2 w2.heap.size (.slice (some ⟨(w1.alloc (.cells ([x0, x1, x2, x3].map bv).toArray 5)).heap.size, 0, none⟩) 1 1) (markL true) := (SL.lit' (w1.alloc (.cells ([x0, x1, x2, x3].map bv).toArray 5)) [0] (by simp)).on hb2
    rw [alloc_size] at hm2
    have hw2 : Below w.heap.size w w2 := hw1.trans (hw12.mono hw1.size)
    have hd2' := HD1.out.on hw12
    have HX2 := Lib.hid hx2
    have HM2 := Lib.hid hm2
    have HD2 := Lib.hid hd2'
    have HW2 := Lib.hid hw2
    have hlt2 : w.heap.size < w2.heap.size := by have := hw12.size; omega
    clear hx2 hm2 hd2' hw2 hb2 c0 c1 c2 c3 c4 c5 c6 HX hw12 hw1 hlt
    go_wp2_with fail
    refine (plen_any data.length _ w2 (by omega)).mono ?_
    rintro e w3 ⟨v3, rfl, hv3, hb3⟩
    have f4 := (hb3.cell (p := ⟨w.heap.size, 4, none⟩) hlt2).trans d4
    have f5 := (hb3.cell (p := ⟨w.heap.size, 5, none⟩) hlt2).trans d5
    have f6 := (hb3.cell (p := ⟨w.heap.size, 6, none⟩) hlt2).trans d6
    have HB3 := Lib.hid hb3
    have HV3 := Lib.hid hv3
    have hlt3 : w.heap.size < w3.heap.size := by have := hb3.size; omega
    obtain ⟨A3, k3, rfl, _, _, _⟩ := hv3
    clear hb3 d4 d5 d6 hlt2
    have z1 := (HX2.out).on HB3.out
    have z2 := (HM2.out).on HB3.out
    have z4 := (HD2.out).on HB3.out
    have z3 := HV3.out
    have z5 := SL.nil w3 w3.heap.size 0 none (Nat.zero_le _)
    have hwc : Below w.heap.size w w3 := ((HW2.out).trans (HB3.out.mono (HW2.out).size))
    have HJ := Lib.hid (join_five _ _ _ _ _ _ _ _ _ _ w3 z1 z2 z3 z4 z5 (by simp only [List.length_cons, List.length_nil]; omega))
    have HWC := Lib.hid hwc
    clear z1 z2 z3 z4 z5 hwc
    go_wp2_with fail
    refine HJ.out.mono ?_
    rintro e w5 ⟨v5, rfl, hv5, hb5⟩
    go_wp2_with fail
    go_ret2
    exact ⟨_, by rw [H0.out]; rfl, by rw [HV.out]; exact hv5, HWC.out.trans (hb5.mono HWC.out.size)⟩

set_option maxRecDepth 100000 in
set_option maxHeartbeats 1600000 in
theorem penc_4 (x0 x1 x2 x3 : UInt8) (data : List UInt8) (le : Nat) (long : Bool) (d : Value) (w : World) (hv : SL w w.heap.size d data) (h0 : chkC ⟨x0.toNat, x1.toNat, x2.toNat, x3.toNat, data, le, long⟩ = 0) (hd : 0 < data.length) (hl : 0 < le) :
    Calls Try.prog 12 #[Cm.val ⟨x0.toNat, x1.toNat, x2.toNat, x3.toNat, data, le, long⟩ d] w (EncR ⟨x0.toNat, x1.toNat, x2.toNat, x3.toNat, data, le, long⟩ w) := by
  obtain ⟨_, _, hp3, hp4, hp5, _⟩ := chk_parts h0
  have hL := maxL_le long
  have hD := maxD_le long
  have hd2 : data.length ≤ 65535 := by have : (data.length : Int) ≤ 65535 := Int.le_trans hp3 hD; omega
  have hl2 : le ≤ 65536 := by have : (le : Int) ≤ 65536 := Int.le_trans hp5 hL; omega
  have HQ : Hid (caseC ⟨x0.toNat, x1.toNat, x2.toNat, x3.toNat, data, le, long⟩ = 4) := by
    show _ = _
    rw [caseC, if_pos h0]
    rw [if_neg (by show ¬ data.length = 0; omega), if_neg (by show ¬ (le : Int) = 0; omega)]
  have HV : Hid (encV ⟨x0.toNat, x1.toNat, x2.toNat, x3.toNat, data, le, long⟩ = [x0, x1, x2, x3] ++ (markL long ++ (putL (data.length % 256 ^ widN long) (widN long) ++ (data ++ putL (le % 256 ^ widN long) (widN long))))) := by
    show _ = _
    rw [encV, if_pos h0, encL]
    simp [lenL, show ¬ data.length = 0 by omega, show ¬ le = 0 by omega, List.ne_nil_of_length_pos hd]
  have HC := Lib.hid (fun (A : Option Addr) (k : Nat) (w : World) => pchk_any ⟨x0.toNat, x1.toNat, x2.toNat, x3.toNat, data, le, long⟩ A data.length k w rfl (by show -9223372036854775808 ≤ (le : Int) ∧ (le : Int) ≤ 9223372036854775807; omega))
  have HK := Lib.hid (fun (A : Option Addr) (k : Nat) (w : World) => pcase_any ⟨x0.toNat, x1.toNat, x2.toNat, x3.toNat, data, le, long⟩ A data.length k w rfl (by show -9223372036854775808 ≤ (le : Int) ∧ (le : Int) ≤ 9223372036854775807; omega))
  have H0 := Lib.hid h0
  have HD := Lib.hid hv
  obtain ⟨A, k, rfl, _, _, _⟩ := hv
  have y0 := x0.toNat_lt
  have y1 := x1.toNat_lt
  have y2 := x2.toNat_lt
  have y3 := x3.toNat_lt
  simp only [Cm.val] at HC HK ⊢
  have hml : (markL long).length ≤ 1 := by cases long <;> decide
  have hp2a := putL_len2 data.length long
  have hp2b := putL_len2 le long
  clear hp3 hp4 hp5 hL hD h0
  cases long
  · go_enter Try.func12, Try.ntmps12
    go_wp2_with fail
    refine (HC.out _ _ _).mono ?_
    rintro e w1 ⟨rfl, hb1⟩
    rw [H0.out]
    rw [alloc_size] at hb1
    have c0 := box_cell hb1 0 _ rfl
    have c1 := box_cell hb1 1 _ rfl
    have c2 := box_cell hb1 2 _ rfl
    have c3 := box_cell hb1 3 _ rfl
    have c4 := box_cell hb1 4 _ rfl
    have c5 := box_cell hb1 5 _ rfl
    have c6 := box_cell hb1 6 _ rfl
    have hs1 := hb1.size
    rw [alloc_size] at hs1
    have hw1 : Below w.heap.size w w1 := (alloc_below _ _).trans (hb1.mono (by omega))
    have HD1 := Lib.hid (HD.out.on hw1)
    have HX := Lib.hid (SL.lit' w1 [x0, x1, x2, x3] (by simp))
    have hlt : w.heap.size < w1.heap.size := by omega
    clear hb1 hs1
    go_wp2_with fail
    refine (HK.out _ _ _).mono ?_
    rintro e w2 ⟨rfl, hb2⟩
    rw [HQ.out]
    have hw12 : Below w1.heap.size w1 w2 := by first | exact (alloc_below _ _).trans (hb2.mono (by rw [alloc_size]; omega)) | exact ((alloc_below _ _).alloc (by rw [alloc_size]; omega) _).trans (hb2.mono (by rw [alloc_size, alloc_size]; omega))
    have HW12 := Lib.hid hw12
    have d4 := (hw12.cell (p := ⟨w.heap.size, 4, none⟩) hlt).trans c4
    have d5 := (hw12.cell (p := ⟨w.heap.size, 5, none⟩) hlt).trans c5
    have d6 := (hw12.cell (p := ⟨w.heap.size, 6, none⟩) hlt).trans c6
    have hx2 : SL w2 w2.heap.size (.slice (some ⟨w1.heap.size, 0, none⟩) 4 4) [x0, x1, x2, x3] := by first | exact HX.out.on hb2 | exact (HX.out.on (alloc_below _ _)).on hb2
    have hm2 : SL w2 w2.heap.size (.slice none 0 0) (markL false) := SL.nil _ _ _ _ (Nat.zero_le _)
    have hw2 : Below w.heap.size w w2 := hw1.trans (hw12.mono hw1.size)
    have hd2' := HD1.out.on hw12
    have HX2 := Lib.hid hx2
    have HM2 := Lib.hid hm2
    have HD2 := Lib.hid hd2'
    have HW2 := Lib.hid hw2
    have hlt2 : w.heap.size < w2.heap.size := by have := hw12.size; omega
    clear hx2 hm2 hd2' hw2 hb2 c0 c1 c2 c3 c4 c5 c6 HX hw12 hw1 hlt
    go_wp2_with fail
    refine (plen_any data.length _ w2 (by omega)).mono ?_
    rintro e w3 ⟨v3, rfl, hv3, hb3⟩
    have f4 := (hb3.cell (p := ⟨w.heap.size, 4, none⟩) hlt2).trans d4
    have f5 := (hb3.cell (p := ⟨w.heap.size, 5, none⟩) hlt2).trans d5
    have f6 := (hb3.cell (p := ⟨w.heap.size, 6, none⟩) hlt2).trans d6
    have HB3 := Lib.hid hb3
    have HV3 := Lib.hid hv3
    have hlt3 : w.heap.size < w3.heap.size := by have := hb3.size; omega
    obtain ⟨A3, k3, rfl, _, _, _⟩ := hv3
    clear hb3 d4 d5 d6 hlt2
    go_wp2_with fail
    refine (plen_any le _ w3 (by omega)).mono ?_
    rintro e w4 ⟨v4, rfl, hv4, hb4⟩
    have g4 := (hb4.cell (p := ⟨w.heap.size, 4, none⟩) hlt3).trans f4
    have HB4 := Lib.hid hb4
    have HV4 := Lib.hid hv4
    obtain ⟨A4, k4, rfl, _, _, _⟩ := hv4
    clear hb4 f4 f5 f6
    have z1 := ((HX2.out).on HB3.out).on HB4.out
    have z2 := ((HM2.out).on HB3.out).on HB4.out
    have z4 := ((HD2.out).on HB3.out).on HB4.out
    have z3 := (HV3.out).on HB4.out
    have z5 := HV4.out
    have hwc : Below w.heap.size w w4 := ((((HW2.out).trans (HB3.out.mono (HW2.out).size))).trans (HB4.out.mono (((HW2.out).trans (HB3.out.mono (HW2.out).size))).size))
    have HJ := Lib.hid (join_five _ _ _ _ _ _ _ _ _ _ w4 z1 z2 z3 z4 z5 (by simp only [List.length_cons, List.length_nil]; omega))
    have HWC := Lib.hid hwc
    clear z1 z2 z3 z4 z5 hwc
    go_wp2_with fail
    refine HJ.out.mono ?_
    rintro e w5 ⟨v5, rfl, hv5, hb5⟩
    go_wp2_with fail
    go_ret2
    exact ⟨_, by rw [H0.out]; rfl, by rw [HV.out]; exact hv5, HWC.out.trans (hb5.mono HWC.out.size)⟩
  · go_enter Try.func12, Try.ntmps12
    go_wp2_with fail
    refine (HC.out _ _ _).mono ?_
    rintro e w1 ⟨rfl, hb1⟩
    rw [H0.out]
    rw [alloc_size] at hb1
    have c0 := box_cell hb1 0 _ rfl
    have c1 := box_cell hb1 1 _ rfl
    have c2 := box_cell hb1 2 _ rfl
    have c3 := box_cell hb1 3 _ rfl
    have c4 := box_cell hb1 4 _ rfl
    have c5 := box_cell hb1 5 _ rfl
    have c6 := box_cell hb1 6 _ rfl
    have hs1 := hb1.size
    rw [alloc_size] at hs1
    have hw1 : Below w.heap.size w w1 := (alloc_below _ _).trans (hb1.mono (by omega))
    have HD1 := Lib.hid (HD.out.on hw1)
    have HX := Lib.hid (SL.lit' w1 [x0, x1, x2, x3] (by simp))
    have hlt : w.heap.size < w1.heap.size := by omega
    clear hb1 hs1
    go_wp2_with fail
    refine (HK.out _ _ _).mono ?_
    rintro e w2 ⟨rfl, hb2⟩
    rw [HQ.out]
    have hw12 : Below w1.heap.size w1 w2 := by first | exact (alloc_below _ _).trans (hb2.mono (by rw [alloc_size]; omega)) | exact ((alloc_below _ _).alloc (by rw [alloc_size]; omega) _).trans (hb2.mono (by rw [alloc_size, alloc_size]; omega))
    have HW12 := Lib.hid hw12
    have d4 := (hw12.cell (p := ⟨w.heap.size, 4, none⟩) hlt).trans c4
    have d5 := (hw12.cell (p := ⟨w.heap.size, 5, none⟩) hlt).trans c5
    have d6 := (hw12.cell (p := ⟨w.heap.size, 6, none⟩) hlt).trans c6
    have hx2 : SL w2 w2.heap.size (.slice (some ⟨w1.heap.size, 0, none⟩) 4 4) [x0, x1, x2, x3] := by first | exact HX.out.on hb2 | exact (HX.out.on (alloc_below _ _)).on hb2
    have hm2 : SL w2 w2.heap.size (.slice (some ⟨(w1.alloc (.cells ([x0, x1, x2, x3].map bv).toArray 5)).heap.size, 0, none⟩) 1 1) (markL true) := (SL.lit' (w1.alloc (.cells ([x0, x1, x2, x3].map bv).toArray 5)) [0] (by simp)).on hb2
    rw [alloc_size] at hm2
    have hw2 : Below w.heap.size w w2 := hw1.trans (hw12.mono hw1.size)
    have hd2' := HD1.out.on hw12
    have HX2 := Lib.hid hx2
    have HM2 := Lib.hid hm2
    have HD2 := Lib.hid hd2'
    have HW2 := Lib.hid hw2
    have hlt2 : w.heap.size < w2.heap.size := by have := hw12.size; omega
    clear hx2 hm2 hd2' hw2 hb2 c0 c1 c2 c3 c4 c5 c6 HX hw12 hw1 hlt
    go_wp2_with fail
    refine (plen_any data.length _ w2 (by omega)).mono ?_
    rintro e w3 ⟨v3, rfl, hv3, hb3⟩
    have f4 := (hb3.cell (p := ⟨w.heap.size, 4, none⟩) hlt2).trans d4
    have f5 := (hb3.cell (p := ⟨w.heap.size, 5, none⟩) hlt2).trans d5
    have f6 := (hb3.cell (p := ⟨w.heap.size, 6, none⟩) hlt2).trans d6
    have HB3 := Lib.hid hb3
    have HV3 := Lib.hid hv3
    have hlt3 : w.heap.size < w3.heap.size := by have := hb3.size; omega
    obtain ⟨A3, k3, rfl, _, _, _⟩ := hv3
    clear hb3 d4 d5 d6 hlt2
    go_wp2_with fail
    refine (plen_any le _ w3 (by omega)).mono ?_
    rintro e w4 ⟨v4, rfl, hv4, hb4⟩
    have g4 := (hb4.cell (p := ⟨w.heap.size, 4, none⟩) hlt3).trans f4
    have HB4 := Lib.hid hb4
    have HV4 := Lib.hid hv4
    obtain ⟨A4, k4, rfl, _, _, _⟩ := hv4
    clear hb4 f4 f5 f6
    have z1 := ((HX2.out).on HB3.out).on HB4.out
    have z2 := ((HM2.out).on HB3.out).on HB4.out
    have z4 := ((HD2.out).on HB3.out).on HB4.out
    have z3 := (HV3.out).on HB4.out
    have z5 := HV4.out
    have hwc : Below w.heap.size w w4 := ((((HW2.out).trans (HB3.out.mono (HW2.out).size))).trans (HB4.out.mono (((HW2.out).trans (HB3.out.mono (HW2.out).size))).size))
    have HJ := Lib.hid (join_five _ _ _ _ _ _ _ _ _ _ w4 z1 z2 z3 z4 z5 (by simp only [List.length_cons, List.length_nil]; omega))
    have HWC := Lib.hid hwc
    clear z1 z2 z3 z4 z5 hwc
    go_wp2_with fail
    refine HJ.out.mono ?_
    rintro e w5 ⟨v5, rfl, hv5, hb5⟩
    go_wp2_with fail
    go_ret2
    exact ⟨_, by rw [H0.out]; rfl, by rw [HV.out]; exact hv5, HWC.out.trans (hb5.mono HWC.out.size)⟩

set_option maxRecDepth 100000 in
theorem penc_bad (c : Cm) (d : Value) (w : World) (hv : SL w w.heap.size d c.data) (h0 : chkC c ≠ 0) (hle : -9223372036854775808 ≤ c.le ∧ c.le ≤ 9223372036854775807) :
    Calls Try.prog 12 #[c.val d] w (EncR c w) := by
  obtain ⟨A, k, rfl, _, _, _⟩ := hv
  have HC := Lib.hid (fun (w : World) => pchk_any c A c.data.length k w rfl hle)
  have HV : Hid (encV c = []) := by show _ = _; rw [encV, if_neg h0]
  have hz : (chkC c != 0) = true := by rw [bne_iff_ne]; exact h0
  obtain ⟨cla, ins, p1, p2, data, le, long⟩ := c
  simp only [Cm.val] at HC ⊢
  clear h0
  go_enter Try.func12, Try.ntmps12
  go_wp2_with fail
  refine (HC.out _).mono ?_
  rintro e w1 ⟨rfl, hb1⟩
  have hw : Below w.heap.size w w1 := (alloc_below _ _).trans (hb1.mono (by rw [alloc_size]; omega))
  go_wp2_with fail
  go_ret2
  exact ⟨_, rfl, by rw [HV.out]; exact SL.nil _ _ _ _ (Nat.zero_le _), hw⟩

theorem penc_any (c : Cm) (d : Value) (w : World) (hv : SL w w.heap.size d c.data) (hle : -9223372036854775808 ≤ c.le ∧ c.le ≤ 9223372036854775807) :
    Calls Try.prog 12 #[c.val d] w (EncR c w) := by
  by_cases h0 : chkC c = 0
  · obtain ⟨hb, _, _, hp4, _, _⟩ := chk_parts h0
    obtain ⟨cla, ins, p1, p2, data, le, long⟩ := c
    simp only [bytesC, Bool.and_eq_true] at hb
    obtain ⟨⟨⟨b0, b1⟩, b2⟩, b3⟩ := hb
    obtain ⟨x0, rfl⟩ := byte_of b0
    obtain ⟨x1, rfl⟩ := byte_of b1
    obtain ⟨x2, rfl⟩ := byte_of b2
    obtain ⟨x3, rfl⟩ := byte_of b3
    obtain ⟨n, rfl⟩ := Int.eq_ofNat_of_zero_le hp4
    rcases Nat.eq_zero_or_pos data.length with hd | hd
    · rcases Nat.eq_zero_or_pos n with hl | hl
      · exact penc_1 x0 x1 x2 x3 data n long d w hv h0 (List.eq_nil_of_length_eq_zero hd) hl
      · exact penc_2 x0 x1 x2 x3 data n long d w hv h0 (List.eq_nil_of_length_eq_zero hd) hl
    · rcases Nat.eq_zero_or_pos n with hl | hl
      · exact penc_3 x0 x1 x2 x3 data n long d w hv h0 hd hl
      · exact penc_4 x0 x1 x2 x3 data n long d w hv h0 hd hl
  · exact penc_bad c d w hv h0 hle
end Go.Proofs.Ytjoibonbmalbdaa
