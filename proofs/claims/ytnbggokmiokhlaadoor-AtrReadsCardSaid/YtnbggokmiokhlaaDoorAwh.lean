/-
  own, IFS and Sum of the program: the walks (gen5_ifs.py).
-/
import Derived.Test.YtnbggokmiokhlaaDoorAwg
namespace Go.Proofs.YtnbggokmiokhlaaDoor
set_option linter.unusedVariables false
set_option linter.unusedSimpArgs false
open Go.RowKit

def ownK (q : Int) (x : Ib) : Bool := ownB x && decide (x.k = q)
def ownO (l : List Ib) (q : Int) : Bool := l.any (ownK q)
def ownV (l : List Ib) (q : Int) : Int := if ownO l q = true then (l.getD (l.findIdx (ownK q)) Ib.zero).v else 0
theorem own_at {l : List Ib} {q : Int} {k : Nat} (hk : k < l.length) (h : ownK q (l.getD k Ib.zero) = true) (hb : ∀ j, j < k → ownK q (l.getD j Ib.zero) = false) : ownO l q = true ∧ ownV l q = (l.getD k Ib.zero).v := by
  have h1 := idxF_at (ownK q) l k hk h hb
  unfold idxF at h1
  by_cases ha : l.any (ownK q) = true
  · rw [if_pos ha] at h1
    have e : l.findIdx (ownK q) = k := by omega
    refine ⟨ha, ?_⟩
    unfold ownV ownO
    rw [if_pos ha, e]
  · rw [if_neg ha] at h1; omega
theorem own_no {l : List Ib} {q : Int} (h : ∀ j, j < l.length → ownK q (l.getD j Ib.zero) = false) : ownO l q = false ∧ ownV l q = 0 := by
  have h1 := idxF_no (ownK q) l h
  unfold idxF at h1
  by_cases ha : l.any (ownK q) = true
  · rw [if_pos ha] at h1; omega
  · have : ownO l q = false := by unfold ownO; simpa using ha
    refine ⟨this, ?_⟩
    unfold ownV
    rw [this]; rfl
theorem own_idx {l : List Ib} {q : Int} : (ownO l q = true → ∃ k : Nat, idxF (ownK q) l = (k : Int) ∧ k < l.length ∧ ownV l q = (l.getD k Ib.zero).v) ∧ (ownO l q = false → idxF (ownK q) l = -1) := by
  refine ⟨fun h => ?_, fun h => ?_⟩
  · refine ⟨l.findIdx (ownK q), ?_, ?_, ?_⟩
    · unfold idxF; exact if_pos h
    · unfold ownO at h
      obtain ⟨x, hx, e⟩ := List.any_eq_true.1 h
      exact List.findIdx_lt_length_of_exists ⟨x, hx, e⟩
    · unfold ownV; rw [if_pos h]
  · unfold idxF
    unfold ownO at h
    rw [h]; rfl
theorem own_byte {a : At} (h : Valid a) (q : Int) : 0 ≤ ownV a.ibs q ∧ ownV a.ibs q ≤ 255 := by
  by_cases ho : ownO a.ibs q = true
  · obtain ⟨k, _, hk, e⟩ := own_idx.1 ho
    have := ib_facts (chnB_at a.prs a.ibs Ib.zero h.chn k hk).ib
    rw [e]; omega
  · unfold ownV; rw [if_neg ho]; omega

set_option maxRecDepth 100000 in
set_option maxHeartbeats 1600000 in
theorem pcl_any (q : Int) (b : Nat) (x : Ib) (w : World) (hc : w.cell? ⟨b, 0, none⟩ = some (.int .i64 q)) :
    Calls Tryd.prog 102 #[x.val, .pointer (some ⟨b, 0, none⟩)] w fun e w' => e = .returned (.bool (ownK q x)) ∧ Below w.heap.size w w' := by
  have HO := Lib.hid (fun (W : World) => pown_any x W)
  have HK : Hid (ownK q x = (ownB x && decide (x.k = q))) := rfl
  obtain ⟨xg, xk, xv, xp⟩ := x
  simp only [Ib.val] at *
  generalize ownB ⟨xg, xk, xv, xp⟩ = X at *
  have hal := Lib.hid (alloc_below w (.cells #[.int .i64 xg, .int .i64 xk, .int .i64 xv, .int .i64 xp] 60))
  have hrow := Lib.hid (heap_alloc_new w (.cells #[.int .i64 xg, .int .i64 xk, .int .i64 xv, .int .i64 xp] 60))
  have HC := Lib.hid hc
  have hbl := World.block_lt_of_cell? w _ hc
  clear hc
  go_enter Tryd.func102, Tryd.ntmps102
  go_wp2_with fail
  generalize w.alloc (.cells #[.int .i64 xg, .int .i64 xk, .int .i64 xv, .int .i64 xp] 60) = W0 at *
  refine (HO.out W0).mono ?_
  rintro e w1 ⟨rfl, hb1⟩
  have HB1 := Lib.hid (hal.out.trans (hb1.mono hal.out.size))
  obtain ⟨r0, r1, r2, r3⟩ := cellsA ((hb1.block _ (row_lt hrow.out)).trans hrow.out)
  have g0 := (HB1.out.cell (p := ⟨b, 0, none⟩) hbl).trans HC.out
  clear hb1
  cases X with
  | false =>
    have HF : Hid (ownK q ⟨xg, xk, xv, xp⟩ = false) := by show _ = _; rw [HK.out]; rfl
    go_wp2_with fail
    go_ret
    exact ⟨ret_bool HF.out.symm, HB1.out⟩
  | true =>
    by_cases hq : xk = q
    · have HF : Hid (ownK q ⟨xg, xk, xv, xp⟩ = true) := by show _ = _; rw [HK.out]; simp [hq]
      have hqb : (xk == q) = true := by rw [beq_iff_eq]; exact hq
      have HQ := Lib.hid hq
      clear hq
      go_wp2_with fail
      go_ret
      exact ⟨ret_bool HF.out.symm, HB1.out⟩
    · have HF : Hid (ownK q ⟨xg, xk, xv, xp⟩ = false) := by show _ = _; rw [HK.out]; simp [hq]
      have hqb : (xk == q) = false := by rw [beq_eq_false_iff_ne]; exact hq
      go_wp2_with fail
      go_ret
      exact ⟨ret_bool HF.out.symm, HB1.out⟩

set_option maxRecDepth 100000 in
set_option maxHeartbeats 1600000 in
theorem pidk_any (q : Int) (b : Nat) (l : List Ib) (v : Value) (w : World) (h : IL w w.heap.size v l) (hc : w.cell? ⟨b, 0, none⟩ = some (.int .i64 q)) :
    Calls Tryd.prog 101 #[v, .func (.func 102) #[] #[.pointer (some ⟨b, 0, none⟩)]] w fun e w' => e = .returned (.int .i64 (idxF (ownK q) l)) ∧ Below w.heap.size w w' := by
  obtain ⟨A, c, rfl, h1, h2, h3⟩ := h
  unfold maxLen at h2
  have D1 := Lib.hid h3
  have HC := Lib.hid hc
  have hbl := World.block_lt_of_cell? w _ hc
  clear h3 hc
  go_enter Tryd.func101, Tryd.ntmps101
  go_wp2
  go_loopw [8] (fun i wr => ∃ k : Nat, k ≤ l.length ∧ i = .int .i64 k ∧ Hid (∀ j, j < k → ownK q (l.getD j Ib.zero) = false) ∧ Below w.heap.size w wr) (fun i _ => l.length - (intOf i).toNat)
  case atStart => exact ⟨0, Nat.zero_le _, rfl, fun j hj => absurd hj (by omega), Below.refl _ _⟩
  case round =>
    obtain ⟨k, hk, rfl, HE, hbel⟩ := hrel
    by_cases hlt : k < l.length
    · obtain ⟨b', o, rfl, hb, hc⟩ := D1.out (by omega)
      have hi := (hc k hlt).keep hb (fun p hp => hbel.cell hp)
      have HAT := Lib.hid (idxF_at (ownK q) l k hlt)
      have HSN := Lib.hid (@no_snoc (ownK q) l k HE.out)
      clear hc
      generalize l.getD k Ib.zero = x at hi HAT HSN
      obtain ⟨xg, xk, xv, xp⟩ := x
      obtain ⟨g1, g2, g3, g4⟩ := hi
      simp only at g1 g2 g3 g4
      have HO : Hid (Calls Tryd.prog 102 #[.agg #[.int .i64 xg, .int .i64 xk, .int .i64 xv, .int .i64 xp], .pointer (some ⟨b, 0, none⟩)] wr fun e w' => e = .returned (.bool (ownK q ⟨xg, xk, xv, xp⟩)) ∧ Below wr.heap.size wr w') := pcl_any q b ⟨xg, xk, xv, xp⟩ wr ((hbel.cell (p := ⟨b, 0, none⟩) hbl).trans HC.out)
      generalize ownK q ⟨xg, xk, xv, xp⟩ = X at *
      have HB := Lib.hid hbel
      clear hbel
      go_wp2_with fail
      refine HO.out.mono ?_
      rintro e w2 ⟨rfl, hb2⟩
      have HB2 := Lib.hid (HB.out.trans (hb2.mono HB.out.size))
      clear hb2
      cases X with
      | true =>
        go_wp2_with fail
        go_ret
        exact ⟨ret_int (HAT.out (by first | exact trivial | rfl) HE.out).symm, HB2.out⟩
      | false =>
        go_wp2_with fail
        go_roundw
        case rel => exact ⟨k + 1, by omega, by go_num, HSN.out (by first | exact trivial | rfl), HB2.out⟩
        case measure => simp [intOf]; omega
    · have hkk : k = l.length := by omega
      subst hkk
      go_wp2
      go_ret
      exact ⟨ret_int (idxF_no (ownK q) l HE.out).symm, hbel⟩

set_option maxRecDepth 100000 in
set_option maxHeartbeats 1600000 in
theorem pown2_any (q : Int) (a : At) (v : Value) (w : World) (h : AT w v a) :
    Calls Tryd.prog 59 #[v, .int .i64 q] w fun e w' => e = .returned (.tuple #[.int .i64 (ownV a.ibs q), .bool (ownO a.ibs q)]) ∧ Below w.heap.size w w' := by
  have HX := Lib.hid (@own_idx a.ibs q)
  have HNO : Hid (ownO a.ibs q = false → ownV a.ibs q = 0) := fun h => by unfold ownV; rw [h]; rfl
  obtain ⟨v1, v2, v3, rfl, h1, h2, h3⟩ := h
  have HI := Lib.hid (fun (W : World) (b : Nat) (hW : Below w.heap.size w W) (hc : W.cell? ⟨b, 0, none⟩ = some (.int .i64 q)) => pidk_any q b a.ibs v1 W (h1.on hW) hc)
  obtain ⟨A1, c1, rfl, a1, b1, d1⟩ := h1
  obtain ⟨A2, c2, rfl, a2, b2, d2⟩ := h2
  obtain ⟨A3, c3, rfl, a3, b3, d3⟩ := h3
  unfold maxLen at b1 b2 b3
  have D1 := Lib.hid d1
  clear d1 d2 d3
  generalize ownO a.ibs q = O at *
  generalize ownV a.ibs q = V at *
  generalize idxF (ownK q) a.ibs = ix at *
  have hal := Lib.hid (two_alloc w (.cells #[.bool a.inv, .slice A1 a.ibs.length c1, .slice A2 a.prs.length c2, .slice A3 a.his.length c3] 26) (.cells #[.int .i64 q] 3))
  have hr1 := Lib.hid (heap_alloc2_old w (.cells #[.bool a.inv, .slice A1 a.ibs.length c1, .slice A2 a.prs.length c2, .slice A3 a.his.length c3] 26) (.cells #[.int .i64 q] 3))
  have hr2 := Lib.hid (heap_alloc2_new w (.cells #[.bool a.inv, .slice A1 a.ibs.length c1, .slice A2 a.prs.length c2, .slice A3 a.his.length c3] 26) (.cells #[.int .i64 q] 3))
  cases O with
  | false =>
    obtain rfl := HX.out.2 (by first | exact trivial | rfl)
    have HV0 := Lib.hid (HNO.out (by first | exact trivial | rfl))
    go_enter Tryd.func59, Tryd.ntmps59
    go_wp2_with fail
    generalize (w.alloc (.cells #[.bool a.inv, .slice A1 a.ibs.length c1, .slice A2 a.prs.length c2, .slice A3 a.his.length c3] 26)).alloc (.cells #[.int .i64 q] 3) = W0 at *
    refine (HI.out _ _ hal.out (cell_of_row _ _ 0 _ _ _ hr2.out)).mono ?_
    rintro e w1 ⟨rfl, hb1⟩
    go_wp2_with fail
    go_ret2
    exact ⟨by rw [HV0.out]; rfl, hal.out.trans (hb1.mono hal.out.size)⟩
  | true =>
    obtain ⟨k, rfl, hk, he⟩ := HX.out.1 (by first | exact trivial | rfl)
    obtain ⟨b', o', rfl, hb', hc'⟩ := D1.out (by omega)
    have hi := hc' k hk
    have HVE := Lib.hid he
    clear he hc'
    generalize a.ibs.getD k Ib.zero = x at *
    obtain ⟨xg, xk, xv, xp⟩ := x
    obtain ⟨g1, g2, g3, g4⟩ := hi
    simp only at g1 g2 g3 g4
    have i1 : (k : Int) < (a.ibs.length : Int) := by omega
    go_enter Tryd.func59, Tryd.ntmps59
    go_wp2_with fail
    generalize (w.alloc (.cells #[.bool a.inv, .slice (some ⟨b', o', none⟩) a.ibs.length c1, .slice A2 a.prs.length c2, .slice A3 a.his.length c3] 26)).alloc (.cells #[.int .i64 q] 3) = W0 at *
    refine (HI.out _ _ hal.out (cell_of_row _ _ 0 _ _ _ hr2.out)).mono ?_
    rintro e w1 ⟨rfl, hb1⟩
    have HB1 := Lib.hid (hal.out.trans (hb1.mono hal.out.size))
    obtain ⟨r0, r1, r2, r3⟩ := cellsA ((hb1.block _ (row_lt hr1.out)).trans hr1.out)
    have g3' := (HB1.out.cell (p := ⟨b', o' + k * 4 + 2, none⟩) hb').trans g3
    clear hb1
    go_wp2_with fail
    go_ret2
    exact ⟨by rw [HVE.out]; rfl, HB1.out⟩

def ifsV (a : At) : Int := if chkE a = 0 then (if ownO a.ibs 0 = true ∧ 1 ≤ ownV a.ibs 0 ∧ ownV a.ibs 0 ≤ 254 then ownV a.ibs 0 else 32) else 0
def sumV (a : At) : Int := if chkE a = 0 then (if ownO a.ibs 2 = true ∧ ownV a.ibs 2 % 2 = 1 then 1 else 0) else 0
theorem and1 (n : Int) (h0 : 0 ≤ n) (h1 : n ≤ 255) : bits .and .i64 n 1 = n % 2 := by
  obtain ⟨k, rfl⟩ := Int.eq_ofNat_of_zero_le h0
  have : ∀ k : Nat, k < 256 → bits .and .i64 (k : Int) 1 = (k : Int) % 2 := by decide +kernel
  exact this k (by omega)

set_option maxRecDepth 100000 in
set_option maxHeartbeats 1600000 in
theorem pifsV_any (a : At) (v : Value) (w : World) (h : AT w v a) (hg : ∀ x ∈ a.ibs, x.g ≤ 9223372036854775807) (hl : a.ibs.length ≤ 200) (hT : Tb w) :
    Calls Tryd.prog 27 #[v] w fun e w' => e = .returned (.int .i64 (ifsV a)) ∧ Below w.heap.size w w' := by
  have HC := Lib.hid (fun (W : World) (hW : Below w.heap.size w W) => pchka_any a v W (h.on hW) hg hl (hT.on hW))
  have HO := Lib.hid (fun (W : World) (hW : Below w.heap.size w W) => pown2_any 0 a v W (h.on hW))
  have HBY := Lib.hid (fun (hv : chkE a = 0) => own_byte (valid_of (chkE_valid hv)) 0)
  have HD : Hid (ifsV a = if chkE a = 0 then (if ownO a.ibs 0 = true ∧ 1 ≤ ownV a.ibs 0 ∧ ownV a.ibs 0 ≤ 254 then ownV a.ibs 0 else 32) else 0) := rfl
  obtain ⟨v1, v2, v3, rfl, h1, h2, h3⟩ := h
  obtain ⟨A1, c1, rfl, _, _, _⟩ := h1
  obtain ⟨A2, c2, rfl, _, _, _⟩ := h2
  obtain ⟨A3, c3, rfl, _, _, _⟩ := h3
  clear hg hT
  generalize chkE a = E at *
  generalize ownO a.ibs 0 = O at *
  generalize ownV a.ibs 0 = V at *
  have hal := Lib.hid (alloc_below w (.cells #[.bool a.inv, .slice A1 a.ibs.length c1, .slice A2 a.prs.length c2, .slice A3 a.his.length c3] 26))
  have hrow := Lib.hid (heap_alloc_new w (.cells #[.bool a.inv, .slice A1 a.ibs.length c1, .slice A2 a.prs.length c2, .slice A3 a.his.length c3] 26))
  have hsz : Hid (w.heap.size < (w.alloc (.cells #[.bool a.inv, .slice A1 a.ibs.length c1, .slice A2 a.prs.length c2, .slice A3 a.his.length c3] 26)).heap.size) := by show _ < _; rw [alloc_size]; omega
  by_cases h0 : E = 0
  case neg =>
    have hn : (E != 0) = true := by rw [bne_iff_ne]; exact h0
    have HD2 : Hid (ifsV a = 0) := by show _ = _; rw [HD.out, if_neg h0]
    go_enter Tryd.func27, Tryd.ntmps27
    go_wp2_with fail
    refine (HC.out _ hal.out).mono ?_
    rintro e w1 ⟨rfl, hb1⟩
    go_wp2_with fail
    go_ret
    exact ⟨ret_int HD2.out.symm, hal.out.trans (hb1.mono hal.out.size)⟩
  subst h0
  obtain ⟨y1, y2⟩ := HBY.out (by first | exact trivial | rfl)

  cases O with
  | false =>
    have HD2 : Hid (ifsV a = 32) := by show _ = _; rw [HD.out]; simp
    go_enter Tryd.func27, Tryd.ntmps27
    go_wp2_with fail
    refine (HC.out _ hal.out).mono ?_
    rintro e w1 ⟨rfl, hb1⟩
    have HB1 := Lib.hid (hal.out.trans (hb1.mono hal.out.size))
    obtain ⟨r0, r1, r2, r3⟩ := cellsA ((hb1.block _ hsz.out).trans hrow.out)
    clear hb1
    go_wp2_with fail
    refine (HO.out _ HB1.out).mono ?_
    rintro e w2 ⟨rfl, hb2⟩
    go_wp2_with fail
    go_ret
    exact ⟨ret_int HD2.out.symm, HB1.out.trans (hb2.mono HB1.out.size)⟩
  | true =>
    by_cases x1 : 1 ≤ V
    case neg =>
      have HD2 : Hid (ifsV a = 32) := by show _ = _; rw [HD.out]; rw [if_pos (by first | exact trivial | rfl), if_neg (by omega)]
      go_enter Tryd.func27, Tryd.ntmps27
      go_wp2_with fail
      refine (HC.out _ hal.out).mono ?_
      rintro e w1 ⟨rfl, hb1⟩
      have HB1 := Lib.hid (hal.out.trans (hb1.mono hal.out.size))
      obtain ⟨r0, r1, r2, r3⟩ := cellsA ((hb1.block _ hsz.out).trans hrow.out)
      clear hb1
      go_wp2_with fail
      refine (HO.out _ HB1.out).mono ?_
      rintro e w2 ⟨rfl, hb2⟩
      go_wp2_with fail
      go_ret
      exact ⟨ret_int HD2.out.symm, HB1.out.trans (hb2.mono HB1.out.size)⟩
    by_cases x2 : V ≤ 254
    case neg =>
      have HD2 : Hid (ifsV a = 32) := by show _ = _; rw [HD.out]; rw [if_pos (by first | exact trivial | rfl), if_neg (by omega)]
      go_enter Tryd.func27, Tryd.ntmps27
      go_wp2_with fail
      refine (HC.out _ hal.out).mono ?_
      rintro e w1 ⟨rfl, hb1⟩
      have HB1 := Lib.hid (hal.out.trans (hb1.mono hal.out.size))
      obtain ⟨r0, r1, r2, r3⟩ := cellsA ((hb1.block _ hsz.out).trans hrow.out)
      clear hb1
      go_wp2_with fail
      refine (HO.out _ HB1.out).mono ?_
      rintro e w2 ⟨rfl, hb2⟩
      go_wp2_with fail
      go_ret
      exact ⟨ret_int HD2.out.symm, HB1.out.trans (hb2.mono HB1.out.size)⟩
    have HD2 : Hid (ifsV a = V) := by show _ = _; rw [HD.out]; rw [if_pos (by first | exact trivial | rfl), if_pos ⟨by first | exact trivial | rfl, x1, x2⟩]
    go_enter Tryd.func27, Tryd.ntmps27
    go_wp2_with fail
    refine (HC.out _ hal.out).mono ?_
    rintro e w1 ⟨rfl, hb1⟩
    have HB1 := Lib.hid (hal.out.trans (hb1.mono hal.out.size))
    obtain ⟨r0, r1, r2, r3⟩ := cellsA ((hb1.block _ hsz.out).trans hrow.out)
    clear hb1
    go_wp2_with fail
    refine (HO.out _ HB1.out).mono ?_
    rintro e w2 ⟨rfl, hb2⟩
    go_wp2_with fail
    go_ret
    exact ⟨ret_int HD2.out.symm, HB1.out.trans (hb2.mono HB1.out.size)⟩

set_option maxRecDepth 100000 in
set_option maxHeartbeats 1600000 in
theorem psumV_any (a : At) (v : Value) (w : World) (h : AT w v a) (hg : ∀ x ∈ a.ibs, x.g ≤ 9223372036854775807) (hl : a.ibs.length ≤ 200) (hT : Tb w) :
    Calls Tryd.prog 29 #[v] w fun e w' => e = .returned (.int .i64 (sumV a)) ∧ Below w.heap.size w w' := by
  have HC := Lib.hid (fun (W : World) (hW : Below w.heap.size w W) => pchka_any a v W (h.on hW) hg hl (hT.on hW))
  have HO := Lib.hid (fun (W : World) (hW : Below w.heap.size w W) => pown2_any 2 a v W (h.on hW))
  have HBY := Lib.hid (fun (hv : chkE a = 0) => own_byte (valid_of (chkE_valid hv)) 2)
  have HD : Hid (sumV a = if chkE a = 0 then (if ownO a.ibs 2 = true ∧ ownV a.ibs 2 % 2 = 1 then 1 else 0) else 0) := rfl
  obtain ⟨v1, v2, v3, rfl, h1, h2, h3⟩ := h
  obtain ⟨A1, c1, rfl, _, _, _⟩ := h1
  obtain ⟨A2, c2, rfl, _, _, _⟩ := h2
  obtain ⟨A3, c3, rfl, _, _, _⟩ := h3
  clear hg hT
  generalize chkE a = E at *
  generalize ownO a.ibs 2 = O at *
  generalize ownV a.ibs 2 = V at *
  have hal := Lib.hid (alloc_below w (.cells #[.bool a.inv, .slice A1 a.ibs.length c1, .slice A2 a.prs.length c2, .slice A3 a.his.length c3] 26))
  have hrow := Lib.hid (heap_alloc_new w (.cells #[.bool a.inv, .slice A1 a.ibs.length c1, .slice A2 a.prs.length c2, .slice A3 a.his.length c3] 26))
  have hsz : Hid (w.heap.size < (w.alloc (.cells #[.bool a.inv, .slice A1 a.ibs.length c1, .slice A2 a.prs.length c2, .slice A3 a.his.length c3] 26)).heap.size) := by show _ < _; rw [alloc_size]; omega
  by_cases h0 : E = 0
  case neg =>
    have hn : (E != 0) = true := by rw [bne_iff_ne]; exact h0
    have HD2 : Hid (sumV a = 0) := by show _ = _; rw [HD.out, if_neg h0]
    go_enter Tryd.func29, Tryd.ntmps29
    go_wp2_with fail
    refine (HC.out _ hal.out).mono ?_
    rintro e w1 ⟨rfl, hb1⟩
    go_wp2_with fail
    go_ret
    exact ⟨ret_int HD2.out.symm, hal.out.trans (hb1.mono hal.out.size)⟩
  subst h0
  obtain ⟨y1, y2⟩ := HBY.out (by first | exact trivial | rfl)
  have hand : bits BinOp.and .i64 V 1 = V % 2 := and1 V y1 y2
  cases O with
  | false =>
    have HD2 : Hid (sumV a = 0) := by show _ = _; rw [HD.out]; simp
    go_enter Tryd.func29, Tryd.ntmps29
    go_wp2_with fail
    refine (HC.out _ hal.out).mono ?_
    rintro e w1 ⟨rfl, hb1⟩
    have HB1 := Lib.hid (hal.out.trans (hb1.mono hal.out.size))
    obtain ⟨r0, r1, r2, r3⟩ := cellsA ((hb1.block _ hsz.out).trans hrow.out)
    clear hb1
    go_wp2_with fail
    refine (HO.out _ HB1.out).mono ?_
    rintro e w2 ⟨rfl, hb2⟩
    go_wp2_with fail
    go_ret
    exact ⟨ret_int HD2.out.symm, HB1.out.trans (hb2.mono HB1.out.size)⟩
  | true =>
    by_cases x1 : V % 2 = 1
    case neg =>
      have x1b : (V % 2 == 1) = false := by rw [beq_eq_false_iff_ne]; exact x1
      have HD2 : Hid (sumV a = 0) := by show _ = _; rw [HD.out]; rw [if_pos (by first | exact trivial | rfl), if_neg (by omega)]
      go_enter Tryd.func29, Tryd.ntmps29
      go_wp2_with fail
      refine (HC.out _ hal.out).mono ?_
      rintro e w1 ⟨rfl, hb1⟩
      have HB1 := Lib.hid (hal.out.trans (hb1.mono hal.out.size))
      obtain ⟨r0, r1, r2, r3⟩ := cellsA ((hb1.block _ hsz.out).trans hrow.out)
      clear hb1
      go_wp2_with fail
      refine (HO.out _ HB1.out).mono ?_
      rintro e w2 ⟨rfl, hb2⟩
      go_wp2_with fail
      go_ret
      exact ⟨ret_int HD2.out.symm, HB1.out.trans (hb2.mono HB1.out.size)⟩
    have x1b : (V % 2 == 1) = true := by rw [beq_iff_eq]; exact x1
    have HD2 : Hid (sumV a = 1) := by show _ = _; rw [HD.out]; rw [if_pos (by first | exact trivial | rfl), if_pos ⟨by first | exact trivial | rfl, x1⟩]
    have HX1 := Lib.hid x1
    clear x1
    go_enter Tryd.func29, Tryd.ntmps29
    go_wp2_with fail
    refine (HC.out _ hal.out).mono ?_
    rintro e w1 ⟨rfl, hb1⟩
    have HB1 := Lib.hid (hal.out.trans (hb1.mono hal.out.size))
    obtain ⟨r0, r1, r2, r3⟩ := cellsA ((hb1.block _ hsz.out).trans hrow.out)
    clear hb1
    go_wp2_with fail
    refine (HO.out _ HB1.out).mono ?_
    rintro e w2 ⟨rfl, hb2⟩
    go_wp2_with fail
    go_ret
    exact ⟨ret_int HD2.out.symm, HB1.out.trans (hb2.mono HB1.out.size)⟩
end Go.Proofs.YtnbggokmiokhlaaDoor
