/-
  The walks of seal where it gives a response.
  The walk of Seal where it gives a response.
  The walks of open.
  The walks of Open.
-/
import Derived.Test.YtdalcldilmmgmaaDoorMgh
namespace Go.Proofs.YtdalcldilmmgmaaDoor
set_option linter.unusedVariables false
set_option linter.unusedSimpArgs false
open Go.RowKit


/-- What seal and open give where they give a response. -/
def SeP (w : World) (y : Rs) (e : Ending) (w' : World) : Prop := ∃ v, e = .returned (.tuple #[y.val v, .nilIface]) ∧ SL w' w'.heap.size v y.data ∧ Below w.heap.size w w'
theorem rs_cells (v : Option Addr) (n k : Nat) (a : Int) : ∀ (j : Nat) (z : Int), (#[Value.slice v n k, .int .i64 a] : Array Value)[j]? ≠ some (.int .u8 z) := by
  intro j z
  rcases Nat.lt_or_ge j 2 with hj | hj
  · have : j = 0 ∨ j = 1 := by omega
    rcases this with rfl | rfl <;> simp
  · rw [Array.getElem?_eq_none (by simp; omega)]; simp
/-- The response's box and the result's. -/
structure Rr (w W : World) (X : Obj) : Prop where
  bp : BP w.heap.size w W
  r1 : W.heap[w.heap.size]? = some X
  r2 : W.heap[w.heap.size + 1]? = some (.cells #[.slice none 0 0, .int .i64 0] 32 (0, 0))
theorem Rr.on {w W W2 : World} {X : Obj} (h : Rr w W X) (hb : Below W.heap.size W W2) : Rr w W2 X := ⟨h.bp.on hb, (hb.block _ (blk_lt h.r1)).trans h.r1, rowC hb h.r2⟩
theorem Rr.dr {w W : World} {X : Obj} (h : Rr w W X) : Rr w W.drew X := ⟨h.bp.dr, h.r1, h.r2⟩
theorem Rr.start (w : World) (X : Obj) : Rr w ((w.alloc X).alloc (.cells #[.slice none 0 0, .int .i64 0] 32)) X :=
  ⟨⟨alloc2_below w _ _, by rw [alloc_size, alloc_size]; omega⟩, heap_alloc2_old .., heap2_new ..⟩
/-- What is left behind the result's two stores. -/
theorem rr_fin {w W : World} {X : Obj} {A : Option Addr} {k : Nat} {l : List UInt8} {sw : Int} (h : Rr w W X) (hv : SL W W.heap.size (.slice A l.length k) l) :
    BP w.heap.size w ((W.setCell ⟨w.heap.size + 1, 0, none⟩ (.slice A l.length k)).setCell ⟨w.heap.size + 1, 1, none⟩ (.int .i64 sw)) ∧
    ((W.setCell ⟨w.heap.size + 1, 0, none⟩ (.slice A l.length k)).setCell ⟨w.heap.size + 1, 1, none⟩ (.int .i64 sw)).heap[w.heap.size + 1]? = some (.cells #[.slice A l.length k, .int .i64 sw] 32 (0, 0)) ∧
    SL ((W.setCell ⟨w.heap.size + 1, 0, none⟩ (.slice A l.length k)).setCell ⟨w.heap.size + 1, 1, none⟩ (.int .i64 sw)) ((W.setCell ⟨w.heap.size + 1, 0, none⟩ (.slice A l.length k)).setCell ⟨w.heap.size + 1, 1, none⟩ (.int .i64 sw)).heap.size (.slice A l.length k) l :=
  ⟨h.bp.st2 (Nat.le_succ _) .., row2st h.r2 .., ((offC h.r2 (rs_cells _ _ _ _) hv (Nat.le_refl _)).kb (((Kb.refl _ _).set 0 _).set 1 _)).sl⟩
set_option maxRecDepth 100000 in
set_option maxHeartbeats 3200000 in
theorem pseal_plain (g : Nat) (s : Ch) (r : Rs) (A : Option Addr) (k : Nat) (w : World) (h : CH w g s) (hE : ckE s r = 0) (hL : hasB s.lvl 16 = false) (hd : SL w w.heap.size (.slice A r.data.length k) r.data) (hl : r.data.length ≤ 2000) :
    Calls Tryd.prog 32 #[.pointer (some ⟨g, 0, none⟩), r.val (.slice A r.data.length k)] w (SeP w r) := by
  have hc := fun W (hW : Below w.heap.size w W) => pcheck_any g s r A r.data.length k W (h.below hW)
  rw [hE, erV, if_pos rfl] at hc
  have hh := fun W (hW : Below w.heap.size w W) => phas_any g 16 s W (h.below hW)
  rw [hL] at hh
  have hcl := fun W (hW : Below w.heap.size w W) => clone_any r.data _ W (hd.on hW) (by omega)
  have HP : Hid (∀ e v w', e = .returned (.tuple #[.agg #[v, .int .i64 r.sw], .nilIface]) → SL w' w'.heap.size v r.data → Below w.heap.size w w' → SeP w r e w') := fun e v w' he h1 h2 => ⟨v, he, h1, h2⟩
  obtain ⟨data, sw⟩ := r
  simp only [Rs.val] at *
  generalize SeP w ⟨data, sw⟩ = Q at *
  have HR := Lib.hid (Rr.start w (Obj.cells #[.slice A data.length k, .int .i64 sw] 32))
  have HC := Lib.hid hc
  have HH := Lib.hid hh
  have HCL := Lib.hid hcl
  clear hc hh hcl h hE hL hd
  have hlong : ¬ (65536 : Int) < (data.length : Int) := by omega
  go_enter Tryd.func32, Tryd.ntmps32
  go_wp2_with fail
  refine (HC.out _ HR.out.bp.b).mono ?_
  rintro e w3 ⟨rfl, hb3⟩
  have HR3 := Lib.hid (HR.out.on hb3)
  clear hb3
  obtain ⟨⟨q0, q1⟩, p0, p1⟩ := cells2 HR3.out.r1
  obtain ⟨⟨t0, t1⟩, f0, f1⟩ := cells2 HR3.out.r2
  go_wp2_with fail
  refine (HH.out _ HR3.out.bp.b).mono ?_
  rintro e w4 ⟨rfl, rfl⟩
  go_wp2_with fail
  have hS6 : True := trivial
  have hne1 : w.heap.size ≠ w.heap.size + 1 := by omega
  have hne2 : w.heap.size + 1 ≠ w.heap.size := by omega
  go_region_held3 (fun W => W.cell? ⟨w.heap.size, 0, none⟩ = some (.slice A data.length k) ∧ W.cell? ⟨w.heap.size, 1, none⟩ = some (.int .i64 sw))
    (first | (go_keep; done) | exact hS6)
    (first
      | (go_at_call 23; (with_reducible refine (HCL.out _ HR3.out.bp.b).mono ?_); rintro e w5 ⟨v5, rfl, hv5, hb5⟩; have HR5 := Lib.hid (HR3.out.on hb5); have hS6 := (cells2 HR5.out.r1).1; obtain ⟨⟨x0, x1⟩, y0, y1⟩ := cells2 HR5.out.r2; have HV5 := Lib.hid hv5; obtain ⟨A5, c5, rfl, _, _, _⟩ := id hv5)
      | (go_at_call 23; (with_reducible refine (HCL.out _ HR3.out.dr.bp.b).mono ?_); rintro e w5 ⟨v5, rfl, hv5, hb5⟩; have HR5 := Lib.hid (HR3.out.dr.on hb5); have hS6 := (cells2 HR5.out.r1).1; obtain ⟨⟨x0, x1⟩, y0, y1⟩ := cells2 HR5.out.r2; have HV5 := Lib.hid hv5; obtain ⟨A5, c5, rfl, _, _, _⟩ := id hv5)
      | fail "none")
  go_wp2_with fail
  have HF := rr_fin (sw := sw) HR5.out HV5.out
  exact bodyPost_ret (results_cell2 rfl _ _ (w.heap.size + 1) 32 _ (0, 0) _ rfl HF.2.1 Tryd.underlying32 rfl (by kernel_rfl)) rfl (HP.out _ _ _ rfl HF.2.2 HF.1.b)
/-- The body of a protected response, and the whole. -/
def seB (s : Ch) (r : Rs) (n : Nat) : List UInt8 := encF s 32 (ivF s.enc n 128) r.data
def seY (s : Ch) (r : Rs) (n : Nat) : Rs := ⟨seB s r n ++ rmF s r.sw (seB s r n), r.sw⟩
set_option maxRecDepth 100000 in
set_option maxHeartbeats 3200000 in
theorem pseal_mac (g : Nat) (s : Ch) (r : Rs) (A : Option Addr) (k n N : Nat) (w : World) (h : CH w g s) (hN : r.sw = (N : Int)) (hN6 : N ≤ 65535) (hE : ckE s r = 0) (hL : hasB s.lvl 16 = true)
    (he16 : s.enc.length = 16) (hm16 : s.rmac.length = 16) (hv8 : s.cv.length = 8) (hcn : s.cnt = (n : Int)) (hn : n ≤ 10000) (hd : SL w w.heap.size (.slice A r.data.length k) r.data) (hl : r.data.length ≤ 1990) :
    Calls Tryd.prog 32 #[.pointer (some ⟨g, 0, none⟩), r.val (.slice A r.data.length k)] w (SeP w (seY s r n)) := by
  have hc := fun W (hW : Below w.heap.size w W) => pcheck_any g s r A r.data.length k W (h.below hW)
  rw [hE, erV, if_pos rfl] at hc
  have hh := fun W (hW : Below w.heap.size w W) => phas_any g 16 s W (h.below hW)
  rw [hL] at hh
  have hst := fun W (hW : Below w.heap.size w W) => prst_any g s n W (h.below hW) he16 hcn hn
  have hen := fun W vi (hW : Below w.heap.size w W) (hi : SL W W.heap.size vi (ivF s.enc n 128)) => pencr_any g s 32 _ _ vi _ W (h.below hW) he16 (ivF_len ..) hi (hd.on hW) (by omega)
  have hBl : (seB s r n).length ≤ 1998 := by
    have := encF_le s 32 (ivF s.enc n 128) r.data (ivF_len ..)
    unfold seB; omega
  have hmc := fun W vb (hW : Below w.heap.size w W) (hb : SL W W.heap.size vb (seB s r n)) => prmac_any g s (seB s r n) vb N W (h.below hW) hm16 hv8 hN6 hb (by omega)
  have hBd : encF s 32 (ivF s.enc n 128) r.data = seB s r n := rfl
  rw [hBd] at hen
  have hMl : (rmF s N (seB s r n)).length = 8 := macL_len _ _ _
  have HP : Hid (∀ e v w', e = .returned (.tuple #[.agg #[v, .int .i64 N], .nilIface]) → SL w' w'.heap.size v (seB s r n ++ rmF s N (seB s r n)) → Below w.heap.size w w' → SeP w (seY s r n) e w') := fun e v w' he h1 h2 => by
    unfold SeP seY Rs.val
    rw [hN]
    exact ⟨v, he, h1, h2⟩
  generalize SeP w (seY s r n) = Q at *
  generalize rmF s N (seB s r n) = M at *
  generalize seB s r n = B at *
  generalize ivF s.enc n 128 = I at *
  obtain ⟨data, sw⟩ := r
  simp only [Rs.val] at *
  subst hN
  have hjn := fun (W : World) va vb h1 h2 W2 h3 h4 => join2 B M va vb W h1 h2 (by omega) (by omega) W2 h3 h4
  obtain ⟨D, hD⟩ : ∃ D, D = B ++ M := ⟨_, rfl⟩
  rw [← hD] at HP
  simp only [← hD] at hjn
  clear hD
  have HR := Lib.hid (Rr.start w (Obj.cells #[.slice A data.length k, .int .i64 N] 32))
  have HC := Lib.hid hc
  have HH := Lib.hid hh
  have HST := Lib.hid hst
  have HEN := Lib.hid hen
  have HMC := Lib.hid hmc
  have HJN := Lib.hid hjn
  have HBL := Lib.hid hBl
  have HD := Lib.hid hd
  have hlong : ¬ (65536 : Int) < (data.length : Int) := by omega
  clear hc hh hst hen hmc hjn hBl h hE hL hd hBd hMl he16 hm16 hv8 hcn hn
  go_enter Tryd.func32, Tryd.ntmps32
  go_wp2_with fail
  refine (HC.out _ HR.out.bp.b).mono ?_
  rintro e w3 ⟨rfl, hb3⟩
  have HR3 := Lib.hid (HR.out.on hb3)
  clear hb3
  obtain ⟨⟨q0, q1⟩, p0, p1⟩ := cells2 HR3.out.r1
  obtain ⟨⟨t0, t1⟩, f0, f1⟩ := cells2 HR3.out.r2
  go_wp2_with fail
  refine (HH.out _ HR3.out.bp.b).mono ?_
  rintro e w4 ⟨rfl, rfl⟩
  go_wp2_with fail
  have hS6 : True := trivial
  go_region_held3 (fun W => W.cell? ⟨w.heap.size, 0, none⟩ = some (.slice A data.length k) ∧ W.cell? ⟨w.heap.size, 1, none⟩ = some (.int .i64 N))
    (first | (go_keep; done) | exact hS6)
    (first
      | (go_at_call 49; (with_reducible refine (HST.out _ HR3.out.bp.b).mono ?_); rintro e w5 ⟨v5, rfl, hv5, hb5⟩; have HR5 := Lib.hid (HR3.out.on hb5); have HV5 := Lib.hid hv5; have hS6 := (cells2 HR5.out.r1).1)
      | (go_at_call 49; (with_reducible refine (HST.out _ HR3.out.dr.bp.b).mono ?_); rintro e w5 ⟨v5, rfl, hv5, hb5⟩; have HR5 := Lib.hid (HR3.out.dr.on hb5); have HV5 := Lib.hid hv5; have hS6 := (cells2 HR5.out.r1).1)
      | (go_at_call 39; (with_reducible refine (HEN.out _ _ HR5.out.bp.b HV5.out).mono ?_); rintro e w6 ⟨v6, rfl, hv6, hb6⟩; have HR6 := Lib.hid (HR5.out.on hb6); have HV6 := Lib.hid hv6; obtain ⟨A6, c6, rfl, _, _, _⟩ := id hv6; have hS6 := (cells2 HR6.out.r1).1)
      | fail "none")
  have hi2 : ¬ (65536 < (B.length : Int) + 8) := by have := HBL.out; omega
  have hi3 : IntKind.wrap .i64 ((B.length : Int) + 8) = (B.length : Int) + 8 := by have := HBL.out; rw [IntWalk.i64_in _ (by omega)]
  clear hv5 hb5 hv6 hb6 hS6 q0 q1 p0 p1 t0 t1 f0 f1
  obtain ⟨⟨q0, q1⟩, p0, p1⟩ := cells2 HR6.out.r1
  obtain ⟨⟨t0, t1⟩, f0, f1⟩ := cells2 HR6.out.r2
  go_wp2_with fail
  have hS6 : True := trivial
  have hne1 : w.heap.size ≠ w.heap.size + 1 := by omega
  have hne2 : w.heap.size + 1 ≠ w.heap.size := by omega
  go_region_held3 (fun W => W.cell? ⟨w.heap.size, 0, none⟩ = some (.slice A data.length k) ∧ W.cell? ⟨w.heap.size, 1, none⟩ = some (.int .i64 N))
    (first | (go_keep; done) | exact hS6)
    (first
      | (go_at_call 50; (with_reducible refine (HMC.out _ _ HR6.out.bp.b HV6.out).mono ?_); rintro e w7 ⟨v7, rfl, hv7, hb7⟩; have HR7 := Lib.hid (HR6.out.on hb7); have HB7 := Lib.hid ((HV6.out).on hb7); have HV7 := Lib.hid hv7; obtain ⟨A7, c7, rfl, _, _, _⟩ := id hv7; have hS6 := (cells2 HR7.out.r1).1; have HJ := Lib.hid (HJN.out w7 _ _ HB7.out HV7.out _ (alloc_below w7 (Obj.cells #[.slice A6 B.length c6, .slice A7 M.length c7] 22)) (heap_alloc_new w7 _)))
      | (go_at_call 50; (with_reducible refine (HMC.out _ _ HR6.out.dr.bp.b (HV6.out.on (Below.refl _ _).drew)).mono ?_); rintro e w7 ⟨v7, rfl, hv7, hb7⟩; have HR7 := Lib.hid (HR6.out.dr.on hb7); have HB7 := Lib.hid ((HV6.out.on (Below.refl _ _).drew).on hb7); have HV7 := Lib.hid hv7; obtain ⟨A7, c7, rfl, _, _, _⟩ := id hv7; have hS6 := (cells2 HR7.out.r1).1; have HJ := Lib.hid (HJN.out w7 _ _ HB7.out HV7.out _ (alloc_below w7 (Obj.cells #[.slice A6 B.length c6, .slice A7 M.length c7] 22)) (heap_alloc_new w7 _)))
      | (go_at_call 42; (with_reducible refine HJ.out.mono ?_); rintro e w8 ⟨v8, rfl, hv8, hb8⟩; have HR8 := Lib.hid (HR7.out.on hb8); have HV8 := Lib.hid hv8; obtain ⟨A8, c8, rfl, _, _, _⟩ := id hv8; have hS6 := (cells2 HR8.out.r1).1; obtain ⟨⟨x0, x1⟩, y0, y1⟩ := cells2 HR8.out.r2)
      | fail "none")
  go_wp2_with fail
  have HF := rr_fin (sw := N) HR8.out HV8.out
  exact bodyPost_ret (results_cell2 rfl _ _ (w.heap.size + 1) 32 _ (0, 0) _ rfl HF.2.1 Tryd.underlying32 rfl (by kernel_rfl)) rfl (HP.out _ _ _ rfl HF.2.2 HF.1.b)



theorem seal_fin {g : Nat} {s2 : Ch} {w w6 : World} {A4 : Option Addr} {c4 : Nat} {sw2 : Int} {dat2 : List UInt8} (hg : g < w.heap.size)
    (hk : Kb g w w6) (hr : w6.heap[w.heap.size + 1]? = some (.cells #[.slice none 0 0, .int .i64 0] 32 (0, 0))) (hc : CH w6 g s2) (hv : SL w6 w6.heap.size (.slice A4 dat2.length c4) dat2) :
    ((w6.setCell ⟨w.heap.size + 1, 0, none⟩ (.slice A4 dat2.length c4)).setCell ⟨w.heap.size + 1, 1, none⟩ (.int .i64 sw2)).heap[w.heap.size + 1]? = some (.cells #[.slice A4 dat2.length c4, .int .i64 sw2] 32 (0, 0)) ∧ SL ((w6.setCell ⟨w.heap.size + 1, 0, none⟩ (.slice A4 dat2.length c4)).setCell ⟨w.heap.size + 1, 1, none⟩ (.int .i64 sw2)) ((w6.setCell ⟨w.heap.size + 1, 0, none⟩ (.slice A4 dat2.length c4)).setCell ⟨w.heap.size + 1, 1, none⟩ (.int .i64 sw2)).heap.size (.slice A4 dat2.length c4) dat2 ∧ CH ((w6.setCell ⟨w.heap.size + 1, 0, none⟩ (.slice A4 dat2.length c4)).setCell ⟨w.heap.size + 1, 1, none⟩ (.int .i64 sw2)) g s2 ∧ Kb g w ((w6.setCell ⟨w.heap.size + 1, 0, none⟩ (.slice A4 dat2.length c4)).setCell ⟨w.heap.size + 1, 1, none⟩ (.int .i64 sw2)) := by
  have hkb : Kb (w.heap.size + 1) w6 ((w6.setCell ⟨w.heap.size + 1, 0, none⟩ (.slice A4 dat2.length c4)).setCell ⟨w.heap.size + 1, 1, none⟩ (.int .i64 sw2)) := ((Kb.refl _ _).set 0 _).set 1 _
  exact ⟨row2st hr .., ((offC hr (rs_cells _ _ _ _) hv (Nat.le_refl _)).kb hkb).sl, hc.keepb hr (rs_cells _ _ _ _) (by omega) hkb, (hk.far (Nat.le_succ _) 0 (.slice A4 dat2.length c4)).far (Nat.le_succ _) 1 (.int .i64 sw2)⟩
/-- A side that expects no response any more. -/
def Ch.quiet (s : Ch) : Ch := { s with exp := false }
theorem CH.quiet {w : World} {g : Nat} {s : Ch} (h : CH w g s) : CH (w.setCell ⟨g, 7, none⟩ (.bool false)) g s.quiet ∧ Kb g w (w.setCell ⟨g, 7, none⟩ (.bool false)) := by
  obtain ⟨A0, A1, A2, A3, A5, c0, c1, c2, c3, c5, hr, h0, h1, h2, h3, h5⟩ := h
  have hk : Kb g w (w.setCell ⟨g, 7, none⟩ (.bool false)) := (Kb.refl g w).set 7 _
  have r7 := heap_setCell_same w g 7 _ _ (.bool false) hr
  exact ⟨⟨A0, A1, A2, A3, A5, c0, c1, c2, c3, c5, r7, h0.kb hk, h1.kb hk, h2.kb hk, h3.kb hk, h5.kb hk⟩, hk⟩
theorem CH.c7 {w : World} {g : Nat} {s : Ch} (h : CH w g s) : w.cell? ⟨g, 7, none⟩ = some (.bool s.exp) ∧ w.frozen? ⟨g, 7, none⟩ = false := by
  obtain ⟨A0, A1, A2, A3, A5, c0, c1, c2, c3, c5, hr, _⟩ := h
  exact ⟨cell_of_row _ _ 7 _ _ _ hr, frozen_of_row _ _ 7 _ _ hr⟩
/-- What Seal and Open give where they give a response. -/
def SLP (g : Nat) (s : Ch) (y : Rs) (w : World) (e : Ending) (w' : World) : Prop :=
  ∃ v, e = .returned (.tuple #[y.val v, .int .i64 0]) ∧ SL w' w'.heap.size v y.data ∧ CH w' g s.quiet ∧ Kb g w w'
set_option maxRecDepth 100000 in
set_option maxHeartbeats 3200000 in
theorem pSeal_ok (g : Nat) (s : Ch) (r y : Rs) (A : Option Addr) (n k : Nat) (w : World) (h : CH w g s) (hv : s.cv.length = 8)
    (hw : ∀ W, Below w.heap.size w W → Calls Tryd.prog 32 #[.pointer (some ⟨g, 0, none⟩), r.val (.slice A n k)] W (SeP W y)) :
    Calls Tryd.prog 14 #[.pointer (some ⟨g, 0, none⟩), r.val (.slice A n k)] w (SLP g s y w) := by
  have hlt := h.lt
  have hm := fun W (hW : Below w.heap.size w W) => pmade_any g s W (h.below hW)
  rw [hv, show decide (0 < 8) = true from rfl] at hm
  have hP : Hid (∀ e v w', e = .returned (.tuple #[y.val v, .int .i64 0]) → SL w' w'.heap.size v y.data → CH w' g s.quiet → Kb g w w' → SLP g s y w e w') := fun e v w' he h1 h2 h3 => ⟨v, he, h1, h2, h3⟩
  generalize SLP g s y w = Q at *
  unfold SeP at hw
  obtain ⟨data, sw⟩ := r
  obtain ⟨dat2, sw2⟩ := y
  simp only [Rs.val] at *
  have HR := Lib.hid (Rr.start w (Obj.cells #[.slice A n k, .int .i64 sw] 32))
  have HM := Lib.hid (hm _ HR.out.bp.b)
  have HW := Lib.hid (hw _ HR.out.bp.b)
  have HLT := Lib.hid hlt
  have HCH := Lib.hid h
  clear h hv hw hm hlt
  go_enter Tryd.func14, Tryd.ntmps14
  go_wp2_with (go_at_call 25; refine HM.out.mono ?_; rintro e w' ⟨rfl, rfl⟩)
  refine HW.out.mono ?_
  rintro e w4 ⟨v4, rfl, hv4, hb4⟩
  obtain ⟨A4, c4, rfl, _, _, _⟩ := id hv4
  have HR4 := Lib.hid (HR.out.on hb4)
  have HV4 := Lib.hid hv4
  clear hv4 hb4
  go_wp2_with fail
  refine (pcode_nil _).mono ?_
  rintro e w5 ⟨rfl, hb5⟩
  have HA := Lib.hid (alloc_below w4 (Obj.cells #[.slice A4 dat2.length c4, .int .i64 sw2] 32))
  have HR5 := Lib.hid ((HR4.out.on HA.out).on hb5)
  have HV5 := Lib.hid ((HV4.out.on HA.out).on hb5)
  have HK5 := Lib.hid (rowC hb5 (heap_alloc_new w4 (Obj.cells #[.slice A4 dat2.length c4, .int .i64 sw2] 32)))
  have HC5 := Lib.hid (HCH.out.below HR5.out.bp.b)
  clear hb5
  obtain ⟨m7, n7⟩ := HC5.out.c7
  obtain ⟨⟨q0, q1⟩, p0, p1⟩ := cells2 HK5.out
  obtain ⟨⟨t0, t1⟩, f0, f1⟩ := cells2 HR5.out.r2
  have z4 := blk_lt HR4.out.r2
  have hg := HLT.out
  have x1 : g ≠ w4.heap.size := by omega
  have x2 : w4.heap.size ≠ g := by omega
  have x3 : g ≠ w.heap.size + 1 := by omega
  have x4 : w.heap.size + 1 ≠ g := by omega
  have x5 : w4.heap.size ≠ w.heap.size + 1 := by omega
  have x6 : w.heap.size + 1 ≠ w4.heap.size := by omega
  have hq := HC5.out.quiet
  have HF := Lib.hid (seal_fin (sw2 := sw2) HLT.out ((Kb.of_below HR5.out.bp.b).trans hq.2) ((hq.2.block _ (blk_lt HR5.out.r2) x4).trans HR5.out.r2) hq.1 ((HC5.out.off HV5.out (Nat.le_refl _)).kb hq.2).sl)
  clear hq hg z4
  go_wp2_with fail
  exact bodyPost_ret (results_cell2 rfl _ _ (w.heap.size + 1) 32 _ (0, 0) _ rfl HF.out.1 Tryd.underlying32 rfl (by kernel_rfl)) rfl (hP.out _ _ _ rfl HF.out.2.1 HF.out.2.2.1 HF.out.2.2.2)



set_option maxRecDepth 100000 in
set_option maxHeartbeats 3200000 in
theorem popen_plain (g : Nat) (s : Ch) (r : Rs) (A : Option Addr) (k : Nat) (w : World) (h : CH w g s) (hE : ckE s r = 0) (hL : hasB s.lvl 16 = false) (hd : SL w w.heap.size (.slice A r.data.length k) r.data) (hl : r.data.length ≤ 2000) :
    Calls Tryd.prog 33 #[.pointer (some ⟨g, 0, none⟩), r.val (.slice A r.data.length k)] w (SeP w r) := by
  have hc := fun W (hW : Below w.heap.size w W) => pcheck_any g s r A r.data.length k W (h.below hW)
  rw [hE, erV, if_pos rfl] at hc
  have hh := fun W (hW : Below w.heap.size w W) => phas_any g 16 s W (h.below hW)
  rw [hL] at hh
  have hcl := fun W (hW : Below w.heap.size w W) => clone_any r.data _ W (hd.on hW) (by omega)
  have HP : Hid (∀ e v w', e = .returned (.tuple #[.agg #[v, .int .i64 r.sw], .nilIface]) → SL w' w'.heap.size v r.data → Below w.heap.size w w' → SeP w r e w') := fun e v w' he h1 h2 => ⟨v, he, h1, h2⟩
  obtain ⟨data, sw⟩ := r
  simp only [Rs.val] at *
  generalize SeP w ⟨data, sw⟩ = Q at *
  have HR := Lib.hid (Rr.start w (Obj.cells #[.slice A data.length k, .int .i64 sw] 32))
  have HC := Lib.hid hc
  have HH := Lib.hid hh
  have HCL := Lib.hid hcl
  clear hc hh hcl h hE hL hd
  go_enter Tryd.func33, Tryd.ntmps33
  go_wp2_with fail
  refine (HC.out _ HR.out.bp.b).mono ?_
  rintro e w3 ⟨rfl, hb3⟩
  have HR3 := Lib.hid (HR.out.on hb3)
  clear hb3
  obtain ⟨⟨q0, q1⟩, p0, p1⟩ := cells2 HR3.out.r1
  obtain ⟨⟨t0, t1⟩, f0, f1⟩ := cells2 HR3.out.r2
  go_wp2_with fail
  refine (HH.out _ HR3.out.bp.b).mono ?_
  rintro e w4 ⟨rfl, rfl⟩
  go_wp2_with fail
  have hS6 : True := trivial
  have hne1 : w.heap.size ≠ w.heap.size + 1 := by omega
  have hne2 : w.heap.size + 1 ≠ w.heap.size := by omega
  go_region_held3 (fun W => W.cell? ⟨w.heap.size, 0, none⟩ = some (.slice A data.length k) ∧ W.cell? ⟨w.heap.size, 1, none⟩ = some (.int .i64 sw))
    (first | (go_keep; done) | exact hS6)
    (first
      | (go_at_call 23; (with_reducible refine (HCL.out _ HR3.out.bp.b).mono ?_); rintro e w5 ⟨v5, rfl, hv5, hb5⟩; have HR5 := Lib.hid (HR3.out.on hb5); have hS6 := (cells2 HR5.out.r1).1; obtain ⟨⟨x0, x1⟩, y0, y1⟩ := cells2 HR5.out.r2; have HV5 := Lib.hid hv5; obtain ⟨A5, c5, rfl, _, _, _⟩ := id hv5)
      | (go_at_call 23; (with_reducible refine (HCL.out _ HR3.out.dr.bp.b).mono ?_); rintro e w5 ⟨v5, rfl, hv5, hb5⟩; have HR5 := Lib.hid (HR3.out.dr.on hb5); have hS6 := (cells2 HR5.out.r1).1; obtain ⟨⟨x0, x1⟩, y0, y1⟩ := cells2 HR5.out.r2; have HV5 := Lib.hid hv5; obtain ⟨A5, c5, rfl, _, _, _⟩ := id hv5)
      | fail "none")
  go_wp2_with fail
  have HF := rr_fin (sw := sw) HR5.out HV5.out
  exact bodyPost_ret (results_cell2 rfl _ _ (w.heap.size + 1) 32 _ (0, 0) _ rfl HF.2.1 Tryd.underlying32 rfl (by kernel_rfl)) rfl (HP.out _ _ _ rfl HF.2.2 HF.1.b)
set_option maxRecDepth 100000 in
set_option maxHeartbeats 3200000 in
theorem popen_wrong (g : Nat) (s : Ch) (r : Rs) (A : Option Addr) (k N : Nat) (w : World) (h : CH w g s) (hN : r.sw = (N : Int)) (hN6 : N ≤ 65535) (hE : ckE s r = 0) (hL : hasB s.lvl 16 = true)
    (hm16 : s.rmac.length = 16) (hv8 : s.cv.length = 8) (hd : SL w w.heap.size (.slice A r.data.length k) r.data) (h8 : 8 ≤ r.data.length) (hl : r.data.length ≤ 2000)
    (hM : r.data.drop (r.data.length - 8) ≠ rmF s r.sw (r.data.take (r.data.length - 8))) :
    Calls Tryd.prog 33 #[.pointer (some ⟨g, 0, none⟩), r.val (.slice A r.data.length k)] w fun e w' => e = .returned (.tuple #[(⟨[], 0⟩ : Rs).val (.slice none 0 0), errV 17]) ∧ Below w.heap.size w w' := by
  have hc := fun W (hW : Below w.heap.size w W) => pcheck_any g s r A r.data.length k W (h.below hW)
  rw [hE, erV, if_pos rfl] at hc
  have hh := fun W (hW : Below w.heap.size w W) => phas_any g 16 s W (h.below hW)
  rw [hL] at hh
  have hpa := fun W (hW : Below w.heap.size w W) => pparts_any r.data _ W (hd.on hW) hl
  have hmc := fun W vb (hW : Below w.heap.size w W) (hb : SL W W.heap.size vb (r.data.take (r.data.length - 8))) => prmac_any g s (r.data.take (r.data.length - 8)) vb N W (h.below hW) hm16 hv8 hN6 hb (by rw [List.length_take]; omega)
  have hMl : (rmF s N (r.data.take (r.data.length - 8))).length = 8 := macL_len _ _ _
  rw [hN] at hM
  unfold errV
  generalize rmF s N (r.data.take (r.data.length - 8)) = M at *
  obtain ⟨data, sw⟩ := r
  simp only [Rs.val] at *
  subst hN
  have HR := Lib.hid (Rr.start w (Obj.cells #[.slice A data.length k, .int .i64 N] 32))
  have HC := Lib.hid hc
  have HH := Lib.hid hh
  have HPA := Lib.hid hpa
  have HMC := Lib.hid hmc
  have HMM := Lib.hid hM
  have H8 := Lib.hid h8
  clear hc hh hpa hmc hM hMl h hE hL hd hm16 hv8 h8
  go_enter Tryd.func33, Tryd.ntmps33
  go_wp2_with fail
  refine (HC.out _ HR.out.bp.b).mono ?_
  rintro e w3 ⟨rfl, hb3⟩
  have HR3 := Lib.hid (HR.out.on hb3)
  clear hb3
  obtain ⟨⟨q0, q1⟩, p0, p1⟩ := cells2 HR3.out.r1
  obtain ⟨⟨t0, t1⟩, f0, f1⟩ := cells2 HR3.out.r2
  go_wp2_with fail
  refine (HH.out _ HR3.out.bp.b).mono ?_
  rintro e w4 ⟨rfl, rfl⟩
  go_wp2_with fail
  refine (HPA.out _ HR3.out.bp.b).mono ?_
  rintro e w5 ⟨hb5, hp⟩
  rw [if_neg (by have := H8.out; omega)] at hp
  obtain ⟨v, u, rfl, hv, hu⟩ := hp
  have HR5 := Lib.hid (HR3.out.on hb5)
  have HV := Lib.hid hv
  have HU := Lib.hid hu
  clear hv hu hb5 q0 q1 p0 p1 t0 t1 f0 f1
  obtain ⟨⟨q0, q1⟩, p0, p1⟩ := cells2 HR5.out.r1
  obtain ⟨⟨t0, t1⟩, f0, f1⟩ := cells2 HR5.out.r2
  go_wp2_with fail
  refine (HMC.out _ _ HR5.out.bp.b HV.out).mono ?_
  rintro e w6 ⟨v6, rfl, hv6, hb6⟩
  have HR6 := Lib.hid (HR5.out.on hb6)
  have HEQ := Lib.hid (beq_own _ _ u v6 w6 _ (HU.out.on hb6) hv6)
  rw [show (data.drop (data.length - 8) == M) = false from by rw [beq_eq_false_iff_ne]; exact HMM.out] at HEQ
  clear hv6 hb6 q0 q1 p0 p1 t0 t1 f0 f1
  obtain ⟨⟨q0, q1⟩, p0, p1⟩ := cells2 HR6.out.r1
  obtain ⟨⟨t0, t1⟩, f0, f1⟩ := cells2 HR6.out.r2
  go_wp2_with fail
  refine HEQ.out.mono ?_
  rintro e w7 ⟨rfl, rfl⟩
  go_wp2_with fail
  exact bodyPost_ret (results_cell2 rfl _ _ (w.heap.size + 1) 32 #[.slice none 0 0, .int .i64 0] (0, 0) _ rfl (row2st HR6.out.r2 ..) Tryd.underlying32 rfl (by kernel_rfl)) rfl ⟨rfl, (HR6.out.bp.st2 (Nat.le_succ _) ..).b⟩
set_option maxRecDepth 100000 in
set_option maxHeartbeats 3200000 in
theorem popen_ok (g : Nat) (s : Ch) (r : Rs) (A : Option Addr) (k n N : Nat) (w : World) (h : CH w g s) (hN : r.sw = (N : Int)) (hN6 : N ≤ 65535) (hE : ckE s r = 0) (hL : hasB s.lvl 16 = true)
    (hm16 : s.rmac.length = 16) (hv8 : s.cv.length = 8) (he16 : s.enc.length = 16) (hcn : s.cnt = (n : Int)) (hn : n ≤ 10000) (hd : SL w w.heap.size (.slice A r.data.length k) r.data) (h8 : 8 ≤ r.data.length) (hl : r.data.length ≤ 2000)
    (hM : r.data.drop (r.data.length - 8) = rmF s r.sw (r.data.take (r.data.length - 8))) (D : List UInt8) (hD : decF s 32 (ivF s.enc n 128) (r.data.take (r.data.length - 8)) = some D) :
    Calls Tryd.prog 33 #[.pointer (some ⟨g, 0, none⟩), r.val (.slice A r.data.length k)] w (SeP w ⟨D, r.sw⟩) := by
  have hc := fun W (hW : Below w.heap.size w W) => pcheck_any g s r A r.data.length k W (h.below hW)
  rw [hE, erV, if_pos rfl] at hc
  have hh := fun W (hW : Below w.heap.size w W) => phas_any g 16 s W (h.below hW)
  rw [hL] at hh
  have hpa := fun W (hW : Below w.heap.size w W) => pparts_any r.data _ W (hd.on hW) hl
  have hmc := fun W vb (hW : Below w.heap.size w W) (hb : SL W W.heap.size vb (r.data.take (r.data.length - 8))) => prmac_any g s (r.data.take (r.data.length - 8)) vb N W (h.below hW) hm16 hv8 hN6 hb (by rw [List.length_take]; omega)
  have hst := fun W (hW : Below w.heap.size w W) => prst_any g s n W (h.below hW) he16 hcn hn
  have hde := fun W vi vd (hW : Below w.heap.size w W) (hi : SL W W.heap.size vi (ivF s.enc n 128)) (hb : SL W W.heap.size vd (r.data.take (r.data.length - 8))) => pdecr_any g s 32 _ _ vi vd W (h.below hW) hi hb (by rw [List.length_take]; omega)
  rw [hD] at hde
  have HP : Hid (∀ e v w', e = .returned (.tuple #[.agg #[v, .int .i64 r.sw], .nilIface]) → SL w' w'.heap.size v D → Below w.heap.size w w' → SeP w ⟨D, r.sw⟩ e w') := fun e v w' he h1 h2 => ⟨v, he, h1, h2⟩
  generalize SeP w ⟨D, r.sw⟩ = Q at *
  have hMl : (rmF s N (r.data.take (r.data.length - 8))).length = 8 := macL_len _ _ _
  rw [hN] at hM
  generalize ivF s.enc n 128 = I at *
  generalize rmF s N (r.data.take (r.data.length - 8)) = M at *
  obtain ⟨data, sw⟩ := r
  simp only [Rs.val] at *
  subst hN
  have HR := Lib.hid (Rr.start w (Obj.cells #[.slice A data.length k, .int .i64 N] 32))
  have HC := Lib.hid hc
  have HH := Lib.hid hh
  have HPA := Lib.hid hpa
  have HMC := Lib.hid hmc
  have HMM := Lib.hid hM
  have HST := Lib.hid hst
  have HDE := Lib.hid hde
  have H8 := Lib.hid h8
  clear hc hh hpa hmc hM hMl h hE hL hd hm16 hv8 h8 hst hde hD he16 hcn hn
  go_enter Tryd.func33, Tryd.ntmps33
  go_wp2_with fail
  refine (HC.out _ HR.out.bp.b).mono ?_
  rintro e w3 ⟨rfl, hb3⟩
  have HR3 := Lib.hid (HR.out.on hb3)
  clear hb3
  obtain ⟨⟨q0, q1⟩, p0, p1⟩ := cells2 HR3.out.r1
  obtain ⟨⟨t0, t1⟩, f0, f1⟩ := cells2 HR3.out.r2
  go_wp2_with fail
  refine (HH.out _ HR3.out.bp.b).mono ?_
  rintro e w4 ⟨rfl, rfl⟩
  go_wp2_with fail
  refine (HPA.out _ HR3.out.bp.b).mono ?_
  rintro e w5 ⟨hb5, hp⟩
  rw [if_neg (by have := H8.out; omega)] at hp
  obtain ⟨v, u, rfl, hv, hu⟩ := hp
  have HR5 := Lib.hid (HR3.out.on hb5)
  have HV := Lib.hid hv
  have HU := Lib.hid hu
  clear hv hu hb5 q0 q1 p0 p1 t0 t1 f0 f1
  obtain ⟨⟨q0, q1⟩, p0, p1⟩ := cells2 HR5.out.r1
  obtain ⟨⟨t0, t1⟩, f0, f1⟩ := cells2 HR5.out.r2
  go_wp2_with fail
  refine (HMC.out _ _ HR5.out.bp.b HV.out).mono ?_
  rintro e w6 ⟨v6, rfl, hv6, hb6⟩
  have HR6 := Lib.hid (HR5.out.on hb6)
  have HEQ := Lib.hid (beq_own _ _ u v6 w6 _ (HU.out.on hb6) hv6)
  rw [show (data.drop (data.length - 8) == M) = true from by rw [beq_iff_eq]; exact HMM.out] at HEQ
  have HV6 := Lib.hid (HV.out.on hb6)
  clear hv6 hb6 q0 q1 p0 p1 t0 t1 f0 f1
  obtain ⟨⟨q0, q1⟩, p0, p1⟩ := cells2 HR6.out.r1
  obtain ⟨⟨t0, t1⟩, f0, f1⟩ := cells2 HR6.out.r2
  go_wp2_with fail
  refine HEQ.out.mono ?_
  rintro e w7 ⟨rfl, rfl⟩
  go_wp2_with fail
  refine (HST.out _ HR6.out.bp.b).mono ?_
  rintro e w8 ⟨v8, rfl, hv8, hb8⟩
  have HR8 := Lib.hid (HR6.out.on hb8)
  have HV8 := Lib.hid (HV6.out.on hb8)
  have HI8 := Lib.hid hv8
  clear hv8 hb8
  go_wp2_with fail
  refine (HDE.out _ _ _ HR8.out.bp.b HI8.out HV8.out).mono ?_
  rintro e w9 ⟨hb9, hr⟩
  rcases hr with ⟨hr, _⟩ | ⟨m, v9, hr, rfl, hv9⟩
  · cases hr
  injection hr with hr
  subst hr
  have HR9 := Lib.hid (HR8.out.on hb9)
  have HV9 := Lib.hid hv9
  obtain ⟨A9, c9, rfl, _, _, _⟩ := id hv9
  clear hv9 hb9 q0 q1 p0 p1 t0 t1 f0 f1
  obtain ⟨⟨q0, q1⟩, p0, p1⟩ := cells2 HR9.out.r1
  obtain ⟨⟨t0, t1⟩, f0, f1⟩ := cells2 HR9.out.r2
  go_wp2_with fail
  have HF := rr_fin (sw := N) HR9.out HV9.out
  exact bodyPost_ret (results_cell2 rfl _ _ (w.heap.size + 1) 32 _ (0, 0) _ rfl HF.2.1 Tryd.underlying32 rfl (by kernel_rfl)) rfl (HP.out _ _ _ rfl HF.2.2 HF.1.b)



set_option maxRecDepth 100000 in
set_option maxHeartbeats 3200000 in
theorem pOpen_ok (g : Nat) (s : Ch) (r y : Rs) (A : Option Addr) (n k : Nat) (w : World) (h : CH w g s) (hv : s.cv.length = 8)
    (hw : ∀ W, Below w.heap.size w W → Calls Tryd.prog 33 #[.pointer (some ⟨g, 0, none⟩), r.val (.slice A n k)] W (SeP W y)) :
    Calls Tryd.prog 15 #[.pointer (some ⟨g, 0, none⟩), r.val (.slice A n k)] w (SLP g s y w) := by
  have hlt := h.lt
  have hm := fun W (hW : Below w.heap.size w W) => pmade_any g s W (h.below hW)
  rw [hv, show decide (0 < 8) = true from rfl] at hm
  have hP : Hid (∀ e v w', e = .returned (.tuple #[y.val v, .int .i64 0]) → SL w' w'.heap.size v y.data → CH w' g s.quiet → Kb g w w' → SLP g s y w e w') := fun e v w' he h1 h2 h3 => ⟨v, he, h1, h2, h3⟩
  generalize SLP g s y w = Q at *
  unfold SeP at hw
  obtain ⟨data, sw⟩ := r
  obtain ⟨dat2, sw2⟩ := y
  simp only [Rs.val] at *
  have HR := Lib.hid (Rr.start w (Obj.cells #[.slice A n k, .int .i64 sw] 32))
  have HM := Lib.hid (hm _ HR.out.bp.b)
  have HW := Lib.hid (hw _ HR.out.bp.b)
  have HLT := Lib.hid hlt
  have HCH := Lib.hid h
  clear h hv hw hm hlt
  go_enter Tryd.func15, Tryd.ntmps15
  go_wp2_with (go_at_call 25; refine HM.out.mono ?_; rintro e w' ⟨rfl, rfl⟩)
  refine HW.out.mono ?_
  rintro e w4 ⟨v4, rfl, hv4, hb4⟩
  obtain ⟨A4, c4, rfl, _, _, _⟩ := id hv4
  have HR4 := Lib.hid (HR.out.on hb4)
  have HV4 := Lib.hid hv4
  clear hv4 hb4
  go_wp2_with fail
  refine (pcode_nil _).mono ?_
  rintro e w5 ⟨rfl, hb5⟩
  have HA := Lib.hid (alloc_below w4 (Obj.cells #[.slice A4 dat2.length c4, .int .i64 sw2] 32))
  have HR5 := Lib.hid ((HR4.out.on HA.out).on hb5)
  have HV5 := Lib.hid ((HV4.out.on HA.out).on hb5)
  have HK5 := Lib.hid (rowC hb5 (heap_alloc_new w4 (Obj.cells #[.slice A4 dat2.length c4, .int .i64 sw2] 32)))
  have HC5 := Lib.hid (HCH.out.below HR5.out.bp.b)
  clear hb5
  obtain ⟨m7, n7⟩ := HC5.out.c7
  obtain ⟨⟨q0, q1⟩, p0, p1⟩ := cells2 HK5.out
  obtain ⟨⟨t0, t1⟩, f0, f1⟩ := cells2 HR5.out.r2
  have z4 := blk_lt HR4.out.r2
  have hg := HLT.out
  have x1 : g ≠ w4.heap.size := by omega
  have x2 : w4.heap.size ≠ g := by omega
  have x3 : g ≠ w.heap.size + 1 := by omega
  have x4 : w.heap.size + 1 ≠ g := by omega
  have x5 : w4.heap.size ≠ w.heap.size + 1 := by omega
  have x6 : w.heap.size + 1 ≠ w4.heap.size := by omega
  have hq := HC5.out.quiet
  have HF := Lib.hid (seal_fin (sw2 := sw2) HLT.out ((Kb.of_below HR5.out.bp.b).trans hq.2) ((hq.2.block _ (blk_lt HR5.out.r2) x4).trans HR5.out.r2) hq.1 ((HC5.out.off HV5.out (Nat.le_refl _)).kb hq.2).sl)
  clear hq hg z4
  go_wp2_with fail
  exact bodyPost_ret (results_cell2 rfl _ _ (w.heap.size + 1) 32 _ (0, 0) _ rfl HF.out.1 Tryd.underlying32 rfl (by kernel_rfl)) rfl (hP.out _ _ _ rfl HF.out.2.1 HF.out.2.2.1 HF.out.2.2.2)
set_option maxRecDepth 100000 in
set_option maxHeartbeats 3200000 in
theorem pOpen_bad (g : Nat) (s : Ch) (r : Rs) (E : Int) (A : Option Addr) (n k : Nat) (w : World) (h : CH w g s) (hv : s.cv.length = 8) (ht : ET w) (hE : E ≠ 0) (hE2 : E ≠ 14)
    (hw : ∀ W, Below w.heap.size w W → Calls Tryd.prog 33 #[.pointer (some ⟨g, 0, none⟩), r.val (.slice A n k)] W fun e w' => e = .returned (.tuple #[(⟨[], 0⟩ : Rs).val (.slice none 0 0), errV E]) ∧ Below W.heap.size W w') :
    Calls Tryd.prog 15 #[.pointer (some ⟨g, 0, none⟩), r.val (.slice A n k)] w fun e w' => e = .returned (.tuple #[(⟨[], 0⟩ : Rs).val (.slice none 0 0), .int .i64 E]) ∧ CH w' g s.shut ∧ Kb g w w' := by
  have hm := fun W (hW : Below w.heap.size w W) => pmade_any g s W (h.below hW)
  rw [hv, show decide (0 < 8) = true from rfl] at hm
  have hcl := fun W (hW : Below w.heap.size w W) => pclose_any g s W (h.below hW)
  have HLT := Lib.hid h.lt
  have hco := fun W (hW : Below w.heap.size w W) => pcode_any E W (ht.on hW)
  unfold errV at *
  obtain ⟨rd, sw⟩ := r
  simp only [Rs.val] at *
  have hb := alloc2_below w (Obj.cells #[.slice A n k, .int .i64 sw] 32) (Obj.cells #[.slice none 0 0, .int .i64 0] 32)
  have HB := Lib.hid hb
  have HM := Lib.hid (hm _ hb)
  have HW := Lib.hid (hw _ hb)
  have HN2 := Lib.hid (heap2_new w (Obj.cells #[.slice A n k, .int .i64 sw] 32) (Obj.cells #[.slice none 0 0, .int .i64 0] 32))
  have HCO := Lib.hid hco
  have HCL := Lib.hid hcl
  have hne : (E == 0) = false := by rw [beq_eq_false_iff_ne]; exact hE
  have hne2 : (E == 14) = false := by rw [beq_eq_false_iff_ne]; exact hE2
  clear h hv hw hm hb ht hco hcl hE hE2
  go_enter Tryd.func15, Tryd.ntmps15
  go_wp2_with (go_at_call 25; refine HM.out.mono ?_; rintro e w' ⟨rfl, rfl⟩)
  refine HW.out.mono ?_
  rintro e w4 ⟨rfl, hb4⟩
  have HB4 := Lib.hid (HB.out.trans (hb4.mono HB.out.size))
  have HN4 := Lib.hid ((hb4.block _ (blk_lt HN2.out)).trans HN2.out)
  clear hb4
  have HA := Lib.hid (alloc_below w4 (Obj.cells #[.slice none 0 0, .int .i64 0] 32))
  have HBA := Lib.hid (HB4.out.trans (HA.out.mono HB4.out.size))
  go_wp2_with fail
  refine (HCO.out _ HBA.out).mono ?_
  rintro e w5 ⟨rfl, hb5⟩
  have HB5 := Lib.hid (HBA.out.trans (hb5.mono HBA.out.size))
  have HN5 := Lib.hid (rowC hb5 (rowC HA.out HN4.out))
  clear hb5
  go_wp2_with fail
  refine (HCL.out _ HB5.out).mono ?_
  rintro e w6 ⟨⟨u6, rfl⟩, hc6, hk6⟩
  have HN6 := Lib.hid ((hk6.block _ (blk_lt HN5.out) (by have := HLT.out; omega)).trans HN5.out)
  have HF := Lib.hid (seal_fin (sw2 := 0) (A4 := none) (c4 := 0) (dat2 := []) HLT.out ((Kb.of_below HB5.out).trans hk6) HN6.out hc6 (FL.nil g w6).sl)
  obtain ⟨⟨t0, t1⟩, f0, f1⟩ := cells2 HN6.out
  clear hc6 hk6
  go_wp2_with fail
  exact bodyPost_ret (results_cell2 rfl _ _ (w.heap.size + 1) 32 _ (0, 0) _ rfl HF.out.1 Tryd.underlying32 rfl (by kernel_rfl)) rfl ⟨rfl, HF.out.2.2.1, HF.out.2.2.2⟩

end Go.Proofs.YtdalcldilmmgmaaDoor
