/-
  isValid: the walk (gen5_val.py).
-/
import Derived.Test.YtnbggokmiokhlaaDoorAtx
namespace Go.Proofs.YtnbggokmiokhlaaDoor
set_option linter.unusedVariables false
set_option linter.unusedSimpArgs false
open Go.RowKit

/-- v is an answer to reset that reads as a. -/
def AT (w : World) (v : Value) (a : At) : Prop :=
  ∃ v1 v2 v3, v = .agg #[.bool a.inv, v1, v2, v3] ∧ IL w w.heap.size v1 a.ibs ∧ NL w w.heap.size v2 a.prs ∧ SL w w.heap.size v3 a.his
theorem AT.on {w w' : World} {v : Value} {a : At} (h : AT w v a) (hb : Below w.heap.size w w') : AT w' v a := by
  obtain ⟨v1, v2, v3, rfl, h1, h2, h3⟩ := h
  exact ⟨v1, v2, v3, rfl, h1.on hb, h2.on hb, h3.on hb⟩
def chnB (P : List Int) : Ib → List Ib → Bool
  | _, [] => true
  | y, x :: xs => ibB x && aftB x y && fitB x y P && chnB P x xs
def valB (a : At) : Bool := offB a.prs && decide (a.his.length ≤ 15) && chnB a.prs Ib.zero a.ibs
theorem offB_len {l : List Int} (h : offB l = true) : 0 < l.length := by
  match l, h with
  | [x], _ => simp
  | [x, y], _ => simp
def lastOf (y : Ib) (l : List Ib) (k : Nat) : Ib := if k = 0 then y else l.getD (k - 1) Ib.zero

theorem row4_set (w : World) (g : Nat) (ty : TypeId) (a0 a1 a2 a3 x0 x1 x2 x3 : Value) (hg : w.heap[g]? = some (.cells #[a0, a1, a2, a3] ty (0, 0))) :
    ((((w.setCell ⟨g, 0, none⟩ x0).setCell ⟨g, 1, none⟩ x1).setCell ⟨g, 2, none⟩ x2).setCell ⟨g, 3, none⟩ x3).heap[g]? = some (.cells #[x0, x1, x2, x3] ty (0, 0)) := by
  have h0 := heap_setCell_same w g 0 _ ty x0 hg
  have h1 := heap_setCell_same _ g 1 _ ty x1 h0
  have h2 := heap_setCell_same _ g 2 _ ty x2 h1
  have h3 := heap_setCell_same _ g 3 _ ty x3 h2
  rw [h3]
  simp
theorem cellsA {W : World} {n : Nat} {x0 x1 x2 x3 : Value} {ty : TypeId} (ra : W.heap[n]? = some (.cells #[x0, x1, x2, x3] ty (0, 0))) :
    W.cell? ⟨n, 0, none⟩ = some x0 ∧ W.cell? ⟨n, 1, none⟩ = some x1 ∧ W.cell? ⟨n, 2, none⟩ = some x2 ∧ W.cell? ⟨n, 3, none⟩ = some x3 :=
  ⟨cell_of_row _ _ 0 _ _ _ ra, cell_of_row _ _ 1 _ _ _ ra, cell_of_row _ _ 2 _ _ _ ra, cell_of_row _ _ 3 _ _ _ ra⟩
theorem chnB_drop (P : List Int) (y : Ib) (l : List Ib) (k : Nat) (hk : k < l.length) : chnB P y (l.drop k) = (ibB (l.getD k Ib.zero) && aftB (l.getD k Ib.zero) y && fitB (l.getD k Ib.zero) y P && chnB P (l.getD k Ib.zero) (l.drop (k + 1))) := by
  rw [List.drop_eq_getElem_cons hk, chnB]
  simp [List.getD, List.getElem?_eq_getElem hk]
theorem getD_mem (l : List Ib) (k : Nat) (hk : k < l.length) : l.getD k Ib.zero ∈ l := by
  rw [show l.getD k Ib.zero = l[k] by simp [List.getD, List.getElem?_eq_getElem hk]]
  exact List.getElem_mem hk

set_option maxRecDepth 100000 in
set_option maxHeartbeats 1600000 in
theorem pval_any (a : At) (v : Value) (w : World) (h : AT w v a) (hg : ∀ x ∈ a.ibs, x.g ≤ 9223372036854775807) :
    Calls Tryd.prog 53 #[v] w fun e w' => e = .returned (.bool (valB a)) ∧ Below w.heap.size w w' := by
  have H := Lib.hid h
  obtain ⟨v1, v2, v3, rfl, h1, h2, h3⟩ := h
  have HO := Lib.hid (fun (W : World) (hW : Below w.heap.size w W) => poff_any a.prs v2 W W.heap.size (h2.on hW))
  have HV : Hid (valB a = (offB a.prs && decide (a.his.length ≤ 15) && chnB a.prs Ib.zero a.ibs)) := rfl
  have HL := Lib.hid (@offB_len a.prs)
  have HG := Lib.hid hg
  clear hg
  generalize offB a.prs = ob at *
  obtain ⟨A1, c1, rfl, a1, b1, d1⟩ := h1
  have HNL := Lib.hid (fun (W : World) (hW : Below w.heap.size w W) => h2.on hW)
  obtain ⟨A2, c2, rfl, a2, b2, d2⟩ := h2
  obtain ⟨A3, c3, rfl, a3, b3, d3⟩ := h3
  unfold maxLen at b1 b2 b3
  have D1 := Lib.hid d1
  clear d1 d2 d3
  cases ob with
  | false =>
    go_enter Tryd.func53, Tryd.ntmps53
    go_wp2_with fail
    refine (HO.out _ (alloc_below ..)).mono ?_
    rintro e w1 ⟨rfl, n, rfl⟩
    go_wp2_with fail
    go_ret
    exact ⟨ret_bool (by rw [HV.out]; rfl), by first | exact alloc_below .. | exact below_drewN (alloc_below ..) _⟩
  | true =>
    by_cases hh : a.his.length ≤ 15
    · go_enter Tryd.func53, Tryd.ntmps53
      go_wp2_with fail
      refine (HO.out _ (alloc_below ..)).mono ?_
      rintro e w1 ⟨rfl, n, rfl⟩
      go_wp2_with fail
      have HB0 := Lib.hid (below_drewN (alloc_below w (.cells #[.bool a.inv, .slice A1 a.ibs.length c1, .slice A2 a.prs.length c2, .slice A3 a.his.length c3] 26)) n |>.trans ((alloc_below ((w.alloc (.cells #[.bool a.inv, .slice A1 a.ibs.length c1, .slice A2 a.prs.length c2, .slice A3 a.his.length c3] 26)).drewN n) (.cells #[.int .i64 0, .int .i64 0, .int .i64 0, .int .i64 0] 60)).mono (by show _ ≤ (w.alloc _).heap.size; rw [alloc_size]; omega)))
      have HZ0 : Hid (w.heap.size + 2 ≤ (((w.alloc (.cells #[.bool a.inv, .slice A1 a.ibs.length c1, .slice A2 a.prs.length c2, .slice A3 a.his.length c3] 26)).drewN n).alloc (.cells #[.int .i64 0, .int .i64 0, .int .i64 0, .int .i64 0] 60)).heap.size) := by
        show _ ≤ _
        rw [alloc_size]
        show _ ≤ (w.alloc _).heap.size + 1
        rw [alloc_size]; omega
      have HRB0 : Hid ((((w.alloc (.cells #[.bool a.inv, .slice A1 a.ibs.length c1, .slice A2 a.prs.length c2, .slice A3 a.his.length c3] 26)).drewN n).alloc (.cells #[.int .i64 0, .int .i64 0, .int .i64 0, .int .i64 0] 60)).heap[w.heap.size + 1]? = some (.cells #[.int .i64 0, .int .i64 0, .int .i64 0, .int .i64 0] 60 (0, 0))) := by
        have := heap_alloc_new ((w.alloc (.cells #[.bool a.inv, .slice A1 a.ibs.length c1, .slice A2 a.prs.length c2, .slice A3 a.his.length c3] 26)).drewN n) (.cells #[.int .i64 0, .int .i64 0, .int .i64 0, .int .i64 0] 60)
        rw [show ((w.alloc (.cells #[.bool a.inv, .slice A1 a.ibs.length c1, .slice A2 a.prs.length c2, .slice A3 a.his.length c3] 26)).drewN n).heap.size = w.heap.size + 1 from alloc_size ..] at this
        exact this
      have HRA0 : Hid ((((w.alloc (.cells #[.bool a.inv, .slice A1 a.ibs.length c1, .slice A2 a.prs.length c2, .slice A3 a.his.length c3] 26)).drewN n).alloc (.cells #[.int .i64 0, .int .i64 0, .int .i64 0, .int .i64 0] 60)).heap[w.heap.size]? = some (.cells #[.bool a.inv, .slice A1 a.ibs.length c1, .slice A2 a.prs.length c2, .slice A3 a.his.length c3] 26 (0, 0))) :=
        ((alloc_below ((w.alloc (.cells #[.bool a.inv, .slice A1 a.ibs.length c1, .slice A2 a.prs.length c2, .slice A3 a.his.length c3] 26)).drewN n) _).block _ (by show _ < (w.alloc _).heap.size; rw [alloc_size]; omega)).trans (heap_alloc_new w _)
      have HH := Lib.hid hh
      have HNP := HNL
      go_loopw [19] (fun i wr => ∃ k : Nat, k ≤ a.ibs.length ∧ i = .int .i64 k ∧ Below w.heap.size w wr ∧ w.heap.size + 2 ≤ wr.heap.size ∧ Hid (wr.heap[w.heap.size]? = some (.cells #[.bool a.inv, .slice A1 a.ibs.length c1, .slice A2 a.prs.length c2, .slice A3 a.his.length c3] 26 (0, 0))) ∧ ∃ yg yk yv yp : Int, Hid (wr.heap[w.heap.size + 1]? = some (.cells #[.int .i64 yg, .int .i64 yk, .int .i64 yv, .int .i64 yp] 60 (0, 0))) ∧ Hid (0 ≤ yg ∧ yg ≤ 9223372036854775807) ∧ Hid (valB a = chnB a.prs ⟨yg, yk, yv, yp⟩ (a.ibs.drop k))) (fun i _ => a.ibs.length - (intOf i).toNat)
      case atStart =>
        exact ⟨0, Nat.zero_le _, rfl, HB0.out, HZ0.out, HRA0.out, 0, 0, 0, 0, HRB0.out, ⟨by omega, by omega⟩, by show valB a = _; rw [HV.out, decide_eq_true HH.out]; rfl⟩
      case round =>
        obtain ⟨k, hk, rfl, hbel, hsz, HRA, yg, yk, yv, yp, HRB, HYG, hst⟩ := hrel
        by_cases hlt : k < a.ibs.length
        · obtain ⟨b, o, rfl, hb, hc⟩ := D1.out (by omega)
          have hi := (hc k hlt).keep hb (fun p hp => hbel.cell hp)
          have hm := HG.out _ (getD_mem a.ibs k hlt)
          have hs2 := hst.out.trans (chnB_drop a.prs _ a.ibs k hlt)
          clear hc
          generalize a.ibs.getD k Ib.zero = x at hi hs2 hm
          obtain ⟨xg, xk, xv, xp⟩ := x
          obtain ⟨g1, g2, g3, g4⟩ := hi
          simp only at g1 g2 g3 g4 hm
          have HST := Lib.hid hs2
          have HM := Lib.hid hm
          clear hs2 hm hst
          have HBW := Lib.hid hbel
          have HSZ := Lib.hid hsz
          have HB1 := Lib.hid (Below.refl (wr.alloc (.cells #[.int .i64 xg, .int .i64 xk, .int .i64 xv, .int .i64 xp] 60)).heap.size (wr.alloc (.cells #[.int .i64 xg, .int .i64 xk, .int .i64 xv, .int .i64 xp] 60)))
          have HBA := Lib.hid (hbel.trans ((alloc_below wr (.cells #[.int .i64 xg, .int .i64 xk, .int .i64 xv, .int .i64 xp] 60)).mono hbel.size))
          have hz1 : (wr.alloc (.cells #[.int .i64 xg, .int .i64 xk, .int .i64 xv, .int .i64 xp] 60)).heap.size = wr.heap.size + 1 := alloc_size ..
          have HRX : Hid ((wr.alloc (.cells #[.int .i64 xg, .int .i64 xk, .int .i64 xv, .int .i64 xp] 60)).heap[wr.heap.size]? = some (.cells #[.int .i64 xg, .int .i64 xk, .int .i64 xv, .int .i64 xp] 60 (0, 0))) := heap_alloc_new ..
          have HRA1 : Hid ((wr.alloc (.cells #[.int .i64 xg, .int .i64 xk, .int .i64 xv, .int .i64 xp] 60)).heap[w.heap.size]? = some (.cells #[.bool a.inv, .slice (some ⟨b, o, none⟩) a.ibs.length c1, .slice A2 a.prs.length c2, .slice A3 a.his.length c3] 26 (0, 0))) := ((alloc_below wr _).block _ (by omega)).trans HRA.out
          have HRB1 : Hid ((wr.alloc (.cells #[.int .i64 xg, .int .i64 xk, .int .i64 xv, .int .i64 xp] 60)).heap[w.heap.size + 1]? = some (.cells #[.int .i64 yg, .int .i64 yk, .int .i64 yv, .int .i64 yp] 60 (0, 0))) := ((alloc_below wr _).block _ (by omega)).trans HRB.out
          have HS : Hid (∀ W, Below (wr.alloc (.cells #[.int .i64 xg, .int .i64 xk, .int .i64 xv, .int .i64 xp] 60)).heap.size (wr.alloc (.cells #[.int .i64 xg, .int .i64 xk, .int .i64 xv, .int .i64 xp] 60)) W → W.cell? ⟨wr.heap.size, 0, none⟩ = some (.int .i64 xg) ∧ W.cell? ⟨wr.heap.size, 1, none⟩ = some (.int .i64 xk) ∧ W.cell? ⟨wr.heap.size, 2, none⟩ = some (.int .i64 xv) ∧ W.cell? ⟨wr.heap.size, 3, none⟩ = some (.int .i64 xp) ∧ W.cell? ⟨w.heap.size + 1, 0, none⟩ = some (.int .i64 yg) ∧ W.cell? ⟨w.heap.size + 1, 1, none⟩ = some (.int .i64 yk) ∧ W.cell? ⟨w.heap.size + 1, 2, none⟩ = some (.int .i64 yv) ∧ W.cell? ⟨w.heap.size + 1, 3, none⟩ = some (.int .i64 yp) ∧ W.cell? ⟨w.heap.size, 2, none⟩ = some (.slice A2 a.prs.length c2)) := fun W hW => by
            obtain ⟨p1, p2, p3, p4⟩ := cellsA ((hW.block _ (by rw [hz1]; omega)).trans HRX.out)
            obtain ⟨q1, q2, q3, q4⟩ := cellsA ((hW.block _ (by rw [hz1]; omega)).trans HRB1.out)
            obtain ⟨_, _, t3, _⟩ := cellsA ((hW.block _ (by rw [hz1]; omega)).trans HRA1.out)
            exact ⟨p1, p2, p3, p4, q1, q2, q3, q4, t3⟩
          have H89 : Hid (∀ W, Below (wr.alloc (.cells #[.int .i64 xg, .int .i64 xk, .int .i64 xv, .int .i64 xp] 60)).heap.size (wr.alloc (.cells #[.int .i64 xg, .int .i64 xk, .int .i64 xv, .int .i64 xp] 60)) W → Calls Tryd.prog 89 #[.agg #[.int .i64 xg, .int .i64 xk, .int .i64 xv, .int .i64 xp]] W fun e w' => e = .returned (.bool (ibB ⟨xg, xk, xv, xp⟩)) ∧ Below (wr.alloc (.cells #[.int .i64 xg, .int .i64 xk, .int .i64 xv, .int .i64 xp] 60)).heap.size (wr.alloc (.cells #[.int .i64 xg, .int .i64 xk, .int .i64 xv, .int .i64 xp] 60)) w') := fun W hW => (pibb_any ⟨xg, xk, xv, xp⟩ W).mono fun e w' h => ⟨h.1, hW.trans (h.2.mono hW.size)⟩
          have H90 : Hid (∀ W, Below (wr.alloc (.cells #[.int .i64 xg, .int .i64 xk, .int .i64 xv, .int .i64 xp] 60)).heap.size (wr.alloc (.cells #[.int .i64 xg, .int .i64 xk, .int .i64 xv, .int .i64 xp] 60)) W → Calls Tryd.prog 90 #[.agg #[.int .i64 xg, .int .i64 xk, .int .i64 xv, .int .i64 xp], .agg #[.int .i64 yg, .int .i64 yk, .int .i64 yv, .int .i64 yp]] W fun e w' => e = .returned (.bool (aftB ⟨xg, xk, xv, xp⟩ ⟨yg, yk, yv, yp⟩)) ∧ Below (wr.alloc (.cells #[.int .i64 xg, .int .i64 xk, .int .i64 xv, .int .i64 xp] 60)).heap.size (wr.alloc (.cells #[.int .i64 xg, .int .i64 xk, .int .i64 xv, .int .i64 xp] 60)) w') := fun W hW => (paft_any ⟨xg, xk, xv, xp⟩ ⟨yg, yk, yv, yp⟩ W).mono fun e w' h => ⟨h.1, hW.trans (h.2.mono hW.size)⟩
          have hnp := HNP.out _ HBA.out
          have H91 : Hid (aftB ⟨xg, xk, xv, xp⟩ ⟨yg, yk, yv, yp⟩ = true → ∀ W, Below (wr.alloc (.cells #[.int .i64 xg, .int .i64 xk, .int .i64 xv, .int .i64 xp] 60)).heap.size (wr.alloc (.cells #[.int .i64 xg, .int .i64 xk, .int .i64 xv, .int .i64 xp] 60)) W → Calls Tryd.prog 91 #[.agg #[.int .i64 xg, .int .i64 xk, .int .i64 xv, .int .i64 xp], .agg #[.int .i64 yg, .int .i64 yk, .int .i64 yv, .int .i64 yp], .slice A2 a.prs.length c2] W fun e w' => e = .returned (.bool (fitB ⟨xg, xk, xv, xp⟩ ⟨yg, yk, yv, yp⟩ a.prs)) ∧ Below (wr.alloc (.cells #[.int .i64 xg, .int .i64 xk, .int .i64 xv, .int .i64 xp] 60)).heap.size (wr.alloc (.cells #[.int .i64 xg, .int .i64 xk, .int .i64 xv, .int .i64 xp] 60)) w') := fun ht W hW => (pfit_any ⟨xg, xk, xv, xp⟩ ⟨yg, yk, yv, yp⟩ a.prs _ W (hnp.on hW) (HL.out (by first | exact trivial | rfl)) HM.out HYG.out.1 (by simp [aftB] at ht; show yg ≤ xg; omega)).mono fun e w' h => ⟨h.1, hW.trans (h.2.mono hW.size)⟩
          have HZ1 := Lib.hid hz1
          clear hnp hz1 hbel hsz HRA HRB
          have HXG : Hid (ibB ⟨xg, xk, xv, xp⟩ = true → 1 ≤ xg) := fun h => by simp [ibB] at h; exact h.1.1.1.1
          generalize ibB ⟨xg, xk, xv, xp⟩ = X at *
          generalize aftB ⟨xg, xk, xv, xp⟩ ⟨yg, yk, yv, yp⟩ = Y at *
          generalize fitB ⟨xg, xk, xv, xp⟩ ⟨yg, yk, yv, yp⟩ a.prs = Z at *
          go_wp2_with fail
          refine (H89.out _ HB1.out).mono ?_
          rintro e w2 ⟨rfl, hb2⟩
          cases X with
          | false =>
            go_wp2_with fail
            go_ret
            exact ⟨ret_bool (by rw [HST.out]; rfl), HBA.out.trans (hb2.mono HBA.out.size)⟩
          | true =>
            obtain ⟨s1, s2, s3, s4, q1, q2, q3, q4, t3⟩ := HS.out _ hb2
            have HB2 := Lib.hid hb2
            clear hb2
            go_wp2_with fail
            refine (H90.out _ HB2.out).mono ?_
            rintro e w3 ⟨rfl, hb3⟩
            clear s1 s2 s3 s4 q1 q2 q3 q4 t3
            cases Y with
            | false =>
              go_wp2_with fail
              go_ret
              exact ⟨ret_bool (by rw [HST.out]; rfl), HBA.out.trans (hb3.mono HBA.out.size)⟩
            | true =>
              obtain ⟨s1, s2, s3, s4, q1, q2, q3, q4, t3⟩ := HS.out _ hb3
              have HB3 := Lib.hid hb3
              clear hb3
              go_wp2_with fail
              refine (H91.out (by first | exact trivial | rfl) _ HB3.out).mono ?_
              rintro e w4 ⟨rfl, hb4⟩
              clear s1 s2 s3 s4 q1 q2 q3 q4 t3
              cases Z with
              | false =>
                go_wp2_with fail
                go_ret
                exact ⟨ret_bool (by rw [HST.out]; rfl), HBA.out.trans (hb4.mono HBA.out.size)⟩
              | true =>
                obtain ⟨s1, s2, s3, s4, q1, q2, q3, q4, t3⟩ := HS.out _ hb4
                have HRB4 := (hb4.block _ (by rw [HZ1.out]; have := HSZ.out; omega)).trans HRB1.out
                have HRA4 := (hb4.block _ (by rw [HZ1.out]; have := HSZ.out; omega)).trans HRA1.out
                have z0 := frozen_of_row _ _ 0 _ _ HRB4
                have z1 := frozen_of_row _ _ 1 _ _ HRB4
                have z2 := frozen_of_row _ _ 2 _ _ HRB4
                have z3 := frozen_of_row _ _ 3 _ _ HRB4
                have HR5 := Lib.hid (row4_set w4 (w.heap.size + 1) 60 _ _ _ _ (.int .i64 xg) (.int .i64 xk) (.int .i64 xv) (.int .i64 xp) HRB4)
                have HB5 := Lib.hid (HBA.out.trans (hb4.mono HBA.out.size))
                have HA5 := Lib.hid HRA4
                have HZ4 : Hid (w.heap.size + 2 ≤ w4.heap.size) := by have h1 := hb4.size; have h2 := HSZ.out; rw [HZ1.out] at h1; exact Nat.le_trans h2 (by omega)
                clear HRB4 HRA4 hb4
                go_wp2_with fail
                go_roundw
                case rel =>
                  refine ⟨k + 1, by omega, by go_num, ((((HB5.out.setCell (p := ⟨w.heap.size + 1, 0, none⟩) (Nat.le_succ _) _).setCell (p := ⟨w.heap.size + 1, 1, none⟩) (Nat.le_succ _) _).setCell (p := ⟨w.heap.size + 1, 2, none⟩) (Nat.le_succ _) _).setCell (p := ⟨w.heap.size + 1, 3, none⟩) (Nat.le_succ _) _), by simp; exact HZ4.out, ?_, xg, xk, xv, xp, HR5.out, ⟨by have := HXG.out (by first | exact trivial | rfl); omega, HM.out⟩, ?_⟩
                  · show _ = _
                    rw [heap_setCell_other _ _ _ _ (by simp), heap_setCell_other _ _ _ _ (by simp), heap_setCell_other _ _ _ _ (by simp), heap_setCell_other _ _ _ _ (by simp)]
                    exact HA5.out
                  · show _ = _
                    rw [HST.out]; rfl
                case measure => simp [intOf]; omega
        · have hkk : k = a.ibs.length := by omega
          subst hkk
          go_wp2_with fail
          go_ret
          exact ⟨ret_bool (by rw [hst.out, List.drop_length]; rfl), hbel⟩
    · go_enter Tryd.func53, Tryd.ntmps53
      go_wp2_with fail
      refine (HO.out _ (alloc_below ..)).mono ?_
      rintro e w1 ⟨rfl, n, rfl⟩
      go_wp2_with fail
      go_ret
      exact ⟨ret_bool (by rw [HV.out, decide_eq_false hh]; rfl), by first | exact alloc_below .. | exact below_drewN (alloc_below ..) _⟩
end Go.Proofs.YtnbggokmiokhlaaDoor
