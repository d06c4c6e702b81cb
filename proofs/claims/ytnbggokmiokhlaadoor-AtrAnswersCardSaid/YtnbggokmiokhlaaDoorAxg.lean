/-
  further of the reference: the walk.
-/
import Derived.Test.YtnbggokmiokhlaaDoorAxf
namespace Go.Proofs.YtnbggokmiokhlaaDoor
set_option linter.unusedVariables false
set_option linter.unusedSimpArgs false
open Go.RowKit

set_option maxRecDepth 100000 in
set_option maxHeartbeats 6400000 in
theorem rfar_bad (l : List UInt8) (v : Value) (w : World) (h : SL w w.heap.size v l) (hl : l.length ≤ 1000) (hbad : l.length < 2 ∨ l.getD 0 0 ≠ 255 ∨ 128 ≤ (l.getD 1 0).toNat) : Calls Tryd.prog 64 #[v] w (FarR l w) := by

  have HSUM := Lib.hid (fun (W : World) (hW : Below w.heap.size w W) => rsum5_any l v W W.heap.size (h.on hW))
  have HE : Hid (ppsE l = if l.length < 2 ∨ l.getD 0 0 ≠ 255 ∨ 128 ≤ (l.getD 1 0).toNat then 4 else if l.length ≠ 3 + annN (l.getD 1 0) 3 then 4 else remE 0 l) := rfl
  obtain ⟨A, c, rfl, k1, k2, k3⟩ := h
  unfold maxLen at k2
  have K3 := Lib.hid k3
  clear k3
  have hal := Lib.hid (two_alloc w (.cells #[.int .i64 0, .int .i64 0, .int .i64 0] 74) (.cells #[.int .i64 (-1), .int .i64 (-1), .int .i64 (-1)] 74))
  have hold := Lib.hid (heap_alloc2_old w (.cells #[.int .i64 0, .int .i64 0, .int .i64 0] 74) (.cells #[.int .i64 (-1), .int .i64 (-1), .int .i64 (-1)] 74))
  have hnew := Lib.hid (heap_alloc2_new w (.cells #[.int .i64 0, .int .i64 0, .int .i64 0] 74) (.cells #[.int .i64 (-1), .int .i64 (-1), .int .i64 (-1)] 74))
  by_cases c1 : l.length < 2
  case pos =>
    have HB := Lib.hid (fun (w' : World) (e : Ending) => far_bad (l := l) (w := w) (w' := w') (e := e) 4 (-1) (-1) (-1) (by rw [HE.out, if_pos (.inl c1)]) (by decide))
    have c1' : (l.length : Int) < 2 := by omega
    go_enter Tryd.func64, Tryd.ntmps64
    go_wp2_with fail
    exact bodyPost_ret (results_cellT rfl _ _ w.heap.size 74 _ (0, 0) _ rfl (heap_alloc2_old w _ _) Tryd.underlying74 rfl (by kernel_rfl)) rfl (HB.out _ _ rfl (two_alloc _ _ _))
  have c1' : ¬ (l.length : Int) < 2 := by omega
  obtain ⟨b, o, rfl, hb, hc⟩ := K3.out (by omega)
  have HB0 := hal.out
  have g0 := (HB0.cell (p := ⟨b, o, none⟩) hb).trans (hc 0 (by omega))
  have g1 := (HB0.cell (p := ⟨b, o + 1, none⟩) hb).trans (hc 1 (by omega))
  have i2 : (1 : Int) < (l.length : Int) := by omega
  have i3 : (0 : Int) < (l.length : Int) := by omega
  have HC := Lib.hid hc
  clear hc HB0
  generalize hx0 : l.getD 0 0 = x0 at *
  generalize hy : l.getD 1 0 = y at *
  have HX0 := Lib.hid hx0
  have HY := Lib.hid hy
  clear hx0 hy
  by_cases c2 : x0 = 255
  case neg =>
    have HB := Lib.hid (fun (w' : World) (e : Ending) => far_bad (l := l) (w := w) (w' := w') (e := e) 4 (-1) (-1) (-1) (by rw [HE.out, if_pos (.inr (.inl c2))]) (by decide))
    have c2b : ((x0.toNat : Int) != 255) = true := by
      rw [bne_iff_ne]
      intro e
      exact c2 (UInt8.toNat.inj (by have : x0.toNat = 255 := by omega
                                    exact this))
    go_enter Tryd.func64, Tryd.ntmps64
    go_wp2_with fail
    exact bodyPost_ret (results_cellT rfl _ _ w.heap.size 74 _ (0, 0) _ rfl (heap_alloc2_old w _ _) Tryd.underlying74 rfl (by kernel_rfl)) rfl (HB.out _ _ rfl (two_alloc _ _ _))
  subst c2
  have c2b : (((255 : UInt8).toNat : Int) != 255) = false := rfl
  by_cases c3 : 128 ≤ y.toNat
  case pos =>
    have HB := Lib.hid (fun (w' : World) (e : Ending) => far_bad (l := l) (w := w) (w' := w') (e := e) 4 (-1) (-1) (-1) (by rw [HE.out, if_pos (.inr (.inr c3))]) (by decide))
    have c3b : (128 : Int) ≤ (y.toNat : Int) := by omega
    go_enter Tryd.func64, Tryd.ntmps64
    go_wp2_with fail
    exact bodyPost_ret (results_cellT rfl _ _ w.heap.size 74 _ (0, 0) _ rfl (heap_alloc2_old w _ _) Tryd.underlying74 rfl (by kernel_rfl)) rfl (HB.out _ _ rfl (two_alloc _ _ _))
  exact absurd hbad (by simp; omega)
set_option maxRecDepth 100000 in
set_option maxHeartbeats 6400000 in
theorem rfar_len (l : List UInt8) (v : Value) (w : World) (h : SL w w.heap.size v l) (hl : l.length ≤ 1000) (hgood : ¬ (l.length < 2 ∨ l.getD 0 0 ≠ 255 ∨ 128 ≤ (l.getD 1 0).toNat)) (hx4 : l.length ≠ 3 + annN (l.getD 1 0) 3) : Calls Tryd.prog 64 #[v] w (FarR l w) := by
  have HX4 := Lib.hid hx4
  clear hx4

  have HSUM := Lib.hid (fun (W : World) (hW : Below w.heap.size w W) => rsum5_any l v W W.heap.size (h.on hW))
  have HE : Hid (ppsE l = if l.length < 2 ∨ l.getD 0 0 ≠ 255 ∨ 128 ≤ (l.getD 1 0).toNat then 4 else if l.length ≠ 3 + annN (l.getD 1 0) 3 then 4 else remE 0 l) := rfl
  obtain ⟨A, c, rfl, k1, k2, k3⟩ := h
  unfold maxLen at k2
  have K3 := Lib.hid k3
  clear k3
  have hal := Lib.hid (two_alloc w (.cells #[.int .i64 0, .int .i64 0, .int .i64 0] 74) (.cells #[.int .i64 (-1), .int .i64 (-1), .int .i64 (-1)] 74))
  have hold := Lib.hid (heap_alloc2_old w (.cells #[.int .i64 0, .int .i64 0, .int .i64 0] 74) (.cells #[.int .i64 (-1), .int .i64 (-1), .int .i64 (-1)] 74))
  have hnew := Lib.hid (heap_alloc2_new w (.cells #[.int .i64 0, .int .i64 0, .int .i64 0] 74) (.cells #[.int .i64 (-1), .int .i64 (-1), .int .i64 (-1)] 74))
  have c1 : ¬ l.length < 2 := fun x => hgood (.inl x)
  have c1' : ¬ (l.length : Int) < 2 := by omega
  obtain ⟨b, o, rfl, hb, hc⟩ := K3.out (by omega)
  have HB0 := hal.out
  have g0 := (HB0.cell (p := ⟨b, o, none⟩) hb).trans (hc 0 (by omega))
  have g1 := (HB0.cell (p := ⟨b, o + 1, none⟩) hb).trans (hc 1 (by omega))
  have i2 : (1 : Int) < (l.length : Int) := by omega
  have i3 : (0 : Int) < (l.length : Int) := by omega
  have HC := Lib.hid hc
  clear hc HB0
  generalize hx0 : l.getD 0 0 = x0 at *
  generalize hy : l.getD 1 0 = y at *
  have HX0 := Lib.hid hx0
  have HY := Lib.hid hy
  clear hx0 hy
  have c2 : x0 = 255 := Classical.byContradiction fun x => hgood (.inr (.inl x))
  subst c2
  have c2b : (((255 : UInt8).toNat : Int) != 255) = false := rfl
  have c3 : ¬ 128 ≤ y.toNat := fun x => hgood (.inr (.inr x))
  have c3b : ¬ (128 : Int) ≤ (y.toNat : Int) := by omega
  have HE2 : Hid (ppsE l = if l.length ≠ 3 + annN y 3 then 4 else remE 0 l) := by show _ = _; rw [HE.out, if_neg (by simp; omega)]
  have HRL := Lib.hid (rem_lrc (l := l) (by omega))
  generalize lrcL l = qq at *
  clear HE
  go_enter Tryd.func64, Tryd.ntmps64
  go_wp2_with fail
  generalize (w.alloc (.cells #[.int .i64 0, .int .i64 0, .int .i64 0] 74)).alloc (.cells #[.int .i64 (-1), .int .i64 (-1), .int .i64 (-1)] 74) = W0 at *
  go_loopw [5, 6, 7] (fun s5 s6 s7 wr => ∃ k : Nat, k ≤ 3 ∧ s7 = .int .i64 k ∧ s5 = .int .i64 ((y.toNat / 16 / 2 ^ k : Nat) : Int) ∧ s6 = .int .i64 ((2 + annN y k : Nat) : Int) ∧ Hid (Below w.heap.size w wr) ∧ Hid (wr.heap[w.heap.size]? = some (.cells #[.int .i64 0, .int .i64 0, .int .i64 0] 74 (0, 0))) ∧ Hid (wr.heap[w.heap.size + 1]? = some (.cells (rowK l y k) 74 (0, 0)))) (fun _ _ i _ => 3 - (intOf i).toNat)
  case atStart => exact ⟨0, by omega, rfl, by simp, rfl, hal, hold, hnew⟩
  case round =>
    clear hal hold hnew
    obtain ⟨k, hk, rfl, rfl, rfl, HB, HR, HX⟩ := hrel
    by_cases hk3 : k < 3
    case neg =>
      obtain rfl : k = 3 := by omega
      have z0 := frozen_of_row _ _ 0 _ _ HR.out
      have z1 := frozen_of_row _ _ 1 _ _ HR.out
      have z2 := frozen_of_row _ _ 2 _ _ HR.out
      have y0 := cell_of_row _ _ 0 _ _ _ HR.out
      have y1 := cell_of_row _ _ 1 _ _ _ HR.out
      have y2 := cell_of_row _ _ 2 _ _ _ HR.out
      have hrk : rowK l y 3 = #[.int .i64 (refK l y 3 0), .int .i64 (refK l y 3 1), .int .i64 (refK l y 3 2)] := rfl
      have HRK := Lib.hid hrk
      have hx := HX.out
      rw [hrk] at hx
      have x0 := cell_of_row _ _ 0 _ _ _ hx
      have x1 := cell_of_row _ _ 1 _ _ _ hx
      have x2 := cell_of_row _ _ 2 _ _ _ hx
      clear hrk hx
      generalize refK l y 3 0 = r0 at *
      generalize refK l y 3 1 = r1 at *
      generalize refK l y 3 2 = r2 at *
      have c4 : l.length ≠ 3 + annN y 3 := HX4.out
      have hn := annN_le y 3
      generalize annN y 3 = n at *
      have HBS := Lib.hid (((HB.out.setCell (p := ⟨w.heap.size, 0, none⟩) (Nat.le_refl _) (.int .i64 r0)).setCell (p := ⟨w.heap.size, 1, none⟩) (Nat.le_refl _) (.int .i64 r1)).setCell (p := ⟨w.heap.size, 2, none⟩) (Nat.le_refl _) (.int .i64 r2))
      have HRS := Lib.hid (row3_set wr w.heap.size 74 _ _ _ (.int .i64 r0) (.int .i64 r1) (.int .i64 r2) HR.out)
      have c4b : ((l.length : Int) != ((2 + n : Nat) : Int) + 1) = true := by rw [bne_iff_ne]; omega
      have HB4 := Lib.hid (fun (w' : World) (e : Ending) => far_bad (l := l) (w := w) (w' := w') (e := e) 4 r0 r1 r2 (by rw [HE2.out, if_pos c4]) (by decide))
      go_wp2_with fail
      exact bodyPost_ret (results_cellT rfl _ _ w.heap.size 74 _ (0, 0) _ rfl HRS.out Tryd.underlying74 rfl (by kernel_rfl)) rfl (HB4.out _ _ rfl HBS.out)
    have hk3' : (k : Int) < 3 := by omega
    have hm := ann_div y hk3
    have hmb : y.toNat / 16 / 2 ^ k ≤ 7 := Nat.le_trans (Nat.div_le_self _ _) (by omega)
    have hab := annN_le y k
    have HDS := Lib.hid (div_step y.toNat k)
    have HNS : Hid (annN y (k + 1) = annN y k + if annB y k = true then 1 else 0) := rfl
    generalize y.toNat / 16 / 2 ^ k = m at *
    cases ha : annB y k with
    | false =>
      have HA := Lib.hid ha
      rw [ha] at hm
      have HNS2 : Hid (annN y (k + 1) = annN y k) := by show _ = _; rw [HNS.out, ha]; rfl
      clear ha HNS
      go_wp2_with fail
      go_roundw
      case rel => exact ⟨k + 1, by omega, by go_num, by first | (rw [HDS.out]; done) | (rw [HDS.out]; go_num), by rw [HNS2.out], HB, HR, by show _ = _; rw [rowK_skip (.inl HA.out)]; exact HX.out⟩
      case measure => simp [intOf]; omega
    | true =>
      have HA := Lib.hid ha
      rw [ha] at hm
      have HNS2 : Hid (annN y (k + 1) = annN y k + 1) := by show _ = _; rw [HNS.out, ha]; rfl
      clear ha HNS
      by_cases hin : 2 + annN y k < l.length
      case neg =>
        have hin' : ¬ ((2 + annN y k : Nat) : Int) < (l.length : Int) := by omega
        have HXN : Hid (wr.heap[w.heap.size + 1]? = some (.cells (rowK l y (k + 1)) 74 (0, 0))) := by show _ = _; rw [rowK_skip (.inr (by omega))]; exact HX.out
        generalize annN y k = q at *
        go_wp2_with fail
        go_roundw
        case rel => exact ⟨k + 1, by omega, by go_num, by first | (rw [HDS.out]; done) | (rw [HDS.out]; go_num), by first | (rw [HNS2.out]; done) | (rw [HNS2.out]; go_num), HB, HR, HXN⟩
        case measure => simp [intOf]; omega
      have hin' : ((2 + annN y k : Nat) : Int) < (l.length : Int) := by omega
      have HPUT := Lib.hid (rowK_put hk3 HA.out hin)
      have gk := (HB.out.cell (p := ⟨b, o + (2 + annN y k), none⟩) hb).trans (HC.out _ hin)
      have hrk : (rowK l y k)[k]? = some (.int .i64 (refK l y k k)) := by
        have h3 : k = 0 ∨ k = 1 ∨ k = 2 := by omega
        rcases h3 with rfl | rfl | rfl <;> rfl
      have x1 := (cell_of_row _ _ k _ _ _ HX.out).trans hrk
      have x2 := frozen_of_row _ _ k _ _ HX.out
      clear hrk
      have HN2 : Hid (((2 + annN y (k + 1) : Nat) : Int) = ((2 + annN y k : Nat) : Int) + 1) := by show _ = _; rw [HNS2.out]; omega
      have hj : 2 + annN y k ≤ 5 := by omega
      clear HNS2 hab
      generalize 2 + annN y k = j at *
      generalize l.getD j 0 = z at *
      have hzl := z.toNat_lt
      have hzw : RowKit.wrap64 (z.toNat : Int) = (z.toNat : Int) := by unfold RowKit.wrap64; omega
      have hzw2 : IntKind.wrap .i64 (z.toNat : Int) = (z.toNat : Int) := (IntWalk.i64_left _).trans hzw
      go_wp2_with fail
      go_roundw
      case rel => exact ⟨k + 1, by omega, by go_num, by first | (rw [HDS.out]; done) | (rw [HDS.out]; go_num), by first | (rw [HN2.out]; done) | (rw [HN2.out]; go_num), HB.out.setCell (p := ⟨w.heap.size + 1, k, none⟩) (by simp) _, (heap_setCell_other _ _ _ _ (by simp)).trans HR.out, by have h := heap_setCell_same wr (w.heap.size + 1) k _ 74 (.int .i64 (z.toNat : Int)) HX.out; rw [HPUT.out] at h; exact h⟩
      case measure => simp [intOf]; omega
set_option maxRecDepth 100000 in
set_option maxHeartbeats 6400000 in
theorem rfar_sum (l : List UInt8) (v : Value) (w : World) (h : SL w w.heap.size v l) (hl : l.length ≤ 1000) (hgood : ¬ (l.length < 2 ∨ l.getD 0 0 ≠ 255 ∨ 128 ≤ (l.getD 1 0).toNat)) (hx4 : l.length = 3 + annN (l.getD 1 0) 3) (hx5 : lrcL l ≠ 0) : Calls Tryd.prog 64 #[v] w (FarR l w) := by
  have HX4 := Lib.hid hx4
  have HX5 := Lib.hid hx5
  clear hx4 hx5

  have HSUM := Lib.hid (fun (W : World) (hW : Below w.heap.size w W) => rsum5_any l v W W.heap.size (h.on hW))
  have HE : Hid (ppsE l = if l.length < 2 ∨ l.getD 0 0 ≠ 255 ∨ 128 ≤ (l.getD 1 0).toNat then 4 else if l.length ≠ 3 + annN (l.getD 1 0) 3 then 4 else remE 0 l) := rfl
  obtain ⟨A, c, rfl, k1, k2, k3⟩ := h
  unfold maxLen at k2
  have K3 := Lib.hid k3
  clear k3
  have hal := Lib.hid (two_alloc w (.cells #[.int .i64 0, .int .i64 0, .int .i64 0] 74) (.cells #[.int .i64 (-1), .int .i64 (-1), .int .i64 (-1)] 74))
  have hold := Lib.hid (heap_alloc2_old w (.cells #[.int .i64 0, .int .i64 0, .int .i64 0] 74) (.cells #[.int .i64 (-1), .int .i64 (-1), .int .i64 (-1)] 74))
  have hnew := Lib.hid (heap_alloc2_new w (.cells #[.int .i64 0, .int .i64 0, .int .i64 0] 74) (.cells #[.int .i64 (-1), .int .i64 (-1), .int .i64 (-1)] 74))
  have c1 : ¬ l.length < 2 := fun x => hgood (.inl x)
  have c1' : ¬ (l.length : Int) < 2 := by omega
  obtain ⟨b, o, rfl, hb, hc⟩ := K3.out (by omega)
  have HB0 := hal.out
  have g0 := (HB0.cell (p := ⟨b, o, none⟩) hb).trans (hc 0 (by omega))
  have g1 := (HB0.cell (p := ⟨b, o + 1, none⟩) hb).trans (hc 1 (by omega))
  have i2 : (1 : Int) < (l.length : Int) := by omega
  have i3 : (0 : Int) < (l.length : Int) := by omega
  have HC := Lib.hid hc
  clear hc HB0
  generalize hx0 : l.getD 0 0 = x0 at *
  generalize hy : l.getD 1 0 = y at *
  have HX0 := Lib.hid hx0
  have HY := Lib.hid hy
  clear hx0 hy
  have c2 : x0 = 255 := Classical.byContradiction fun x => hgood (.inr (.inl x))
  subst c2
  have c2b : (((255 : UInt8).toNat : Int) != 255) = false := rfl
  have c3 : ¬ 128 ≤ y.toNat := fun x => hgood (.inr (.inr x))
  have c3b : ¬ (128 : Int) ≤ (y.toNat : Int) := by omega
  have HE2 : Hid (ppsE l = if l.length ≠ 3 + annN y 3 then 4 else remE 0 l) := by show _ = _; rw [HE.out, if_neg (by simp; omega)]
  have HRL := Lib.hid (rem_lrc (l := l) (by omega))
  generalize lrcL l = qq at *
  clear HE
  go_enter Tryd.func64, Tryd.ntmps64
  go_wp2_with fail
  generalize (w.alloc (.cells #[.int .i64 0, .int .i64 0, .int .i64 0] 74)).alloc (.cells #[.int .i64 (-1), .int .i64 (-1), .int .i64 (-1)] 74) = W0 at *
  go_loopw [5, 6, 7] (fun s5 s6 s7 wr => ∃ k : Nat, k ≤ 3 ∧ s7 = .int .i64 k ∧ s5 = .int .i64 ((y.toNat / 16 / 2 ^ k : Nat) : Int) ∧ s6 = .int .i64 ((2 + annN y k : Nat) : Int) ∧ Hid (Below w.heap.size w wr) ∧ Hid (wr.heap[w.heap.size]? = some (.cells #[.int .i64 0, .int .i64 0, .int .i64 0] 74 (0, 0))) ∧ Hid (wr.heap[w.heap.size + 1]? = some (.cells (rowK l y k) 74 (0, 0)))) (fun _ _ i _ => 3 - (intOf i).toNat)
  case atStart => exact ⟨0, by omega, rfl, by simp, rfl, hal, hold, hnew⟩
  case round =>
    clear hal hold hnew
    obtain ⟨k, hk, rfl, rfl, rfl, HB, HR, HX⟩ := hrel
    by_cases hk3 : k < 3
    case neg =>
      obtain rfl : k = 3 := by omega
      have z0 := frozen_of_row _ _ 0 _ _ HR.out
      have z1 := frozen_of_row _ _ 1 _ _ HR.out
      have z2 := frozen_of_row _ _ 2 _ _ HR.out
      have y0 := cell_of_row _ _ 0 _ _ _ HR.out
      have y1 := cell_of_row _ _ 1 _ _ _ HR.out
      have y2 := cell_of_row _ _ 2 _ _ _ HR.out
      have hrk : rowK l y 3 = #[.int .i64 (refK l y 3 0), .int .i64 (refK l y 3 1), .int .i64 (refK l y 3 2)] := rfl
      have HRK := Lib.hid hrk
      have hx := HX.out
      rw [hrk] at hx
      have x0 := cell_of_row _ _ 0 _ _ _ hx
      have x1 := cell_of_row _ _ 1 _ _ _ hx
      have x2 := cell_of_row _ _ 2 _ _ _ hx
      clear hrk hx
      generalize refK l y 3 0 = r0 at *
      generalize refK l y 3 1 = r1 at *
      generalize refK l y 3 2 = r2 at *
      have c4 : l.length = 3 + annN y 3 := HX4.out
      have hn := annN_le y 3
      generalize annN y 3 = n at *
      have HBS := Lib.hid (((HB.out.setCell (p := ⟨w.heap.size, 0, none⟩) (Nat.le_refl _) (.int .i64 r0)).setCell (p := ⟨w.heap.size, 1, none⟩) (Nat.le_refl _) (.int .i64 r1)).setCell (p := ⟨w.heap.size, 2, none⟩) (Nat.le_refl _) (.int .i64 r2))
      have HRS := Lib.hid (row3_set wr w.heap.size 74 _ _ _ (.int .i64 r0) (.int .i64 r1) (.int .i64 r2) HR.out)
      have c4b : ((l.length : Int) != ((2 + n : Nat) : Int) + 1) = false := by rw [bne_eq_false_iff_eq]; omega
      have HE3 : Hid (ppsE l = if qq = 0 then 0 else 6) := by show _ = _; rw [HE2.out, if_neg (by omega), HRL.out]
      have HSW := Lib.hid (HSUM.out _ HB.out)
      have HC4 := Lib.hid c4
      clear c4
      have c5 : ¬ qq = 0 := HX5.out
      have c5b : ((qq.toNat : Int) != 0) = true := by
        rw [bne_iff_ne]
        intro e
        exact c5 (UInt8.toNat.inj (by have h0 : qq.toNat = 0 := by omega
                                      exact h0))
      have HB4 := Lib.hid (fun (w' : World) (e : Ending) => far_bad (l := l) (w := w) (w' := w') (e := e) 6 r0 r1 r2 (by rw [HE3.out, if_neg c5]) (by decide))
      clear c5 HX5 HRL
      go_wp2_with fail
      refine HSW.out.mono ?_
      rintro e w5 ⟨rfl, rfl⟩
      go_wp2_with fail
      exact bodyPost_ret (results_cellT rfl _ _ w.heap.size 74 _ (0, 0) _ rfl HRS.out Tryd.underlying74 rfl (by kernel_rfl)) rfl (HB4.out _ _ rfl HBS.out)
    have hk3' : (k : Int) < 3 := by omega
    have hm := ann_div y hk3
    have hmb : y.toNat / 16 / 2 ^ k ≤ 7 := Nat.le_trans (Nat.div_le_self _ _) (by omega)
    have hab := annN_le y k
    have HDS := Lib.hid (div_step y.toNat k)
    have HNS : Hid (annN y (k + 1) = annN y k + if annB y k = true then 1 else 0) := rfl
    generalize y.toNat / 16 / 2 ^ k = m at *
    cases ha : annB y k with
    | false =>
      have HA := Lib.hid ha
      rw [ha] at hm
      have HNS2 : Hid (annN y (k + 1) = annN y k) := by show _ = _; rw [HNS.out, ha]; rfl
      clear ha HNS
      go_wp2_with fail
      go_roundw
      case rel => exact ⟨k + 1, by omega, by go_num, by first | (rw [HDS.out]; done) | (rw [HDS.out]; go_num), by rw [HNS2.out], HB, HR, by show _ = _; rw [rowK_skip (.inl HA.out)]; exact HX.out⟩
      case measure => simp [intOf]; omega
    | true =>
      have HA := Lib.hid ha
      rw [ha] at hm
      have HNS2 : Hid (annN y (k + 1) = annN y k + 1) := by show _ = _; rw [HNS.out, ha]; rfl
      clear ha HNS
      by_cases hin : 2 + annN y k < l.length
      case neg =>
        have hin' : ¬ ((2 + annN y k : Nat) : Int) < (l.length : Int) := by omega
        have HXN : Hid (wr.heap[w.heap.size + 1]? = some (.cells (rowK l y (k + 1)) 74 (0, 0))) := by show _ = _; rw [rowK_skip (.inr (by omega))]; exact HX.out
        generalize annN y k = q at *
        go_wp2_with fail
        go_roundw
        case rel => exact ⟨k + 1, by omega, by go_num, by first | (rw [HDS.out]; done) | (rw [HDS.out]; go_num), by first | (rw [HNS2.out]; done) | (rw [HNS2.out]; go_num), HB, HR, HXN⟩
        case measure => simp [intOf]; omega
      have hin' : ((2 + annN y k : Nat) : Int) < (l.length : Int) := by omega
      have HPUT := Lib.hid (rowK_put hk3 HA.out hin)
      have gk := (HB.out.cell (p := ⟨b, o + (2 + annN y k), none⟩) hb).trans (HC.out _ hin)
      have hrk : (rowK l y k)[k]? = some (.int .i64 (refK l y k k)) := by
        have h3 : k = 0 ∨ k = 1 ∨ k = 2 := by omega
        rcases h3 with rfl | rfl | rfl <;> rfl
      have x1 := (cell_of_row _ _ k _ _ _ HX.out).trans hrk
      have x2 := frozen_of_row _ _ k _ _ HX.out
      clear hrk
      have HN2 : Hid (((2 + annN y (k + 1) : Nat) : Int) = ((2 + annN y k : Nat) : Int) + 1) := by show _ = _; rw [HNS2.out]; omega
      have hj : 2 + annN y k ≤ 5 := by omega
      clear HNS2 hab
      generalize 2 + annN y k = j at *
      generalize l.getD j 0 = z at *
      have hzl := z.toNat_lt
      have hzw : RowKit.wrap64 (z.toNat : Int) = (z.toNat : Int) := by unfold RowKit.wrap64; omega
      have hzw2 : IntKind.wrap .i64 (z.toNat : Int) = (z.toNat : Int) := (IntWalk.i64_left _).trans hzw
      go_wp2_with fail
      go_roundw
      case rel => exact ⟨k + 1, by omega, by go_num, by first | (rw [HDS.out]; done) | (rw [HDS.out]; go_num), by first | (rw [HN2.out]; done) | (rw [HN2.out]; go_num), HB.out.setCell (p := ⟨w.heap.size + 1, k, none⟩) (by simp) _, (heap_setCell_other _ _ _ _ (by simp)).trans HR.out, by have h := heap_setCell_same wr (w.heap.size + 1) k _ 74 (.int .i64 (z.toNat : Int)) HX.out; rw [HPUT.out] at h; exact h⟩
      case measure => simp [intOf]; omega
set_option maxRecDepth 100000 in
set_option maxHeartbeats 6400000 in
theorem rfar_ok (l : List UInt8) (v : Value) (w : World) (h : SL w w.heap.size v l) (hl : l.length ≤ 1000) (hgood : ¬ (l.length < 2 ∨ l.getD 0 0 ≠ 255 ∨ 128 ≤ (l.getD 1 0).toNat)) (hx4 : l.length = 3 + annN (l.getD 1 0) 3) (hx5 : lrcL l = 0) : Calls Tryd.prog 64 #[v] w (FarR l w) := by
  have HX4 := Lib.hid hx4
  have HX5 := Lib.hid hx5
  clear hx4 hx5

  have HSUM := Lib.hid (fun (W : World) (hW : Below w.heap.size w W) => rsum5_any l v W W.heap.size (h.on hW))
  have HE : Hid (ppsE l = if l.length < 2 ∨ l.getD 0 0 ≠ 255 ∨ 128 ≤ (l.getD 1 0).toNat then 4 else if l.length ≠ 3 + annN (l.getD 1 0) 3 then 4 else remE 0 l) := rfl
  obtain ⟨A, c, rfl, k1, k2, k3⟩ := h
  unfold maxLen at k2
  have K3 := Lib.hid k3
  clear k3
  have hal := Lib.hid (two_alloc w (.cells #[.int .i64 0, .int .i64 0, .int .i64 0] 74) (.cells #[.int .i64 (-1), .int .i64 (-1), .int .i64 (-1)] 74))
  have hold := Lib.hid (heap_alloc2_old w (.cells #[.int .i64 0, .int .i64 0, .int .i64 0] 74) (.cells #[.int .i64 (-1), .int .i64 (-1), .int .i64 (-1)] 74))
  have hnew := Lib.hid (heap_alloc2_new w (.cells #[.int .i64 0, .int .i64 0, .int .i64 0] 74) (.cells #[.int .i64 (-1), .int .i64 (-1), .int .i64 (-1)] 74))
  have c1 : ¬ l.length < 2 := fun x => hgood (.inl x)
  have c1' : ¬ (l.length : Int) < 2 := by omega
  obtain ⟨b, o, rfl, hb, hc⟩ := K3.out (by omega)
  have HB0 := hal.out
  have g0 := (HB0.cell (p := ⟨b, o, none⟩) hb).trans (hc 0 (by omega))
  have g1 := (HB0.cell (p := ⟨b, o + 1, none⟩) hb).trans (hc 1 (by omega))
  have i2 : (1 : Int) < (l.length : Int) := by omega
  have i3 : (0 : Int) < (l.length : Int) := by omega
  have HC := Lib.hid hc
  clear hc HB0
  generalize hx0 : l.getD 0 0 = x0 at *
  generalize hy : l.getD 1 0 = y at *
  have HX0 := Lib.hid hx0
  have HY := Lib.hid hy
  clear hx0 hy
  have c2 : x0 = 255 := Classical.byContradiction fun x => hgood (.inr (.inl x))
  subst c2
  have c2b : (((255 : UInt8).toNat : Int) != 255) = false := rfl
  have c3 : ¬ 128 ≤ y.toNat := fun x => hgood (.inr (.inr x))
  have c3b : ¬ (128 : Int) ≤ (y.toNat : Int) := by omega
  have HE2 : Hid (ppsE l = if l.length ≠ 3 + annN y 3 then 4 else remE 0 l) := by show _ = _; rw [HE.out, if_neg (by simp; omega)]
  have HRL := Lib.hid (rem_lrc (l := l) (by omega))
  generalize lrcL l = qq at *
  clear HE
  go_enter Tryd.func64, Tryd.ntmps64
  go_wp2_with fail
  generalize (w.alloc (.cells #[.int .i64 0, .int .i64 0, .int .i64 0] 74)).alloc (.cells #[.int .i64 (-1), .int .i64 (-1), .int .i64 (-1)] 74) = W0 at *
  go_loopw [5, 6, 7] (fun s5 s6 s7 wr => ∃ k : Nat, k ≤ 3 ∧ s7 = .int .i64 k ∧ s5 = .int .i64 ((y.toNat / 16 / 2 ^ k : Nat) : Int) ∧ s6 = .int .i64 ((2 + annN y k : Nat) : Int) ∧ Hid (Below w.heap.size w wr) ∧ Hid (wr.heap[w.heap.size]? = some (.cells #[.int .i64 0, .int .i64 0, .int .i64 0] 74 (0, 0))) ∧ Hid (wr.heap[w.heap.size + 1]? = some (.cells (rowK l y k) 74 (0, 0)))) (fun _ _ i _ => 3 - (intOf i).toNat)
  case atStart => exact ⟨0, by omega, rfl, by simp, rfl, hal, hold, hnew⟩
  case round =>
    clear hal hold hnew
    obtain ⟨k, hk, rfl, rfl, rfl, HB, HR, HX⟩ := hrel
    by_cases hk3 : k < 3
    case neg =>
      obtain rfl : k = 3 := by omega
      have z0 := frozen_of_row _ _ 0 _ _ HR.out
      have z1 := frozen_of_row _ _ 1 _ _ HR.out
      have z2 := frozen_of_row _ _ 2 _ _ HR.out
      have y0 := cell_of_row _ _ 0 _ _ _ HR.out
      have y1 := cell_of_row _ _ 1 _ _ _ HR.out
      have y2 := cell_of_row _ _ 2 _ _ _ HR.out
      have hrk : rowK l y 3 = #[.int .i64 (refK l y 3 0), .int .i64 (refK l y 3 1), .int .i64 (refK l y 3 2)] := rfl
      have HRK := Lib.hid hrk
      have hx := HX.out
      rw [hrk] at hx
      have x0 := cell_of_row _ _ 0 _ _ _ hx
      have x1 := cell_of_row _ _ 1 _ _ _ hx
      have x2 := cell_of_row _ _ 2 _ _ _ hx
      clear hrk hx
      generalize refK l y 3 0 = r0 at *
      generalize refK l y 3 1 = r1 at *
      generalize refK l y 3 2 = r2 at *
      have c4 : l.length = 3 + annN y 3 := HX4.out
      have hn := annN_le y 3
      generalize annN y 3 = n at *
      have HBS := Lib.hid (((HB.out.setCell (p := ⟨w.heap.size, 0, none⟩) (Nat.le_refl _) (.int .i64 r0)).setCell (p := ⟨w.heap.size, 1, none⟩) (Nat.le_refl _) (.int .i64 r1)).setCell (p := ⟨w.heap.size, 2, none⟩) (Nat.le_refl _) (.int .i64 r2))
      have HRS := Lib.hid (row3_set wr w.heap.size 74 _ _ _ (.int .i64 r0) (.int .i64 r1) (.int .i64 r2) HR.out)
      have c4b : ((l.length : Int) != ((2 + n : Nat) : Int) + 1) = false := by rw [bne_eq_false_iff_eq]; omega
      have HE3 : Hid (ppsE l = if qq = 0 then 0 else 6) := by show _ = _; rw [HE2.out, if_neg (by omega), HRL.out]
      have HSW := Lib.hid (HSUM.out _ HB.out)
      have HC4 := Lib.hid c4
      clear c4
      have c5 : qq = 0 := HX5.out
      have c5b : ((qq.toNat : Int) != 0) = false := by rw [c5]; rfl
      have HE4 : Hid (ppsE l = 0) := by show _ = _; rw [HE3.out, if_pos c5]
      go_wp2_with fail
      refine HSW.out.mono ?_
      rintro e w5 ⟨rfl, rfl⟩
      go_wp2_with fail
      exact bodyPost_ret (results_cellT rfl _ _ w.heap.size 74 _ (0, 0) _ rfl HRS.out Tryd.underlying74 rfl (by kernel_rfl)) rfl ⟨r0, r1, r2, by rw [HE4.out]; rfl, fun _ => by rw [HY.out]; exact HRK.out.symm, HBS.out⟩
    have hk3' : (k : Int) < 3 := by omega
    have hm := ann_div y hk3
    have hmb : y.toNat / 16 / 2 ^ k ≤ 7 := Nat.le_trans (Nat.div_le_self _ _) (by omega)
    have hab := annN_le y k
    have HDS := Lib.hid (div_step y.toNat k)
    have HNS : Hid (annN y (k + 1) = annN y k + if annB y k = true then 1 else 0) := rfl
    generalize y.toNat / 16 / 2 ^ k = m at *
    cases ha : annB y k with
    | false =>
      have HA := Lib.hid ha
      rw [ha] at hm
      have HNS2 : Hid (annN y (k + 1) = annN y k) := by show _ = _; rw [HNS.out, ha]; rfl
      clear ha HNS
      go_wp2_with fail
      go_roundw
      case rel => exact ⟨k + 1, by omega, by go_num, by first | (rw [HDS.out]; done) | (rw [HDS.out]; go_num), by rw [HNS2.out], HB, HR, by show _ = _; rw [rowK_skip (.inl HA.out)]; exact HX.out⟩
      case measure => simp [intOf]; omega
    | true =>
      have HA := Lib.hid ha
      rw [ha] at hm
      have HNS2 : Hid (annN y (k + 1) = annN y k + 1) := by show _ = _; rw [HNS.out, ha]; rfl
      clear ha HNS
      by_cases hin : 2 + annN y k < l.length
      case neg =>
        have hin' : ¬ ((2 + annN y k : Nat) : Int) < (l.length : Int) := by omega
        have HXN : Hid (wr.heap[w.heap.size + 1]? = some (.cells (rowK l y (k + 1)) 74 (0, 0))) := by show _ = _; rw [rowK_skip (.inr (by omega))]; exact HX.out
        generalize annN y k = q at *
        go_wp2_with fail
        go_roundw
        case rel => exact ⟨k + 1, by omega, by go_num, by first | (rw [HDS.out]; done) | (rw [HDS.out]; go_num), by first | (rw [HNS2.out]; done) | (rw [HNS2.out]; go_num), HB, HR, HXN⟩
        case measure => simp [intOf]; omega
      have hin' : ((2 + annN y k : Nat) : Int) < (l.length : Int) := by omega
      have HPUT := Lib.hid (rowK_put hk3 HA.out hin)
      have gk := (HB.out.cell (p := ⟨b, o + (2 + annN y k), none⟩) hb).trans (HC.out _ hin)
      have hrk : (rowK l y k)[k]? = some (.int .i64 (refK l y k k)) := by
        have h3 : k = 0 ∨ k = 1 ∨ k = 2 := by omega
        rcases h3 with rfl | rfl | rfl <;> rfl
      have x1 := (cell_of_row _ _ k _ _ _ HX.out).trans hrk
      have x2 := frozen_of_row _ _ k _ _ HX.out
      clear hrk
      have HN2 : Hid (((2 + annN y (k + 1) : Nat) : Int) = ((2 + annN y k : Nat) : Int) + 1) := by show _ = _; rw [HNS2.out]; omega
      have hj : 2 + annN y k ≤ 5 := by omega
      clear HNS2 hab
      generalize 2 + annN y k = j at *
      generalize l.getD j 0 = z at *
      have hzl := z.toNat_lt
      have hzw : RowKit.wrap64 (z.toNat : Int) = (z.toNat : Int) := by unfold RowKit.wrap64; omega
      have hzw2 : IntKind.wrap .i64 (z.toNat : Int) = (z.toNat : Int) := (IntWalk.i64_left _).trans hzw
      go_wp2_with fail
      go_roundw
      case rel => exact ⟨k + 1, by omega, by go_num, by first | (rw [HDS.out]; done) | (rw [HDS.out]; go_num), by first | (rw [HN2.out]; done) | (rw [HN2.out]; go_num), HB.out.setCell (p := ⟨w.heap.size + 1, k, none⟩) (by simp) _, (heap_setCell_other _ _ _ _ (by simp)).trans HR.out, by have h := heap_setCell_same wr (w.heap.size + 1) k _ 74 (.int .i64 (z.toNat : Int)) HX.out; rw [HPUT.out] at h; exact h⟩
      case measure => simp [intOf]; omega
theorem rfar_any (l : List UInt8) (v : Value) (w : World) (h : SL w w.heap.size v l) (hl : l.length ≤ 1000) : Calls Tryd.prog 64 #[v] w (FarR l w) := by
  by_cases hb : l.length < 2 ∨ l.getD 0 0 ≠ 255 ∨ 128 ≤ (l.getD 1 0).toNat
  · exact rfar_bad l v w h hl hb
  by_cases h4 : l.length = 3 + annN (l.getD 1 0) 3
  · by_cases h5 : lrcL l = 0
    · exact rfar_ok l v w h hl hb h4 h5
    · exact rfar_sum l v w h hl hb h4 h5
  · exact rfar_len l v w h hl hb h4
end Go.Proofs.YtnbggokmiokhlaaDoor
