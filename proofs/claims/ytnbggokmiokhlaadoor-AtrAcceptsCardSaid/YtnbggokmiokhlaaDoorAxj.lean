/-
  Accept: the walk of the reference.
-/
import Derived.Test.YtnbggokmiokhlaaDoorAxh
namespace Go.Proofs.YtnbggokmiokhlaaDoor
set_option linter.unusedVariables false
set_option linter.unusedSimpArgs false
open Go.RowKit

/-- The reference's further byte i, or -1. -/
def refN (l : List UInt8) (i : Nat) : Int := refK l (l.getD 1 0) 3 i
theorem ppsE_len {l : List UInt8} (h : ppsE l = 0) : l.length = 3 + annN (l.getD 1 0) 3 := by
  unfold ppsE at h
  by_cases c : l.length < 2 ∨ l.getD 0 0 ≠ 255 ∨ 128 ≤ (l.getD 1 0).toNat
  · rw [if_pos c] at h; omega
  · rw [if_neg c] at h
    by_cases d : l.length ≠ 3 + annN (l.getD 1 0) 3
    · rw [if_pos d] at h; omega
    · omega
theorem refN_fur {l : List UInt8} (h : ppsE l = 0) {i : Nat} (hi : i < 3) : (ppsF l i = [] ∧ refN l i = -1) ∨ ∃ x : UInt8, ppsF l i = [x] ∧ refN l i = (x.toNat : Int) := by
  unfold ppsF refN refK
  rw [h]
  by_cases c : annB (l.getD 1 0) i = true
  · have h1 := annN_mono (l.getD 1 0) (i + 1) 3 (by omega)
    have h2 := ppsE_len h
    rw [annN_s, if_pos c] at h1
    refine .inr ⟨_, by rw [if_pos ⟨rfl, c⟩], by rw [if_pos ⟨hi, c, by omega⟩]⟩
  · exact .inl ⟨by rw [if_neg (fun x => c x.2)], by rw [if_neg (fun x => c x.2.1)]⟩
theorem furB_ref {r s : List UInt8} (hr : ppsE r = 0) (hs : ppsE s = 0) {i : Nat} (hi : i < 3) : furB r s i = (decide (0 ≤ refN s i) && (refN s i != refN r i)) := by
  unfold furB
  rcases refN_fur hs hi with ⟨e1, e2⟩ | ⟨x, e1, e2⟩
  · rw [e1, e2]; rfl
  · rcases refN_fur hr hi with ⟨f1, f2⟩ | ⟨y, f1, f2⟩
    · rw [e1, e2, f1, f2]
      have h1 : decide ((0 : Int) ≤ (x.toNat : Int)) = true := by simp
      have h2 : ((x.toNat : Int) != -1) = true := by rw [bne_iff_ne]; omega
      rw [h1, h2]; rfl
    · rw [e1, e2, f1, f2]
      have h1 : decide ((0 : Int) ≤ (x.toNat : Int)) = true := by simp
      rw [h1]
      by_cases e : x = y
      · subst e; simp
      · have h2 : ((x.toNat : Int) != (y.toNat : Int)) = true := by
          rw [bne_iff_ne]
          intro h3
          exact e (UInt8.toNat.inj (by omega))
        have h3 : ([x] == [y]) = false := by rw [beq_eq_false_iff_ne]; intro h4; injection h4 with h4; exact e h4
        rw [h2, h3]; rfl

theorem row_inj {l : List UInt8} {y : UInt8} {x0 x1 x2 : Int} (h : #[Value.int .i64 x0, Value.int .i64 x1, Value.int .i64 x2] = rowK l y 3) : x0 = refK l y 3 0 ∧ x1 = refK l y 3 1 ∧ x2 = refK l y 3 2 := by
  simpa [rowK] using h

theorem row_get (l : List UInt8) (y : UInt8) {k : Nat} (hk : k < 3) : (#[Value.int .i64 (refK l y 3 0), Value.int .i64 (refK l y 3 1), Value.int .i64 (refK l y 3 2)] : Array Value)[k]? = some (.int .i64 (refK l y 3 k)) := by
  have h3 : k = 0 ∨ k = 1 ∨ k = 2 := by omega
  rcases h3 with rfl | rfl | rfl <;> rfl

set_option maxRecDepth 100000 in
set_option maxHeartbeats 3200000 in
theorem racc_any (r s : List UInt8) (v u : Value) (w : World) (hr : SL w w.heap.size v r) (hs : SL w w.heap.size u s) (lr : r.length ≤ 1000) (ls : s.length ≤ 1000) :
    Calls Tryd.prog 36 #[v, u] w (AccR r s w) := by
  have HP := Lib.hid (fun (W : World) (hW : Below w.heap.size w W) => rfar_any r v W (hr.on hW) lr)
  have HQ := Lib.hid (fun (W : World) (hW : Below w.heap.size w W) => rfar_any s u W (hs.on hW) ls)
  unfold FarR at HP HQ
  have HE : Hid (accE r s = if ppsE r = 0 then (if ppsE s = 0 then (if ppsP s = ppsP r then (if (furB r s 0 || furB r s 1 || furB r s 2) = true then 28 else 0) else 28) else ppsE s) else ppsE r) := rfl
  have HR2 : Hid (ppsE r = 0 → 2 ≤ r.length ∧ ppsP r = ((r.getD 1 0).toNat : Int) % 16) := pps_two
  have HS2 : Hid (ppsE s = 0 → 2 ≤ s.length ∧ ppsP s = ((s.getD 1 0).toNat : Int) % 16) := pps_two
  have HFB : Hid (ppsE r = 0 → ppsE s = 0 → ∀ i, i < 3 → furB r s i = (decide (0 ≤ refN s i) && (refN s i != refN r i))) := fun h1 h2 i hi => furB_ref h1 h2 hi
  have HAP : Hid (accP r s = if accE r s = 0 then ppsP s else 0) := rfl
  obtain ⟨Ar, cr, rfl, k1, k2, k3⟩ := hr
  obtain ⟨As, cs, rfl, j1, j2, j3⟩ := hs
  have K3 := Lib.hid k3
  have J3 := Lib.hid j3
  unfold maxLen at k2 j2
  clear k3 j3
  by_cases x0 : ppsE r = 0
  case neg =>
    have HB := Lib.hid (fun (w' : World) (e : Ending) => acc_bad (r := r) (s := s) (w := w) (w' := w') (e := e) (ppsE r) (by rw [HE.out, if_neg x0]) x0)
    have hn : (ppsE r != 0) = true := by rw [bne_iff_ne]; exact x0
    generalize ppsE r = E at *
    go_enter Tryd.func36, Tryd.ntmps36
    go_wp2_with fail
    refine (HP.out _ (Below.refl _ _)).mono ?_
    rintro e w1 ⟨x0, x1, x2, rfl, hrr, hb1⟩
    clear hrr
    go_wp2_with fail
    go_ret2
    exact HB.out _ _ rfl (hb1.trans ((alloc_below _ _).mono hb1.size))
  have HE1 : Hid (accE r s = if ppsE s = 0 then (if ppsP s = ppsP r then (if (furB r s 0 || furB r s 1 || furB r s 2) = true then 28 else 0) else 28) else ppsE s) := by show _ = _; rw [HE.out, if_pos x0]
  obtain ⟨lr2, pr2⟩ := HR2.out x0
  by_cases x1 : ppsE s = 0
  case neg =>
    have HB := Lib.hid (fun (w' : World) (e : Ending) => acc_bad (r := r) (s := s) (w := w) (w' := w') (e := e) (ppsE s) (by rw [HE1.out, if_neg x1]) x1)
    have hn : (ppsE s != 0) = true := by rw [bne_iff_ne]; exact x1
    rw [x0] at HP
    clear x0 HE HR2 HFB HAP HE1
    generalize ppsE s = E at *
    go_enter Tryd.func36, Tryd.ntmps36
    go_wp2_with fail
    refine (HP.out _ (Below.refl _ _)).mono ?_
    rintro e w1 ⟨x0, x1, x2, rfl, hrr, hb1⟩
    clear hrr
    have hal1 := alloc_below w1 (.cells #[.int .i64 x0, .int .i64 x1, .int .i64 x2] 74)
    have HB1 := Lib.hid (hb1.trans (hal1.mono hb1.size))
    clear hal1 hb1
    go_wp2_with fail
    refine (HQ.out _ HB1.out).mono ?_
    rintro e w2 ⟨y0, y1, y2, rfl, hrr, hb2⟩
    clear hrr
    have HB2 := Lib.hid (HB1.out.trans (hb2.mono HB1.out.size))
    clear hb2
    go_wp2_with fail
    go_ret2
    exact HB.out _ _ rfl (HB2.out.trans ((alloc_below _ _).mono HB2.out.size))
  have HE2 : Hid (accE r s = if ppsP s = ppsP r then (if (furB r s 0 || furB r s 1 || furB r s 2) = true then 28 else 0) else 28) := by show _ = _; rw [HE1.out, if_pos x1]
  obtain ⟨ls2, ps2⟩ := HS2.out x1
  have HF2 := Lib.hid (HFB.out x0 x1)
  rw [x0] at HP
  rw [x1] at HQ
  obtain ⟨b, o, rfl, hb, hc⟩ := K3.out (by omega)
  obtain ⟨b2, o2, rfl, hb2, hc2⟩ := J3.out (by omega)
  have HG : Hid (∀ W, Below w.heap.size w W → W.cell? ⟨b, o + 1, none⟩ = some (.int .u8 ((r.getD 1 0).toNat : Int)) ∧ W.cell? ⟨b2, o2 + 1, none⟩ = some (.int .u8 ((s.getD 1 0).toNat : Int))) := fun W hW => ⟨(hW.cell (p := ⟨b, o + 1, none⟩) hb).trans (hc 1 (by omega)), (hW.cell (p := ⟨b2, o2 + 1, none⟩) hb2).trans (hc2 1 (by omega))⟩
  have i2 : (1 : Int) < (r.length : Int) := by omega
  have i3 : (1 : Int) < (s.length : Int) := by omega
  clear hc hc2 K3 J3 x0 x1 HE HE1 HR2 HS2 HFB
  generalize ppsP r = P at *
  generalize ppsP s = Q at *
  unfold refN at HF2
  generalize furB r s = FB at *
  generalize r.getD 1 0 = yr at *
  generalize s.getD 1 0 = ys at *
  have hyr := yr.toNat_lt
  have hys := ys.toNat_lt
  have HPR := Lib.hid pr2
  have HPS := Lib.hid ps2
  clear pr2 ps2
  go_enter Tryd.func36, Tryd.ntmps36
  go_wp2_with fail
  refine (HP.out _ (Below.refl _ _)).mono ?_
  rintro e w1 ⟨x0, x1, x2, rfl, hrr, hb1⟩
  obtain ⟨rfl, rfl, rfl⟩ := row_inj (hrr (by first | exact trivial | rfl))
  clear hrr
  have hal1 := alloc_below w1 (.cells #[.int .i64 (refK r yr 3 0), .int .i64 (refK r yr 3 1), .int .i64 (refK r yr 3 2)] 74)
  have HR1 := Lib.hid (heap_alloc_new w1 (.cells #[.int .i64 (refK r yr 3 0), .int .i64 (refK r yr 3 1), .int .i64 (refK r yr 3 2)] 74))
  have HB1 := Lib.hid (hb1.trans (hal1.mono hb1.size))
  clear hal1 hb1
  go_wp2_with fail
  refine (HQ.out _ HB1.out).mono ?_
  rintro e w2 ⟨y0, y1, y2, rfl, hrr, hb2'⟩
  obtain ⟨rfl, rfl, rfl⟩ := row_inj (hrr (by first | exact trivial | rfl))
  clear hrr
  have HB2 := Lib.hid (HB1.out.trans (hb2'.mono HB1.out.size))
  have HR2 := Lib.hid ((hb2'.block _ (row_lt HR1.out)).trans HR1.out)
  clear hb2'
  have hal3 := alloc_below w2 (.cells #[.int .i64 (refK s ys 3 0), .int .i64 (refK s ys 3 1), .int .i64 (refK s ys 3 2)] 74)
  have HX3 := Lib.hid (heap_alloc_new w2 (.cells #[.int .i64 (refK s ys 3 0), .int .i64 (refK s ys 3 1), .int .i64 (refK s ys 3 2)] 74))
  have HR3 := Lib.hid ((hal3.block _ (row_lt HR2.out)).trans HR2.out)
  have HB3 := Lib.hid (HB2.out.trans (hal3.mono HB2.out.size))
  clear hal3
  obtain ⟨g1, g2⟩ := HG.out _ HB3.out
  go_wp2_with fail
  generalize w2.alloc (.cells #[.int .i64 (refK s ys 3 0), .int .i64 (refK s ys 3 1), .int .i64 (refK s ys 3 2)] 74) = w3 at *
  by_cases hPQ : Q = P
  case neg =>
    have HB := Lib.hid (fun (w' : World) (e : Ending) => acc_bad (r := r) (s := s) (w := w) (w' := w') (e := e) 28 (by rw [HE2.out, if_neg hPQ]) (by decide))
    have hnn : (((yr.toNat : Int) % 16) != ((ys.toNat : Int) % 16)) = true := by rw [bne_iff_ne, ← HPR.out, ← HPS.out]; exact fun h => hPQ h.symm
    go_quiet (fail)
    go_wp2_with fail
    go_ret2
    exact HB.out _ _ rfl (below_drewN HB3.out _)
  subst hPQ
  have HE3 : Hid (accE r s = if (FB 0 || FB 1 || FB 2) = true then 28 else 0) := by show _ = _; rw [HE2.out, if_pos rfl]
  have hnn : (((yr.toNat : Int) % 16) != ((ys.toNat : Int) % 16)) = false := by rw [bne_eq_false_iff_eq, ← HPR.out, ← HPS.out]
  go_quiet (fail)
  go_wp2_with fail
  go_loopw [9] (fun i wr => ∃ k : Nat, k ≤ 3 ∧ i = .int .i64 k ∧ Hid (∀ j, j < k → FB j = false) ∧ Hid (Below w.heap.size w wr) ∧ Hid (wr.heap[w1.heap.size]? = some (.cells #[.int .i64 (refK r yr 3 0), .int .i64 (refK r yr 3 1), .int .i64 (refK r yr 3 2)] 74 (0, 0))) ∧ Hid (wr.heap[w2.heap.size]? = some (.cells #[.int .i64 (refK s ys 3 0), .int .i64 (refK s ys 3 1), .int .i64 (refK s ys 3 2)] 74 (0, 0)))) (fun i _ => 3 - (intOf i).toNat)
  case atStart => exact ⟨0, by omega, rfl, fun j hj => absurd hj (by omega), below_drewN HB3.out _, HR3.out, HX3.out⟩
  case round =>
    obtain ⟨k, hk, rfl, HFK, HB, HX, HY⟩ := hrel
    by_cases hk3 : k < 3
    case neg =>
      obtain rfl : k = 3 := by omega
      have HE4 : Hid (accE r s = 0) := by
        show _ = _
        rw [HE3.out, HFK.out 0 (by omega), HFK.out 1 (by omega), HFK.out 2 (by omega)]; rfl
      obtain ⟨g1, g2⟩ := HG.out _ HB.out
      have hw8 : IntKind.wrap .i64 (ys.toNat : Int) = (ys.toNat : Int) := by simp [IntKind.wrap, IntKind.signed, IntKind.bits]; omega
      go_wp2_with fail
      go_ret2
      exact ⟨by rw [HAP.out, HE4.out, if_pos rfl, HPS.out]; rfl, HB.out⟩
    have hk3' : (k : Int) < 3 := by omega
    have hx := (cell_of_row _ _ k _ _ _ HX.out).trans (row_get r yr hk3)
    have hy := (cell_of_row _ _ k _ _ _ HY.out).trans (row_get s ys hk3)
    have hfb := HF2.out k hk3
    generalize refK r yr 3 k = xk at *
    generalize refK s ys 3 k = yk at *
    have HFB := Lib.hid hfb
    clear hfb
    by_cases h0 : 0 ≤ yk
    case neg =>
      have HN : Hid (FB k = false) := by show _ = _; rw [HFB.out, decide_eq_false h0]; rfl
      have h0' : decide (0 ≤ yk) = false := decide_eq_false h0
      go_wp2_with fail
      go_quiet (fail)
      go_wp2_with fail
      go_roundw
      case rel => exact ⟨k + 1, by omega, by go_num, fun j hj => by
        rcases Nat.lt_or_ge j k with h | h
        · exact HFK.out j h
        · obtain rfl : j = k := by omega
          exact HN.out, below_drewN HB.out _, HX.out, HY.out⟩
      case measure => simp [intOf]; omega
    cases h1 : (yk != xk) with
    | false =>
      have HN : Hid (FB k = false) := by show _ = _; rw [HFB.out, h1, Bool.and_false]
      go_wp2_with fail
      go_quiet (fail)
      go_wp2_with fail
      go_roundw
      case rel => exact ⟨k + 1, by omega, by go_num, fun j hj => by
        rcases Nat.lt_or_ge j k with h | h
        · exact HFK.out j h
        · obtain rfl : j = k := by omega
          exact HN.out, below_drewN HB.out _, HX.out, HY.out⟩
      case measure => simp [intOf]; omega
    | true =>
      have HN : Hid (FB k = true) := by show _ = _; rw [HFB.out, h1, decide_eq_true h0]; rfl
      have HE4 : Hid (accE r s = 28) := by
        show _ = _
        rw [HE3.out]
        have h3 : k = 0 ∨ k = 1 ∨ k = 2 := by omega
        have hn := HN.out
        rcases h3 with rfl | rfl | rfl <;> rw [hn] <;> simp
      have HBD := Lib.hid (fun (w' : World) (e : Ending) => acc_bad (r := r) (s := s) (w := w) (w' := w') (e := e) 28 HE4.out (by decide))
      go_wp2_with fail
      go_quiet (fail)
      go_wp2_with fail
      go_ret2
      exact HBD.out _ _ rfl (below_drewN HB.out _)
end Go.Proofs.YtnbggokmiokhlaaDoor
