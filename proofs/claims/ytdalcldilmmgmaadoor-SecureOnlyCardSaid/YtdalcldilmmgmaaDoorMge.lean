/-
  The walks of the reference's Valid and First, and of pair.
  The walks of the reference's First and of pair.
  The walk of pair.
-/
import Derived.Test.YtdalcldilmmgmaaDoorCva
namespace Go.Proofs.YtdalcldilmmgmaaDoor
set_option linter.unusedVariables false
set_option linter.unusedSimpArgs false
open Go.RowKit


/-- Whether a level is one of the last ones of the table. -/
def lvlR (k : Nat) (n : Int) : Bool := (([0, 1, 3, 17, 19, 51] : List Int).drop k).any (n == ·)
theorem lvlR_zero (n : Int) : lvlB n = lvlR 0 n := by simp [lvlR, lvlB, Bool.or_assoc]
/-- The session and the table that Valid reads. -/
structure Vt (w W : World) (X : Obj) : Prop where
  r1 : W.heap[w.heap.size]? = some X
  r2 : W.heap[w.heap.size + 1]? = some (.cells #[.int .i64 0, .int .i64 1, .int .i64 3, .int .i64 17, .int .i64 19, .int .i64 51] 3 (0, 0))
  b : Below w.heap.size w W
theorem Vt.drn {w W : World} {X : Obj} (h : Vt w W X) (n : Nat) : Vt w (W.drewN n) X := ⟨h.r1, h.r2, below_drewN h.b n⟩
theorem Vt.dr {w W : World} {X : Obj} (h : Vt w W X) : Vt w W.drew X := ⟨h.r1, h.r2, h.b.drew⟩
set_option maxRecDepth 100000 in
set_option maxHeartbeats 3200000 in
theorem rvalid_any (s : Ss) (A0 A1 A2 A3 : Option Addr) (c0 c1 c2 c3 : Nat) (w : World) :
    Calls Tryd.prog 51 #[s.val (.slice A0 s.enc.length c0) (.slice A1 s.mac.length c1) (.slice A2 s.rmac.length c2) (.slice A3 s.dat.length c3)] w fun e w' => e = .returned (.bool s.ok) ∧ Below w.heap.size w w' := by
  obtain ⟨R, hR⟩ : ∃ R, R = s.ok := ⟨_, rfl⟩
  have HR : Hid (R = (keyB s.enc.length && keyB s.mac.length && keyB s.rmac.length && keyB s.dat.length && lvlB s.lvl)) := hR
  rw [← hR]
  unfold Ss.val
  rw [key_ne, key_ne, key_ne, key_ne] at HR
  generalize s.enc.length = n0 at *
  generalize s.mac.length = n1 at *
  generalize s.rmac.length = n2 at *
  generalize s.dat.length = n3 at *
  generalize s.lvl = lv at *
  have hn1 := heap_alloc_new w (Obj.cells #[.slice A0 n0 c0, .slice A1 n1 c1, .slice A2 n2 c2, .slice A3 n3 c3, .int .i64 lv] 24)
  obtain ⟨q0, q1, q2, q3, q4⟩ := row5 hn1
  clear hR
  cases h0 : ((n0 : Int) != 16) <;> cases h1 : ((n1 : Int) != 16) <;> cases h2 : ((n2 : Int) != 16) <;> cases h3 : ((n3 : Int) != 16)
  all_goals rw [h0, h1, h2, h3] at HR
  case false.false.false.false =>
    go_enter Tryd.func51, Tryd.ntmps51
    go_wp2_with fail
    have HV0 : Hid (Vt w ((w.alloc (Obj.cells #[.slice A0 n0 c0, .slice A1 n1 c1, .slice A2 n2 c2, .slice A3 n3 c3, .int .i64 lv] 24)).alloc (Obj.cells #[.int .i64 0, .int .i64 1, .int .i64 3, .int .i64 17, .int .i64 19, .int .i64 51] 3)) (Obj.cells #[.slice A0 n0 c0, .slice A1 n1 c1, .slice A2 n2 c2, .slice A3 n3 c3, .int .i64 lv] 24)) :=
      ⟨heap_alloc2_old .., heap2_new .., alloc2_below ..⟩
    have HR : Hid (R = lvlB lv) := by show _ = _; rw [HR.out]; rfl
    go_loopw [4] (fun i wr => ∃ k : Nat, k ≤ 6 ∧ i = .int .i64 k ∧ Hid (lvlB lv = lvlR k lv) ∧ Vt w wr (Obj.cells #[.slice A0 n0 c0, .slice A1 n1 c1, .slice A2 n2 c2, .slice A3 n3 c3, .int .i64 lv] 24)) (fun i _ => 6 - (intOf i).toNat)
    case atStart => exact ⟨0, by omega, rfl, lvlR_zero lv, HV0.out⟩
    case round =>
      obtain ⟨k, hk, rfl, HL, hv⟩ := hrel
      have HV := Lib.hid hv
      clear q0 q1 q2 q3 q4 hn1
      obtain ⟨q0, q1, q2, q3, q4⟩ := row5 hv.r1
      clear hv
      have hkk : k = 0 ∨ k = 1 ∨ k = 2 ∨ k = 3 ∨ k = 4 ∨ k = 5 ∨ k = 6 := by omega
      rcases hkk with rfl | rfl | rfl | rfl | rfl | rfl | rfl
      · have t := cell_of_row _ _ 0 _ _ _ HV.out.r2
        have e : lvlR 0 lv = (lv == 0 || lvlR 1 lv) := by simp [lvlR]
        cases hq : (lv == 0) with
        | true =>
          have HRt : Hid (R = true) := by show _ = _; rw [HR.out, HL.out, e, hq]; rfl
          clear e
          go_wp2_with fail
          go_quiet (fail)
          go_wp2_with fail
          go_ret
          exact ⟨ret_bool HRt.out.symm, (HV.out.drn _).b⟩
        | false =>
          have HL2 : Hid (lvlB lv = lvlR 1 lv) := by show _ = _; rw [HL.out, e, hq]; rfl
          clear e
          go_wp2_with fail
          go_quiet (fail)
          go_wp2_with fail
          go_roundw
          case rel => exact ⟨1, by omega, by go_num, HL2.out, HV.out.drn _⟩
          case measure => simp [intOf]
      · have t := cell_of_row _ _ 1 _ _ _ HV.out.r2
        have e : lvlR 1 lv = (lv == 1 || lvlR 2 lv) := by simp [lvlR]
        cases hq : (lv == 1) with
        | true =>
          have HRt : Hid (R = true) := by show _ = _; rw [HR.out, HL.out, e, hq]; rfl
          clear e
          go_wp2_with fail
          go_quiet (fail)
          go_wp2_with fail
          go_ret
          exact ⟨ret_bool HRt.out.symm, (HV.out.drn _).b⟩
        | false =>
          have HL2 : Hid (lvlB lv = lvlR 2 lv) := by show _ = _; rw [HL.out, e, hq]; rfl
          clear e
          go_wp2_with fail
          go_quiet (fail)
          go_wp2_with fail
          go_roundw
          case rel => exact ⟨2, by omega, by go_num, HL2.out, HV.out.drn _⟩
          case measure => simp [intOf]
      · have t := cell_of_row _ _ 2 _ _ _ HV.out.r2
        have e : lvlR 2 lv = (lv == 3 || lvlR 3 lv) := by simp [lvlR]
        cases hq : (lv == 3) with
        | true =>
          have HRt : Hid (R = true) := by show _ = _; rw [HR.out, HL.out, e, hq]; rfl
          clear e
          go_wp2_with fail
          go_quiet (fail)
          go_wp2_with fail
          go_ret
          exact ⟨ret_bool HRt.out.symm, (HV.out.drn _).b⟩
        | false =>
          have HL2 : Hid (lvlB lv = lvlR 3 lv) := by show _ = _; rw [HL.out, e, hq]; rfl
          clear e
          go_wp2_with fail
          go_quiet (fail)
          go_wp2_with fail
          go_roundw
          case rel => exact ⟨3, by omega, by go_num, HL2.out, HV.out.drn _⟩
          case measure => simp [intOf]
      · have t := cell_of_row _ _ 3 _ _ _ HV.out.r2
        have e : lvlR 3 lv = (lv == 17 || lvlR 4 lv) := by simp [lvlR]
        cases hq : (lv == 17) with
        | true =>
          have HRt : Hid (R = true) := by show _ = _; rw [HR.out, HL.out, e, hq]; rfl
          clear e
          go_wp2_with fail
          go_quiet (fail)
          go_wp2_with fail
          go_ret
          exact ⟨ret_bool HRt.out.symm, (HV.out.drn _).b⟩
        | false =>
          have HL2 : Hid (lvlB lv = lvlR 4 lv) := by show _ = _; rw [HL.out, e, hq]; rfl
          clear e
          go_wp2_with fail
          go_quiet (fail)
          go_wp2_with fail
          go_roundw
          case rel => exact ⟨4, by omega, by go_num, HL2.out, HV.out.drn _⟩
          case measure => simp [intOf]
      · have t := cell_of_row _ _ 4 _ _ _ HV.out.r2
        have e : lvlR 4 lv = (lv == 19 || lvlR 5 lv) := by simp [lvlR]
        cases hq : (lv == 19) with
        | true =>
          have HRt : Hid (R = true) := by show _ = _; rw [HR.out, HL.out, e, hq]; rfl
          clear e
          go_wp2_with fail
          go_quiet (fail)
          go_wp2_with fail
          go_ret
          exact ⟨ret_bool HRt.out.symm, (HV.out.drn _).b⟩
        | false =>
          have HL2 : Hid (lvlB lv = lvlR 5 lv) := by show _ = _; rw [HL.out, e, hq]; rfl
          clear e
          go_wp2_with fail
          go_quiet (fail)
          go_wp2_with fail
          go_roundw
          case rel => exact ⟨5, by omega, by go_num, HL2.out, HV.out.drn _⟩
          case measure => simp [intOf]
      · have t := cell_of_row _ _ 5 _ _ _ HV.out.r2
        have e : lvlR 5 lv = (lv == 51 || lvlR 6 lv) := by simp [lvlR]
        cases hq : (lv == 51) with
        | true =>
          have HRt : Hid (R = true) := by show _ = _; rw [HR.out, HL.out, e, hq]; rfl
          clear e
          go_wp2_with fail
          go_quiet (fail)
          go_wp2_with fail
          go_ret
          exact ⟨ret_bool HRt.out.symm, (HV.out.drn _).b⟩
        | false =>
          have HL2 : Hid (lvlB lv = lvlR 6 lv) := by show _ = _; rw [HL.out, e, hq]; rfl
          clear e
          go_wp2_with fail
          go_quiet (fail)
          go_wp2_with fail
          go_roundw
          case rel => exact ⟨6, by omega, by go_num, HL2.out, HV.out.drn _⟩
          case measure => simp [intOf]
      · have HRf : Hid (R = false) := by show _ = _; rw [HR.out, HL.out]; rfl
        go_wp2_with fail
        go_ret
        exact ⟨ret_bool HRf.out.symm, HV.out.b⟩
  all_goals (
    have HR2 : R = false := HR.out
    subst HR2
    go_enter Tryd.func51, Tryd.ntmps51
    go_wp2_with fail
    go_ret
    exact ⟨rfl, alloc_below _ _⟩)



theorem cells9 {W : World} {b : Nat} {x0 x1 x2 x3 x4 x5 x6 x7 x8 : Value} {t : TypeId} (h : W.heap[b]? = some (.cells #[x0, x1, x2, x3, x4, x5, x6, x7, x8] t (0, 0))) :
    (W.cell? ⟨b, 0, none⟩ = some x0 ∧ W.cell? ⟨b, 1, none⟩ = some x1 ∧ W.cell? ⟨b, 2, none⟩ = some x2 ∧ W.cell? ⟨b, 3, none⟩ = some x3 ∧ W.cell? ⟨b, 4, none⟩ = some x4 ∧ W.cell? ⟨b, 5, none⟩ = some x5 ∧ W.cell? ⟨b, 6, none⟩ = some x6 ∧ W.cell? ⟨b, 7, none⟩ = some x7 ∧ W.cell? ⟨b, 8, none⟩ = some x8) ∧
    (W.frozen? ⟨b, 0, none⟩ = false ∧ W.frozen? ⟨b, 1, none⟩ = false ∧ W.frozen? ⟨b, 2, none⟩ = false ∧ W.frozen? ⟨b, 3, none⟩ = false ∧ W.frozen? ⟨b, 4, none⟩ = false ∧ W.frozen? ⟨b, 5, none⟩ = false ∧ W.frozen? ⟨b, 6, none⟩ = false ∧ W.frozen? ⟨b, 7, none⟩ = false ∧ W.frozen? ⟨b, 8, none⟩ = false) :=
  ⟨⟨cell_of_row _ _ 0 _ _ _ h, cell_of_row _ _ 1 _ _ _ h, cell_of_row _ _ 2 _ _ _ h, cell_of_row _ _ 3 _ _ _ h, cell_of_row _ _ 4 _ _ _ h, cell_of_row _ _ 5 _ _ _ h, cell_of_row _ _ 6 _ _ _ h, cell_of_row _ _ 7 _ _ _ h, cell_of_row _ _ 8 _ _ _ h⟩,
   frozen_of_row _ _ 0 _ _ h, frozen_of_row _ _ 1 _ _ h, frozen_of_row _ _ 2 _ _ h, frozen_of_row _ _ 3 _ _ h, frozen_of_row _ _ 4 _ _ h, frozen_of_row _ _ 5 _ _ h, frozen_of_row _ _ 6 _ _ h, frozen_of_row _ _ 7 _ _ h, frozen_of_row _ _ 8 _ _ h⟩
theorem row9st {W : World} {b : Nat} {x0 x1 x2 x3 x4 x5 x6 x7 x8 : Value} {t : TypeId} (h : W.heap[b]? = some (.cells #[x0, x1, x2, x3, x4, x5, x6, x7, x8] t (0, 0))) (y0 y1 y2 y3 y4 y5 y6 y7 y8 : Value) :
    (((((((((W.setCell ⟨b, 0, none⟩ y0).setCell ⟨b, 1, none⟩ y1).setCell ⟨b, 2, none⟩ y2).setCell ⟨b, 3, none⟩ y3).setCell ⟨b, 4, none⟩ y4).setCell ⟨b, 5, none⟩ y5).setCell ⟨b, 6, none⟩ y6).setCell ⟨b, 7, none⟩ y7).setCell ⟨b, 8, none⟩ y8).heap[b]? = some (.cells #[y0, y1, y2, y3, y4, y5, y6, y7, y8] t (0, 0)) := by
  have h0 : (W.setCell ⟨b, 0, none⟩ y0).heap[b]? = some (.cells #[y0, x1, x2, x3, x4, x5, x6, x7, x8] t (0, 0)) := heap_setCell_same _ b 0 _ _ y0 h
  have h1 : ((W.setCell ⟨b, 0, none⟩ y0).setCell ⟨b, 1, none⟩ y1).heap[b]? = some (.cells #[y0, y1, x2, x3, x4, x5, x6, x7, x8] t (0, 0)) := heap_setCell_same _ b 1 _ _ y1 h0
  have h2 : (((W.setCell ⟨b, 0, none⟩ y0).setCell ⟨b, 1, none⟩ y1).setCell ⟨b, 2, none⟩ y2).heap[b]? = some (.cells #[y0, y1, y2, x3, x4, x5, x6, x7, x8] t (0, 0)) := heap_setCell_same _ b 2 _ _ y2 h1
  have h3 : ((((W.setCell ⟨b, 0, none⟩ y0).setCell ⟨b, 1, none⟩ y1).setCell ⟨b, 2, none⟩ y2).setCell ⟨b, 3, none⟩ y3).heap[b]? = some (.cells #[y0, y1, y2, y3, x4, x5, x6, x7, x8] t (0, 0)) := heap_setCell_same _ b 3 _ _ y3 h2
  have h4 : (((((W.setCell ⟨b, 0, none⟩ y0).setCell ⟨b, 1, none⟩ y1).setCell ⟨b, 2, none⟩ y2).setCell ⟨b, 3, none⟩ y3).setCell ⟨b, 4, none⟩ y4).heap[b]? = some (.cells #[y0, y1, y2, y3, y4, x5, x6, x7, x8] t (0, 0)) := heap_setCell_same _ b 4 _ _ y4 h3
  have h5 : ((((((W.setCell ⟨b, 0, none⟩ y0).setCell ⟨b, 1, none⟩ y1).setCell ⟨b, 2, none⟩ y2).setCell ⟨b, 3, none⟩ y3).setCell ⟨b, 4, none⟩ y4).setCell ⟨b, 5, none⟩ y5).heap[b]? = some (.cells #[y0, y1, y2, y3, y4, y5, x6, x7, x8] t (0, 0)) := heap_setCell_same _ b 5 _ _ y5 h4
  have h6 : (((((((W.setCell ⟨b, 0, none⟩ y0).setCell ⟨b, 1, none⟩ y1).setCell ⟨b, 2, none⟩ y2).setCell ⟨b, 3, none⟩ y3).setCell ⟨b, 4, none⟩ y4).setCell ⟨b, 5, none⟩ y5).setCell ⟨b, 6, none⟩ y6).heap[b]? = some (.cells #[y0, y1, y2, y3, y4, y5, y6, x7, x8] t (0, 0)) := heap_setCell_same _ b 6 _ _ y6 h5
  have h7 : ((((((((W.setCell ⟨b, 0, none⟩ y0).setCell ⟨b, 1, none⟩ y1).setCell ⟨b, 2, none⟩ y2).setCell ⟨b, 3, none⟩ y3).setCell ⟨b, 4, none⟩ y4).setCell ⟨b, 5, none⟩ y5).setCell ⟨b, 6, none⟩ y6).setCell ⟨b, 7, none⟩ y7).heap[b]? = some (.cells #[y0, y1, y2, y3, y4, y5, y6, y7, x8] t (0, 0)) := heap_setCell_same _ b 7 _ _ y7 h6
  have h8 : (((((((((W.setCell ⟨b, 0, none⟩ y0).setCell ⟨b, 1, none⟩ y1).setCell ⟨b, 2, none⟩ y2).setCell ⟨b, 3, none⟩ y3).setCell ⟨b, 4, none⟩ y4).setCell ⟨b, 5, none⟩ y5).setCell ⟨b, 6, none⟩ y6).setCell ⟨b, 7, none⟩ y7).setCell ⟨b, 8, none⟩ y8).heap[b]? = some (.cells #[y0, y1, y2, y3, y4, y5, y6, y7, y8] t (0, 0)) := heap_setCell_same _ b 8 _ _ y8 h7
  exact h8
theorem BP.st9 {B : Nat} {w W : World} (h : BP B w W) {b : Nat} (hb : B ≤ b) (y0 y1 y2 y3 y4 y5 y6 y7 y8 : Value) : BP B w (((((((((W.setCell ⟨b, 0, none⟩ y0).setCell ⟨b, 1, none⟩ y1).setCell ⟨b, 2, none⟩ y2).setCell ⟨b, 3, none⟩ y3).setCell ⟨b, 4, none⟩ y4).setCell ⟨b, 5, none⟩ y5).setCell ⟨b, 6, none⟩ y6).setCell ⟨b, 7, none⟩ y7).setCell ⟨b, 8, none⟩ y8) := by
  have h0 := h.st hb 0 y0
  have h1 := h0.st hb 1 y1
  have h2 := h1.st hb 2 y2
  have h3 := h2.st hb 3 y3
  have h4 := h3.st hb 4 y4
  have h5 := h4.st hb 5 y5
  have h6 := h5.st hb 6 y6
  have h7 := h6.st hb 7 y7
  have h8 := h7.st hb 8 y8
  exact h8
set_option maxRecDepth 100000 in
set_option maxHeartbeats 3200000 in
theorem rfirst_any (s : Ss) (A0 A1 A2 A3 Am : Option Addr) (c0 c1 c2 c3 cm : Nat) (m : List UInt8) (w : World) :
    Calls Tryd.prog 34 #[s.val (.slice A0 s.enc.length c0) (.slice A1 s.mac.length c1) (.slice A2 s.rmac.length c2) (.slice A3 s.dat.length c3), .slice Am m.length cm] w fun e w' => (∃ B0 n0 d0 B1 n1 d1 B2 n2 d2 B3 n3 d3 l4 B5 n5 d5 l6 b7 b8, e = .returned (.tuple #[.agg #[.slice B0 n0 d0, .slice B1 n1 d1, .slice B2 n2 d2, .slice B3 n3 d3, .int .i64 l4, .slice B5 n5 d5, .int .i64 l6, .bool b7, .bool b8], .bool (s.ok && decide (m.length = 8))])) ∧ Below w.heap.size w w' := by
  have HV := Lib.hid fun W => rvalid_any s A0 A1 A2 A3 c0 c1 c2 c3 W
  unfold Ss.val at *
  have HN1 := Lib.hid (heap_alloc2_old w (Obj.cells #[.slice A0 s.enc.length c0, .slice A1 s.mac.length c1, .slice A2 s.rmac.length c2, .slice A3 s.dat.length c3, .int .i64 s.lvl] 24) (Obj.cells #[.slice none 0 0, .slice none 0 0, .slice none 0 0, .slice none 0 0, .int .i64 0, .slice none 0 0, .int .i64 0, .bool false, .bool false] 70))
  have HN2 := Lib.hid (heap2_new w (Obj.cells #[.slice A0 s.enc.length c0, .slice A1 s.mac.length c1, .slice A2 s.rmac.length c2, .slice A3 s.dat.length c3, .int .i64 s.lvl] 24) (Obj.cells #[.slice none 0 0, .slice none 0 0, .slice none 0 0, .slice none 0 0, .int .i64 0, .slice none 0 0, .int .i64 0, .bool false, .bool false] 70))
  have HB := Lib.hid (alloc2_below w (Obj.cells #[.slice A0 s.enc.length c0, .slice A1 s.mac.length c1, .slice A2 s.rmac.length c2, .slice A3 s.dat.length c3, .int .i64 s.lvl] 24) (Obj.cells #[.slice none 0 0, .slice none 0 0, .slice none 0 0, .slice none 0 0, .int .i64 0, .slice none 0 0, .int .i64 0, .bool false, .bool false] 70))
  generalize s.ok = b at *
  have hi : ((m.length : Int) != 8) = !decide (m.length = 8) := by
    by_cases h : m.length = 8
    · rw [h]; rfl
    · rw [decide_eq_false h]; show _ = true; rw [bne_iff_ne]; omega
  generalize decide (m.length = 8) = d at *
  go_enter Tryd.func34, Tryd.ntmps34
  go_wp2_with fail
  refine (HV.out _).mono ?_
  rintro e w3 ⟨rfl, hb3⟩
  have hr1 := (hb3.block _ (blk_lt HN1.out)).trans HN1.out
  have hr2 := (hb3.block _ (blk_lt HN2.out)).trans HN2.out
  have HB3 := Lib.hid (HB.out.trans (hb3.mono HB.out.size))
  have HR2 := Lib.hid hr2
  obtain ⟨q0, q1, q2, q3, q4⟩ := row5 hr1
  obtain ⟨⟨t0, t1, t2, t3, t4, t5, t6, t7, t8⟩, ⟨f0, f1, f2, f3, f4, f5, f6, f7, f8⟩⟩ := cells9 hr2
  clear hr1 hr2 hb3
  cases b with
  | false =>
    go_wp2_with fail
    exact bodyPost_ret (results_cell2 rfl _ _ (w.heap.size + 1) 70 _ (0, 0) _ rfl (row9st HR2.out ..) Tryd.underlying70 rfl (by kernel_rfl)) rfl ⟨⟨_, _, _, _, _, _, _, _, _, _, _, _, _, _, _, _, _, _, _, rfl⟩, (BP.st9 (BP.mk HB3.out HB3.out.size) (Nat.le_succ _) ..).b⟩
  | true =>
    cases d with
    | false =>
      go_wp2_with fail
      exact bodyPost_ret (results_cell2 rfl _ _ (w.heap.size + 1) 70 _ (0, 0) _ rfl (row9st HR2.out ..) Tryd.underlying70 rfl (by kernel_rfl)) rfl ⟨⟨_, _, _, _, _, _, _, _, _, _, _, _, _, _, _, _, _, _, _, rfl⟩, (BP.st9 (BP.mk HB3.out HB3.out.size) (Nat.le_succ _) ..).b⟩
    | true =>
      go_wp2_with fail
      exact bodyPost_ret (results_cell2 rfl _ _ (w.heap.size + 1) 70 _ (0, 0) _ rfl (row9st HR2.out ..) Tryd.underlying70 rfl (by kernel_rfl)) rfl ⟨⟨_, _, _, _, _, _, _, _, _, _, _, _, _, _, _, _, _, _, _, rfl⟩, (BP.st9 (BP.mk HB3.out HB3.out.size) (Nat.le_succ _) ..).b⟩



/-- Whether there is a pair. -/
def paB (s : Ss) (m : List UInt8) : Bool := s.ok && decide (m.length = 8) && s.lvl != 0
/-- What pair gives. -/
def PairP (w : World) (s : Ss) (m : List UInt8) (e : Ending) (w' : World) : Prop := Below w.heap.size w w' ∧
  ((paB s m = false ∧ e = .returned (.tuple #[.pointer none, .pointer none, .bool false])) ∨
   (paB s m = true ∧ ∃ g1 g2, w.heap.size ≤ g1 ∧ w.heap.size ≤ g2 ∧ g1 ≠ g2 ∧ e = .returned (.tuple #[.pointer (some ⟨g1, 0, none⟩), .pointer (some ⟨g2, 0, none⟩), .bool true]) ∧ CH w' g1 (Ch.new s m) ∧ CH w' g2 (Ch.new s m)))
/-- New of a session that is well. -/
theorem new_ok (s : Ss) (m : List UInt8) (v0 v1 v2 v3 vm : Value) (W W2 : World) (hb : Below W.heap.size W W2) (h0 : SL W W.heap.size v0 s.enc) (h1 : SL W W.heap.size v1 s.mac) (h2 : SL W W.heap.size v2 s.rmac) (h3 : SL W W.heap.size v3 s.dat) (hm : SL W W.heap.size vm m)
    (hok : (s.ok && decide (m.length = 8)) = true) :
    Calls Tryd.prog 8 #[s.val v0 v1 v2 v3, vm] W2 fun e w' => ∃ g, W.heap.size ≤ g ∧ e = .returned (.pointer (some ⟨g, 0, none⟩)) ∧ CH w' g (Ch.new s m) ∧ Below W.heap.size W w' := by
  refine (pnew_any s m v0 v1 v2 v3 vm W2 (h0.on hb) (h1.on hb) (h2.on hb) (h3.on hb) (hm.on hb)).mono ?_
  rintro e w' ⟨hb2, h | ⟨_, g, hg, he, hc⟩⟩
  · rw [hok] at h; cases h.1
  · exact ⟨g, Nat.le_trans hb.size hg, he, hc, hb.trans (hb2.mono hb.size)⟩
set_option maxRecDepth 100000 in
set_option maxHeartbeats 3200000 in
theorem pair_any (s : Ss) (m : List UInt8) (v0 v1 v2 v3 vm : Value) (w : World) (h0 : SL w w.heap.size v0 s.enc) (h1 : SL w w.heap.size v1 s.mac) (h2 : SL w w.heap.size v2 s.rmac) (h3 : SL w w.heap.size v3 s.dat) (hm : SL w w.heap.size vm m) :
    Calls Tryd.prog 18 #[s.val v0 v1 v2 v3, vm] w (PairP w s m) := by
  obtain ⟨A0, c0, rfl, _, _, _⟩ := id h0
  obtain ⟨A1, c1, rfl, _, _, _⟩ := id h1
  obtain ⟨A2, c2, rfl, _, _, _⟩ := id h2
  obtain ⟨A3, c3, rfl, _, _, _⟩ := id h3
  obtain ⟨Am, cm, rfl, _, _, _⟩ := id hm
  have HF := Lib.hid fun W => rfirst_any s A0 A1 A2 A3 Am c0 c1 c2 c3 cm m W
  have HNW := Lib.hid fun W W2 (hW : Below w.heap.size w W) (hb : Below W.heap.size W W2) hok => new_ok s m (.slice A0 s.enc.length c0) (.slice A1 s.mac.length c1) (.slice A2 s.rmac.length c2) (.slice A3 s.dat.length c3) (.slice Am m.length cm) W W2 hb (h0.on hW) (h1.on hW) (h2.on hW) (h3.on hW) (hm.on hW) hok
  have HB := Lib.hid (alloc_below w (Obj.cells #[.slice A0 s.enc.length c0, .slice A1 s.mac.length c1, .slice A2 s.rmac.length c2, .slice A3 s.dat.length c3, .int .i64 s.lvl] 24))
  have HN := Lib.hid (heap_alloc_new w (Obj.cells #[.slice A0 s.enc.length c0, .slice A1 s.mac.length c1, .slice A2 s.rmac.length c2, .slice A3 s.dat.length c3, .int .i64 s.lvl] 24))
  have HP0 : Hid (∀ w', Below w.heap.size w w' → paB s m = false → PairP w s m (.returned (.tuple #[.pointer none, .pointer none, .bool false])) w') := fun w' hb h => ⟨hb, .inl ⟨h, rfl⟩⟩
  have HP1 : Hid (∀ g1 g2 w', Below w.heap.size w w' → paB s m = true → w.heap.size ≤ g1 → w.heap.size ≤ g2 → g1 ≠ g2 → CH w' g1 (Ch.new s m) → CH w' g2 (Ch.new s m) → PairP w s m (.returned (.tuple #[.pointer (some ⟨g1, 0, none⟩), .pointer (some ⟨g2, 0, none⟩), .bool true])) w') := fun g1 g2 w' hb h k1 k2 k3 k4 k5 => ⟨hb, .inr ⟨h, g1, g2, k1, k2, k3, rfl, k4, k5⟩⟩
  have HPA : Hid (paB s m = ((s.ok && decide (m.length = 8)) && s.lvl != 0)) := rfl
  unfold Ss.val at *
  generalize PairP w s m = P at *
  generalize paB s m = pb at *
  generalize (s.ok && decide (m.length = 8)) = b at *
  generalize Ch.new s m = CN at *
  clear h0 h1 h2 h3 hm
  go_enter Tryd.func18, Tryd.ntmps18
  go_wp2_with fail
  refine (HF.out _).mono ?_
  rintro e w3 ⟨⟨B0, n0, d0, B1, n1, d1, B2, n2, d2, B3, n3, d3, l4, B5, n5, d5, l6, b7, b8, rfl⟩, hb3⟩
  have hr := rowA hb3
  have HB3 := Lib.hid (HB.out.trans (hb3.mono HB.out.size))
  have HR := Lib.hid hr
  obtain ⟨q0, q1, q2, q3, q4⟩ := row5 hr
  have hz3 : w.heap.size < w3.heap.size := blk_lt hr
  have hx1 : w.heap.size ≠ w3.heap.size := by omega
  have hx2 : w3.heap.size ≠ w.heap.size := by omega
  have HB4 := Lib.hid ((BP.mk HB3.out HB3.out.size).al (Obj.cells #[.slice B0 n0 d0, .slice B1 n1 d1, .slice B2 n2 d2, .slice B3 n3 d3, .int .i64 l4, .slice B5 n5 d5, .int .i64 l6, .bool b7, .bool b8] 70))
  clear hr hb3
  cases b with
  | false =>
    go_wp2_with fail
    go_ret3
    exact HP0.out _ HB4.out.b (by rw [HPA.out]; rfl)
  | true =>
    cases h0 : (s.lvl == 0) with
    | true =>
      have hpb : Hid (pb = false) := by show _ = _; rw [HPA.out, bne, h0]; rfl
      go_wp2_with fail
      go_ret3
      exact HP0.out _ HB4.out.b hpb.out
    | false =>
      have hpb : Hid (pb = true) := by show _ = _; rw [HPA.out, bne, h0]; rfl
      clear HPA
      go_wp2_with fail
      have hr4 := (alloc_below w3 (Obj.cells #[.slice B0 n0 d0, .slice B1 n1 d1, .slice B2 n2 d2, .slice B3 n3 d3, .int .i64 l4, .slice B5 n5 d5, .int .i64 l6, .bool b7, .bool b8] 70)).block _ hz3 |>.trans HR.out
      generalize w3.alloc (Obj.cells #[.slice B0 n0 d0, .slice B1 n1 d1, .slice B2 n2 d2, .slice B3 n3 d3, .int .i64 l4, .slice B5 n5 d5, .int .i64 l6, .bool b7, .bool b8] 70) = w4 at *
      clear q0 q1 q2 q3 q4 hx1 hx2 hz3
      obtain ⟨q0, q1, q2, q3, q4⟩ := row5 hr4
      have HR4 := Lib.hid hr4
      have hN1 := HNW.out w4 w4 HB4.out.b (Below.refl _ _) (by first | exact rfl | exact True.intro)
      have hN2 := HNW.out w4 w4.drew HB4.out.b (Below.refl _ _).drew (by first | exact rfl | exact True.intro)
      have HN1 := Lib.hid hN1
      have HN2 := Lib.hid hN2
      have hS6 : True := trivial
      clear hr4 hN1 hN2
      go_region_held3 (fun W => W.cell? ⟨w.heap.size, 0, none⟩ = some (.slice A0 s.enc.length c0) ∧ W.cell? ⟨w.heap.size, 1, none⟩ = some (.slice A1 s.mac.length c1) ∧ W.cell? ⟨w.heap.size, 2, none⟩ = some (.slice A2 s.rmac.length c2) ∧ W.cell? ⟨w.heap.size, 3, none⟩ = some (.slice A3 s.dat.length c3) ∧ W.cell? ⟨w.heap.size, 4, none⟩ = some (.int .i64 s.lvl))
        (first | (go_keep; done) | exact hS6)
        (first
          | (go_at_call 8; (with_reducible refine HN1.out.mono ?_); rintro e w5 ⟨g1, hg1, rfl, hc5, hb5⟩; have HR5 := Lib.hid ((hb5.block _ (blk_lt HR4.out)).trans HR4.out); have HP5 := Lib.hid (HB4.out.on hb5); have hS6 := row5 HR5.out; have HC5 := Lib.hid hc5; have HG1 := Lib.hid hg1; have HN3 := Lib.hid (HNW.out w5 w5 HP5.out.b (Below.refl _ _) (by first | exact rfl | exact True.intro)); have HN4 := Lib.hid (HNW.out w5 w5.drew HP5.out.b (Below.refl _ _).drew (by first | exact rfl | exact True.intro)); clear hc5 hb5 hg1)
          | (go_at_call 8; (with_reducible refine HN2.out.mono ?_); rintro e w5 ⟨g1, hg1, rfl, hc5, hb5⟩; have HR5 := Lib.hid ((hb5.block _ (blk_lt HR4.out)).trans HR4.out); have HP5 := Lib.hid (HB4.out.on hb5); have hS6 := row5 HR5.out; have HC5 := Lib.hid hc5; have HG1 := Lib.hid hg1; have HN3 := Lib.hid (HNW.out w5 w5 HP5.out.b (Below.refl _ _) (by first | exact rfl | exact True.intro)); have HN4 := Lib.hid (HNW.out w5 w5.drew HP5.out.b (Below.refl _ _).drew (by first | exact rfl | exact True.intro)); clear hc5 hb5 hg1)
          | (go_at_call 8; (with_reducible refine HN3.out.mono ?_); rintro e w6 ⟨g2, hg2, rfl, hc6, hb6⟩; have hS6 := row5 ((hb6.block _ (blk_lt HR5.out)).trans HR5.out); have HC6 := Lib.hid hc6; have HD6 := Lib.hid (HC5.out.below hb6); have HP6 := Lib.hid (HP5.out.on hb6); have HG2 := Lib.hid hg2; clear hc6 hb6 hg2)
          | (go_at_call 8; (with_reducible refine HN4.out.mono ?_); rintro e w6 ⟨g2, hg2, rfl, hc6, hb6⟩; have hS6 := row5 ((hb6.block _ (blk_lt HR5.out)).trans HR5.out); have HC6 := Lib.hid hc6; have HD6 := Lib.hid (HC5.out.below hb6); have HP6 := Lib.hid (HP5.out.on hb6); have HG2 := Lib.hid hg2; clear hc6 hb6 hg2)
          | fail "none")
      go_wp2_with fail
      go_ret3
      exact HP1.out g1 g2 _ HP6.out.b hpb.out (Nat.le_trans HB4.out.z HG1.out) (Nat.le_trans HP5.out.z HG2.out) (by have := HC5.out.lt; have := HG2.out; omega) HD6.out HC6.out

end Go.Proofs.YtdalcldilmmgmaaDoor
