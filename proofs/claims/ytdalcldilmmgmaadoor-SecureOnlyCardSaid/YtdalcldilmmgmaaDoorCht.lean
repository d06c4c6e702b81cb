/-
  The walks of valid and New.
-/
import Derived.Test.YtdalcldilmmgmaaDoorChr
namespace Go.Proofs.YtdalcldilmmgmaaDoor
set_option linter.unusedVariables false
set_option linter.unusedSimpArgs false
open Go.RowKit

/-- A session. -/
structure Ss where
  enc : List UInt8
  mac : List UInt8
  rmac : List UInt8
  dat : List UInt8
  lvl : Int
def keyB (n : Nat) : Bool := decide (n = 16)
def Ss.ok (s : Ss) : Bool := keyB s.enc.length && keyB s.mac.length && keyB s.rmac.length && keyB s.dat.length && lvlB s.lvl
def Ss.val (s : Ss) (v0 v1 v2 v3 : Value) : Value := .agg #[v0, v1, v2, v3, .int .i64 s.lvl]
theorem key_ne {n : Nat} : keyB n = !((n : Int) != 16) := by
  unfold keyB
  by_cases h : n = 16
  · subst h; rfl
  · have : ((n : Int) != 16) = true := by rw [bne_iff_ne]; omega
    rw [this, decide_eq_false h]; rfl
theorem nb1 {b : Bool} (h : false = !b) : b = true := by cases b <;> simp_all
theorem nb2 {b : Bool} (h : true = !b) : b = false := by cases b <;> simp_all
set_option maxRecDepth 100000 in
set_option maxHeartbeats 3200000 in
theorem pvalid_any (s : Ss) (A0 A1 A2 A3 : Option Addr) (c0 c1 c2 c3 : Nat) (w : World) :
    Calls Tryd.prog 22 #[s.val (.slice A0 s.enc.length c0) (.slice A1 s.mac.length c1) (.slice A2 s.rmac.length c2) (.slice A3 s.dat.length c3)] w fun e w' => e = .returned (.bool s.ok) ∧ Below w.heap.size w w' := by
  have HL := Lib.hid fun W => plvl_any s.lvl W
  obtain ⟨R, hR⟩ : ∃ R, R = s.ok := ⟨_, rfl⟩
  have HR : Hid (R = (keyB s.enc.length && keyB s.mac.length && keyB s.rmac.length && keyB s.dat.length && lvlB s.lvl)) := hR
  rw [← hR]
  unfold Ss.val
  generalize s.enc.length = n0 at *
  generalize s.mac.length = n1 at *
  generalize s.rmac.length = n2 at *
  generalize s.dat.length = n3 at *
  generalize s.lvl = lv at *
  have HB2 := Lib.hid (alloc2_below w (Obj.cells #[.slice A0 n0 c0, .slice A1 n1 c1, .slice A2 n2 c2, .slice A3 n3 c3, .int .i64 lv] 24) (Obj.cells #[.slice A0 n0 c0, .slice A1 n1 c1, .slice A2 n2 c2, .slice A3 n3 c3] 22))
  have HN1 := Lib.hid (heap_alloc2_old w (Obj.cells #[.slice A0 n0 c0, .slice A1 n1 c1, .slice A2 n2 c2, .slice A3 n3 c3, .int .i64 lv] 24) (Obj.cells #[.slice A0 n0 c0, .slice A1 n1 c1, .slice A2 n2 c2, .slice A3 n3 c3] 22))
  have HN2 := Lib.hid (heap2_new w (Obj.cells #[.slice A0 n0 c0, .slice A1 n1 c1, .slice A2 n2 c2, .slice A3 n3 c3, .int .i64 lv] 24) (Obj.cells #[.slice A0 n0 c0, .slice A1 n1 c1, .slice A2 n2 c2, .slice A3 n3 c3] 22))
  clear hR
  go_enter Tryd.func22, Tryd.ntmps22
  go_wp2_with fail
  go_loopw [15] (fun i wr => ∃ k : Nat, k ≤ 4 ∧ i = .int .i64 k ∧ Hid (1 ≤ k → keyB n0 = true) ∧ Hid (2 ≤ k → keyB n1 = true) ∧ Hid (3 ≤ k → keyB n2 = true) ∧ Hid (4 ≤ k → keyB n3 = true) ∧ wr = (w.alloc (Obj.cells #[.slice A0 n0 c0, .slice A1 n1 c1, .slice A2 n2 c2, .slice A3 n3 c3, .int .i64 lv] 24)).alloc (Obj.cells #[.slice A0 n0 c0, .slice A1 n1 c1, .slice A2 n2 c2, .slice A3 n3 c3] 22)) (fun i _ => 4 - (intOf i).toNat)
  case atStart => exact ⟨0, by omega, rfl, fun h => absurd h (by omega), fun h => absurd h (by omega), fun h => absurd h (by omega), fun h => absurd h (by omega), rfl⟩
  case round =>
    obtain ⟨k, hk, rfl, h1, h2, h3, h4, hwr⟩ := hrel
    subst hwr
    have m1 := HN1.out
    have m2 := HN2.out
    have hbb := HB2.out
    generalize (w.alloc (Obj.cells #[.slice A0 n0 c0, .slice A1 n1 c1, .slice A2 n2 c2, .slice A3 n3 c3, .int .i64 lv] 24)).alloc (Obj.cells #[.slice A0 n0 c0, .slice A1 n1 c1, .slice A2 n2 c2, .slice A3 n3 c3] 22) = wr at *
    have HBB := Lib.hid hbb
    clear hbb
    have hkk : k = 0 ∨ k = 1 ∨ k = 2 ∨ k = 3 ∨ k = 4 := by omega
    rcases hkk with rfl | rfl | rfl | rfl | rfl
    · have q := cell_of_row _ _ 0 _ _ _ m2
      have e := key_ne (n := n0)
      cases hq : keyB n0 with
      | false =>
        rw [hq] at e
        have e2 : ((n0 : Int) != 16) = true := nb1 e
        have HRf : Hid (R = false) := by show _ = _; rw [HR.out, hq]; simp
        clear e hq
        go_wp2_with fail
        go_ret
        exact ⟨ret_bool HRf.out.symm, HBB.out⟩
      | true =>
        rw [hq] at e
        have e2 : ((n0 : Int) != 16) = false := nb2 e
        have HQ := Lib.hid hq
        clear e hq
        go_wp2_with fail
        go_roundw
        case rel => exact ⟨1, by omega, by go_num, (by first | trivial | exact fun _ => trivial | exact fun _ => HQ.out | exact fun _ => rfl), (by first | trivial | exact fun h => absurd h (by omega)), (by first | trivial | exact fun h => absurd h (by omega)), (by first | trivial | exact fun h => absurd h (by omega)), by first | rfl | trivial⟩
        case measure => simp [intOf]
    · have q := cell_of_row _ _ 1 _ _ _ m2
      have e := key_ne (n := n1)
      cases hq : keyB n1 with
      | false =>
        rw [hq] at e
        have e2 : ((n1 : Int) != 16) = true := nb1 e
        have HRf : Hid (R = false) := by show _ = _; rw [HR.out, hq]; simp
        clear e hq
        go_wp2_with fail
        go_ret
        exact ⟨ret_bool HRf.out.symm, HBB.out⟩
      | true =>
        rw [hq] at e
        have e2 : ((n1 : Int) != 16) = false := nb2 e
        have HQ := Lib.hid hq
        clear e hq
        go_wp2_with fail
        go_roundw
        case rel => exact ⟨2, by omega, by go_num, (by first | trivial | exact fun _ => trivial | exact fun _ => h1.out (by omega)), (by first | trivial | exact fun _ => trivial | exact fun _ => HQ.out | exact fun _ => rfl), (by first | trivial | exact fun h => absurd h (by omega)), (by first | trivial | exact fun h => absurd h (by omega)), by first | rfl | trivial⟩
        case measure => simp [intOf]
    · have q := cell_of_row _ _ 2 _ _ _ m2
      have e := key_ne (n := n2)
      cases hq : keyB n2 with
      | false =>
        rw [hq] at e
        have e2 : ((n2 : Int) != 16) = true := nb1 e
        have HRf : Hid (R = false) := by show _ = _; rw [HR.out, hq]; simp
        clear e hq
        go_wp2_with fail
        go_ret
        exact ⟨ret_bool HRf.out.symm, HBB.out⟩
      | true =>
        rw [hq] at e
        have e2 : ((n2 : Int) != 16) = false := nb2 e
        have HQ := Lib.hid hq
        clear e hq
        go_wp2_with fail
        go_roundw
        case rel => exact ⟨3, by omega, by go_num, (by first | trivial | exact fun _ => trivial | exact fun _ => h1.out (by omega)), (by first | trivial | exact fun _ => trivial | exact fun _ => h2.out (by omega)), (by first | trivial | exact fun _ => trivial | exact fun _ => HQ.out | exact fun _ => rfl), (by first | trivial | exact fun h => absurd h (by omega)), by first | rfl | trivial⟩
        case measure => simp [intOf]
    · have q := cell_of_row _ _ 3 _ _ _ m2
      have e := key_ne (n := n3)
      cases hq : keyB n3 with
      | false =>
        rw [hq] at e
        have e2 : ((n3 : Int) != 16) = true := nb1 e
        have HRf : Hid (R = false) := by show _ = _; rw [HR.out, hq]; simp
        clear e hq
        go_wp2_with fail
        go_ret
        exact ⟨ret_bool HRf.out.symm, HBB.out⟩
      | true =>
        rw [hq] at e
        have e2 : ((n3 : Int) != 16) = false := nb2 e
        have HQ := Lib.hid hq
        clear e hq
        go_wp2_with fail
        go_roundw
        case rel => exact ⟨4, by omega, by go_num, (by first | trivial | exact fun _ => trivial | exact fun _ => h1.out (by omega)), (by first | trivial | exact fun _ => trivial | exact fun _ => h2.out (by omega)), (by first | trivial | exact fun _ => trivial | exact fun _ => h3.out (by omega)), (by first | trivial | exact fun _ => trivial | exact fun _ => HQ.out | exact fun _ => rfl), by first | rfl | trivial⟩
        case measure => simp [intOf]
    · have z4 := cell_of_row _ _ 4 _ _ _ m1
      have HRl : Hid (R = lvlB lv) := by show _ = _; rw [HR.out, h1.out (by omega), h2.out (by omega), h3.out (by omega), h4.out (by omega)]; rfl
      go_wp2_with fail
      refine (HL.out _).mono ?_
      rintro e w3 ⟨rfl, rfl⟩
      go_wp2_with fail
      go_ret
      exact ⟨ret_bool HRl.out.symm, HBB.out⟩

/-- The side that New gives. -/
def Ch.new (s : Ss) (m : List UInt8) : Ch := ⟨s.enc, s.mac, s.rmac, s.dat, s.lvl, m, 0, false, false⟩
/-- What New gives. -/
def NewP (w : World) (s : Ss) (m : List UInt8) (e : Ending) (w' : World) : Prop := Below w.heap.size w w' ∧
  (((s.ok && decide (m.length = 8)) = false ∧ e = .returned (.pointer none)) ∨ ((s.ok && decide (m.length = 8)) = true ∧ ∃ g, w.heap.size ≤ g ∧ e = .returned (.pointer (some ⟨g, 0, none⟩)) ∧ CH w' g (Ch.new s m)))
structure BP (B : Nat) (w W : World) : Prop where
  b : Below B w W
  z : B ≤ W.heap.size
theorem BP.al {B : Nat} {w W : World} (h : BP B w W) (o : Obj) : BP B w (W.alloc o) := ⟨h.b.trans ((alloc_below W o).mono h.z), by rw [alloc_size]; exact Nat.le_succ_of_le h.z⟩
theorem BP.on {B : Nat} {w W W2 : World} (h : BP B w W) (k : Below W.heap.size W W2) : BP B w W2 := ⟨h.b.trans (k.mono h.z), Nat.le_trans h.z k.size⟩
theorem BP.dr {B : Nat} {w W : World} (h : BP B w W) : BP B w W.drew := ⟨h.b.drew, h.z⟩
theorem BP.st {B : Nat} {w W : World} (h : BP B w W) {b : Nat} (hb : B ≤ b) (i : Nat) (u : Value) : BP B w (W.setCell ⟨b, i, none⟩ u) := ⟨h.b.setCell (p := ⟨b, i, none⟩) hb u, by simp [World.setCell]; exact h.z⟩
theorem BP.st5 {B : Nat} {w W : World} (h : BP B w W) {b : Nat} (hb : B ≤ b) {x0 x1 x2 x3 x4 : Value} : BP B w (((((W.setCell ⟨b, 0, none⟩ x0).setCell ⟨b, 1, none⟩ x1).setCell ⟨b, 2, none⟩ x2).setCell ⟨b, 3, none⟩ x3).setCell ⟨b, 4, none⟩ x4) := ((((h.st hb 0 x0).st hb 1 x1).st hb 2 x2).st hb 3 x3).st hb 4 x4
theorem rowA {W W2 : World} {o : Obj} (k : Below (W.alloc o).heap.size (W.alloc o) W2) : W2.heap[W.heap.size]? = some o := (k.block _ (by rw [alloc_size]; exact Nat.lt_succ_self _)).trans (heap_alloc_new _ _)
theorem rowAd {W W2 : World} {o : Obj} (k : Below (W.alloc o).drew.heap.size (W.alloc o).drew W2) : W2.heap[W.heap.size]? = some o := (k.block _ (by show _ < (W.alloc o).heap.size; rw [alloc_size]; exact Nat.lt_succ_self _)).trans (heap_alloc_new _ _)
theorem rowC {W W2 : World} {G : Nat} {cs : Array Value} {t : TypeId} {fr : Nat × Nat} (k : Below W.heap.size W W2) (h : W.heap[G]? = some (.cells cs t fr)) : W2.heap[G]? = some (.cells cs t fr) := (k.block _ (blk_lt h)).trans h
theorem row5st {W : World} {b : Nat} {x0 x1 x2 x3 x4 y0 y1 y2 y3 y4 : Value} {t : TypeId} (h : W.heap[b]? = some (.cells #[x0, x1, x2, x3, x4] t (0, 0))) :
    (((((W.setCell ⟨b, 0, none⟩ y0).setCell ⟨b, 1, none⟩ y1).setCell ⟨b, 2, none⟩ y2).setCell ⟨b, 3, none⟩ y3).setCell ⟨b, 4, none⟩ y4).heap[b]? = some (.cells #[y0, y1, y2, y3, y4] t (0, 0)) := by
  have h0 := heap_setCell_same _ b 0 _ _ y0 h
  have h1 := heap_setCell_same _ b 1 _ _ y1 h0
  have h2 := heap_setCell_same _ b 2 _ _ y2 h1
  have h3 := heap_setCell_same _ b 3 _ _ y3 h2
  have h4 := heap_setCell_same _ b 4 _ _ y4 h3
  exact h4
theorem kb5st {W : World} {b : Nat} {y0 y1 y2 y3 y4 : Value} : Kb b W (((((W.setCell ⟨b, 0, none⟩ y0).setCell ⟨b, 1, none⟩ y1).setCell ⟨b, 2, none⟩ y2).setCell ⟨b, 3, none⟩ y3).setCell ⟨b, 4, none⟩ y4) :=
  (((((Kb.refl b W).set 0 y0).set 1 y1).set 2 y2).set 3 y3).set 4 y4
/-- A byte slice never lies in such a row. -/
theorem off5 {w : World} {g B : Nat} {v : Value} {l : List UInt8} {a0 a1 a2 a3 : Option Addr} {n0 n1 n2 n3 c0 c1 c2 c3 : Nat} {n : Int} {t : TypeId} (hr : w.heap[g]? = some (.cells #[.slice a0 n0 c0, .slice a1 n1 c1, .slice a2 n2 c2, .slice a3 n3 c3, .int .i64 n] t (0, 0))) (hv : SL w B v l) (hB : B ≤ w.heap.size) : FL g w v l := by
  obtain ⟨A, c, hv, k1, k2, k3⟩ := hv
  refine ⟨A, c, hv, k1, k2, fun hp => ?_⟩
  obtain ⟨b, o, hA, hb, hc⟩ := k3 hp
  refine ⟨b, o, hA, fun e => ?_, by omega, hc⟩
  subst e
  have h0 := hc 0 hp
  rcases Nat.lt_or_ge (o + 0) 5 with ho | ho
  · have : o = 0 ∨ o = 1 ∨ o = 2 ∨ o = 3 ∨ o = 4 := by omega
    rcases this with rfl | rfl | rfl | rfl | rfl <;>
      (rw [cell_of_row _ _ _ _ _ _ hr] at h0; simp at h0)
  · rw [cell_of_row _ _ _ _ _ _ hr, Array.getElem?_eq_none (by simp; omega)] at h0
    cases h0
theorem onA {w w' : World} {o : Obj} {v : Value} {l : List UInt8} (h : SL w w.heap.size v l) (k : Below (w.alloc o).heap.size (w.alloc o) w') : SL w' w'.heap.size v l := (h.on (alloc_below w o)).on k
theorem flA {w : World} {o : Obj} {v : Value} {l : List UInt8} (h : SL w w.heap.size v l) : FL w.heap.size (w.alloc o) v l := by
  have h2 := h.on (alloc_below w o)
  obtain ⟨A, c, hv, k1, k2, k3⟩ := h
  obtain ⟨A', c', hv', k1', k2', k3'⟩ := h2
  rw [hv] at hv'
  injection hv' with e1 e2 e3
  subst e1 e3
  refine ⟨A, c, hv, k1, k2, fun hp => ?_⟩
  obtain ⟨b, o', hA, hb, hc⟩ := k3 hp
  obtain ⟨b', o'', hA', hb', hc'⟩ := k3' hp
  rw [hA] at hA'
  injection hA' with hA'
  injection hA' with e1 e2
  subst e1 e2
  exact ⟨b, o', hA, Nat.ne_of_lt hb, hb', hc'⟩
/-- Cells of a row, and that they are not frozen. -/
theorem row5 {w : World} {b : Nat} {x0 x1 x2 x3 x4 : Value} {t : Nat} (h : w.heap[b]? = some (.cells #[x0, x1, x2, x3, x4] t (0, 0))) :
    (w.cell? ⟨b, 0, none⟩ = some x0 ∧ w.cell? ⟨b, 1, none⟩ = some x1 ∧ w.cell? ⟨b, 2, none⟩ = some x2 ∧ w.cell? ⟨b, 3, none⟩ = some x3 ∧ w.cell? ⟨b, 4, none⟩ = some x4) :=
  ⟨cell_of_row _ _ 0 _ _ _ h, cell_of_row _ _ 1 _ _ _ h, cell_of_row _ _ 2 _ _ _ h, cell_of_row _ _ 3 _ _ _ h, cell_of_row _ _ 4 _ _ _ h⟩
set_option maxRecDepth 100000 in
set_option maxHeartbeats 6400000 in
theorem pnew_any (s : Ss) (m : List UInt8) (v0 v1 v2 v3 vm : Value) (w : World) (h0 : SL w w.heap.size v0 s.enc) (h1 : SL w w.heap.size v1 s.mac) (h2 : SL w w.heap.size v2 s.rmac) (h3 : SL w w.heap.size v3 s.dat) (hm : SL w w.heap.size vm m) :
    Calls Tryd.prog 8 #[s.val v0 v1 v2 v3, vm] w (NewP w s m) := by
  obtain ⟨A0, c0, rfl, _, _, _⟩ := id h0
  obtain ⟨A1, c1, rfl, _, _, _⟩ := id h1
  obtain ⟨A2, c2, rfl, _, _, _⟩ := id h2
  obtain ⟨A3, c3, rfl, _, _, _⟩ := id h3
  obtain ⟨Am, cm, rfl, _, _, _⟩ := id hm
  have HV := Lib.hid fun W => pvalid_any s A0 A1 A2 A3 c0 c1 c2 c3 W
  have hb1 := alloc_below w (Obj.cells #[.slice A0 s.enc.length c0, .slice A1 s.mac.length c1, .slice A2 s.rmac.length c2, .slice A3 s.dat.length c3, .int .i64 s.lvl] 24)
  have HB1 := Lib.hid hb1
  have HN1 := Lib.hid (heap_alloc_new w (Obj.cells #[.slice A0 s.enc.length c0, .slice A1 s.mac.length c1, .slice A2 s.rmac.length c2, .slice A3 s.dat.length c3, .int .i64 s.lvl] 24))
  unfold Ss.val at *
  cases hok : s.ok with
  | false =>
    have hP : Hid (∀ w', Below w.heap.size w w' → NewP w s m (.returned (.pointer none)) w') := fun w' hb => ⟨hb, .inl ⟨by rw [hok]; rfl, rfl⟩⟩
    rw [hok] at HV
    clear hok h0 h1 h2 h3 hm hb1
    go_enter Tryd.func8, Tryd.ntmps8
    go_wp2_with fail
    refine (HV.out _).mono ?_
    rintro e w3 ⟨rfl, hb3⟩
    go_wp2_with fail
    go_ret
    exact hP.out _ (HB1.out.trans (hb3.mono HB1.out.size))
  | true =>
    by_cases h8 : m.length = 8
    case neg =>
      have hP : Hid (∀ w', Below w.heap.size w w' → NewP w s m (.returned (.pointer none)) w') := fun w' hb => ⟨hb, .inl ⟨by rw [decide_eq_false h8]; simp, rfl⟩⟩
      rw [hok] at HV
      have hi : ((m.length : Int) != 8) = true := by rw [bne_iff_ne]; omega
      clear hok h0 h1 h2 h3 hm hb1 h8
      go_enter Tryd.func8, Tryd.ntmps8
      go_wp2_with fail
      refine (HV.out _).mono ?_
      rintro e w3 ⟨rfl, hb3⟩
      go_wp2_with fail
      go_ret
      exact hP.out _ (HB1.out.trans (hb3.mono HB1.out.size))
    have hk : s.enc.length = 16 ∧ s.mac.length = 16 ∧ s.rmac.length = 16 ∧ s.dat.length = 16 := by
      unfold Ss.ok keyB at hok
      simp only [Bool.and_eq_true, decide_eq_true_eq] at hok
      omega
    have hP : Hid (∀ w' g, Below w.heap.size w w' → w.heap.size ≤ g → CH w' g (Ch.new s m) → NewP w s m (.returned (.pointer (some ⟨g, 0, none⟩))) w') := fun w' g hb hg hc => ⟨hb, .inr ⟨by rw [hok, decide_eq_true h8]; rfl, g, hg, rfl, hc⟩⟩
    have hc0 := fun (W : World) (hW : Below w.heap.size w W) => clone_any s.enc _ W (h0.on hW) (by omega)
    have hc1 := fun (W : World) (hW : Below w.heap.size w W) => clone_any s.mac _ W (h1.on hW) (by omega)
    have hc2 := fun (W : World) (hW : Below w.heap.size w W) => clone_any s.rmac _ W (h2.on hW) (by omega)
    have hc3 := fun (W : World) (hW : Below w.heap.size w W) => clone_any s.dat _ W (h3.on hW) (by omega)
    have hcm := fun (W : World) (hW : Below w.heap.size w W) => clone_any m _ W (hm.on hW) (by omega)
    rw [hok] at HV
    have hi : ((m.length : Int) != 8) = false := by rw [bne_eq_false_iff_eq]; omega
    have HC0 := Lib.hid hc0
    have HC1 := Lib.hid hc1
    have HC2 := Lib.hid hc2
    have HC3 := Lib.hid hc3
    have HCM := Lib.hid hcm
    have HK := Lib.hid hk
    have H8 := Lib.hid h8
    have HS : Hid (∀ W, Below (w.heap.size + 1) (w.alloc (Obj.cells #[.slice A0 s.enc.length c0, .slice A1 s.mac.length c1, .slice A2 s.rmac.length c2, .slice A3 s.dat.length c3, .int .i64 s.lvl] 24)) W → W.cell? ⟨w.heap.size, 0, none⟩ = some (.slice A0 s.enc.length c0) ∧ W.cell? ⟨w.heap.size, 1, none⟩ = some (.slice A1 s.mac.length c1) ∧ W.cell? ⟨w.heap.size, 2, none⟩ = some (.slice A2 s.rmac.length c2) ∧ W.cell? ⟨w.heap.size, 3, none⟩ = some (.slice A3 s.dat.length c3) ∧ W.cell? ⟨w.heap.size, 4, none⟩ = some (.int .i64 s.lvl)) := fun W hW => by
      have hr := (hW.block w.heap.size (Nat.lt_succ_self _)).trans HN1.out
      exact ⟨cell_of_row _ _ 0 _ _ _ hr, cell_of_row _ _ 1 _ _ _ hr, cell_of_row _ _ 2 _ _ _ hr, cell_of_row _ _ 3 _ _ _ hr, cell_of_row _ _ 4 _ _ _ hr⟩
    have HZ := Lib.hid (alloc_size w (Obj.cells #[.slice A0 s.enc.length c0, .slice A1 s.mac.length c1, .slice A2 s.rmac.length c2, .slice A3 s.dat.length c3, .int .i64 s.lvl] 24))
    clear hok h0 h1 h2 h3 hm hb1 h8 hk hc0 hc1 hc2 hc3 hcm
    go_enter Tryd.func8, Tryd.ntmps8
    go_wp2_with fail
    refine (HV.out _).mono ?_
    rintro e w3 ⟨rfl, hb3⟩
    rw [HZ.out] at hb3
    have HB3 := Lib.hid (HB1.out.trans (hb3.mono (Nat.le_succ _)))
    have HT3 := Lib.hid hb3
    obtain ⟨u0, u1, u2, u3, u4⟩ := HS.out _ hb3
    have hz3 := hb3.size
    rw [HZ.out] at hz3
    have hS6 : True := trivial
    have hB3 : BP w.heap.size w w3 := BP.mk HB3.out HB3.out.size
    have hd3 := hB3.dr
    have hT3 : BP (w.heap.size + 1) (w.alloc (Obj.cells #[.slice A0 s.enc.length c0, .slice A1 s.mac.length c1, .slice A2 s.rmac.length c2, .slice A3 s.dat.length c3, .int .i64 s.lvl] 24)) w3 := BP.mk HT3.out hz3
    have ht3 := hT3.dr
    clear hb3
    go_wp2_with fail
    go_region_held3 (fun W => W.cell? ⟨w.heap.size, 0, none⟩ = some (.slice A0 s.enc.length c0) ∧ W.cell? ⟨w.heap.size, 1, none⟩ = some (.slice A1 s.mac.length c1) ∧ W.cell? ⟨w.heap.size, 2, none⟩ = some (.slice A2 s.rmac.length c2) ∧ W.cell? ⟨w.heap.size, 3, none⟩ = some (.slice A3 s.dat.length c3) ∧ W.cell? ⟨w.heap.size, 4, none⟩ = some (.int .i64 s.lvl))
      (first | (with_reducible exact hS6) | (with_reducible exact HS.out _ hT7.b) | (with_reducible exact HS.out _ (hT7.al _).b) | (with_reducible exact HS.out _ (hT7.al _).dr.b) | (with_reducible exact HS.out _ ht7.b) | (with_reducible exact HS.out _ (ht7.al _).b) | (with_reducible exact HS.out _ (ht7.al _).dr.b) | (with_reducible exact HS.out _ hT6.b) | (with_reducible exact HS.out _ (hT6.al _).b) | (with_reducible exact HS.out _ (hT6.al _).dr.b) | (with_reducible exact HS.out _ ht6.b) | (with_reducible exact HS.out _ (ht6.al _).b) | (with_reducible exact HS.out _ (ht6.al _).dr.b) | (with_reducible exact HS.out _ hT5.b) | (with_reducible exact HS.out _ (hT5.al _).b) | (with_reducible exact HS.out _ (hT5.al _).dr.b) | (with_reducible exact HS.out _ ht5.b) | (with_reducible exact HS.out _ (ht5.al _).b) | (with_reducible exact HS.out _ (ht5.al _).dr.b) | (with_reducible exact HS.out _ hT4.b) | (with_reducible exact HS.out _ (hT4.al _).b) | (with_reducible exact HS.out _ (hT4.al _).dr.b) | (with_reducible exact HS.out _ ht4.b) | (with_reducible exact HS.out _ (ht4.al _).b) | (with_reducible exact HS.out _ (ht4.al _).dr.b) | (with_reducible exact HS.out _ hT3.b) | (with_reducible exact HS.out _ (hT3.al _).b) | (with_reducible exact HS.out _ (hT3.al _).dr.b) | (with_reducible exact HS.out _ ht3.b) | (with_reducible exact HS.out _ (ht3.al _).b) | (with_reducible exact HS.out _ (ht3.al _).dr.b) | (with_reducible exact HS.out _ (hT7.st5 hT3.z).b) | (with_reducible exact HS.out _ (hT7.st5 hT3.z).dr.b) | (with_reducible exact HS.out _ (hT7.st5 hT4.z).b) | (with_reducible exact HS.out _ (hT7.st5 hT4.z).dr.b) | (with_reducible exact HS.out _ (hT7.st5 hT5.z).b) | (with_reducible exact HS.out _ (hT7.st5 hT5.z).dr.b) | (with_reducible exact HS.out _ (hT7.st5 hT6.z).b) | (with_reducible exact HS.out _ (hT7.st5 hT6.z).dr.b) | (go_keep; done))
      (first
        | (go_at_call 23; (with_reducible refine (HC0.out _ hB3.dr.b).mono ?_); rintro e w4 ⟨v4, rfl, hv4, hb4⟩; obtain ⟨A4', c4', rfl, -, -, -⟩ := id hv4; have hB4 := BP.on (hB3.dr) hb4; have hT4 := BP.on (hT3.dr) hb4; have hS6 := HS.out _ hT4.b)
        | (go_at_call 23; (with_reducible refine (HC0.out _ (hB3.al _).dr.b).mono ?_); rintro e w4 ⟨v4, rfl, hv4, hb4⟩; obtain ⟨A4', c4', rfl, -, -, -⟩ := id hv4; have hB4 := BP.on ((hB3.al _).dr) hb4; have hT4 := BP.on ((hT3.al _).dr) hb4; have hS6 := HS.out _ hT4.b; have HROW := Lib.hid (rowAd hb4))
        | (go_at_call 23; (with_reducible refine (HC1.out _ hB4.b).mono ?_); rintro e w5 ⟨v5, rfl, hv5, hb5⟩; obtain ⟨A5', c5', rfl, -, -, -⟩ := id hv5; have hB5 := BP.on (hB4) hb5; have hT5 := BP.on (hT4) hb5; have hS6 := HS.out _ hT5.b; have HROW := Lib.hid (rowC hb5 HROW.out))
        | (go_at_call 23; (with_reducible refine (HC1.out _ (hB4.al _).b).mono ?_); rintro e w5 ⟨v5, rfl, hv5, hb5⟩; obtain ⟨A5', c5', rfl, -, -, -⟩ := id hv5; have hB5 := BP.on ((hB4.al _)) hb5; have hT5 := BP.on ((hT4.al _)) hb5; have hS6 := HS.out _ hT5.b; have HROW := Lib.hid (rowA hb5))
        | (go_at_call 23; (with_reducible refine (HC1.out _ hB4.b).mono ?_); rintro e w5 ⟨v5, rfl, hv5, hb5⟩; obtain ⟨A5', c5', rfl, -, -, -⟩ := id hv5; have hB5 := BP.on (hB4) hb5; have hT5 := BP.on (hT4) hb5; have hS6 := HS.out _ hT5.b)
        | (go_at_call 23; (with_reducible refine (HC2.out _ hB5.b).mono ?_); rintro e w6 ⟨v6, rfl, hv6, hb6⟩; obtain ⟨A6', c6', rfl, -, -, -⟩ := id hv6; have hB6 := BP.on (hB5) hb6; have hT6 := BP.on (hT5) hb6; have hS6 := HS.out _ hT6.b; have HROW := Lib.hid (rowC hb6 HROW.out))
        | (go_at_call 23; (with_reducible refine (HC2.out _ (hB5.al _).b).mono ?_); rintro e w6 ⟨v6, rfl, hv6, hb6⟩; obtain ⟨A6', c6', rfl, -, -, -⟩ := id hv6; have hB6 := BP.on ((hB5.al _)) hb6; have hT6 := BP.on ((hT5.al _)) hb6; have hS6 := HS.out _ hT6.b; have HROW := Lib.hid (rowA hb6))
        | (go_at_call 23; (with_reducible refine (HC2.out _ hB5.b).mono ?_); rintro e w6 ⟨v6, rfl, hv6, hb6⟩; obtain ⟨A6', c6', rfl, -, -, -⟩ := id hv6; have hB6 := BP.on (hB5) hb6; have hT6 := BP.on (hT5) hb6; have hS6 := HS.out _ hT6.b)
        | (go_at_call 23; (with_reducible refine (HC3.out _ hB6.b).mono ?_); rintro e w7 ⟨v7, rfl, hv7, hb7⟩; obtain ⟨A7', c7', rfl, -, -, -⟩ := id hv7; have hB7 := BP.on (hB6) hb7; have hT7 := BP.on (hT6) hb7; have hS6 := HS.out _ hT7.b; have HROW := Lib.hid (rowC hb7 HROW.out); obtain ⟨g0, g1, g2, g3, g4⟩ := row5 HROW.out; have f0 := frozen_of_row _ _ 0 _ _ HROW.out; have f1 := frozen_of_row _ _ 1 _ _ HROW.out; have f2 := frozen_of_row _ _ 2 _ _ HROW.out; have f3 := frozen_of_row _ _ 3 _ _ HROW.out; have f4 := frozen_of_row _ _ 4 _ _ HROW.out)
        | (go_at_call 23; (with_reducible refine (HC3.out _ (hB6.al _).b).mono ?_); rintro e w7 ⟨v7, rfl, hv7, hb7⟩; obtain ⟨A7', c7', rfl, -, -, -⟩ := id hv7; have hB7 := BP.on ((hB6.al _)) hb7; have hT7 := BP.on ((hT6.al _)) hb7; have hS6 := HS.out _ hT7.b; have HROW := Lib.hid (rowA hb7); obtain ⟨g0, g1, g2, g3, g4⟩ := row5 HROW.out; have f0 := frozen_of_row _ _ 0 _ _ HROW.out; have f1 := frozen_of_row _ _ 1 _ _ HROW.out; have f2 := frozen_of_row _ _ 2 _ _ HROW.out; have f3 := frozen_of_row _ _ 3 _ _ HROW.out; have f4 := frozen_of_row _ _ 4 _ _ HROW.out)
        | (go_at_call 23; (with_reducible refine (HC3.out _ hB6.b).mono ?_); rintro e w7 ⟨v7, rfl, hv7, hb7⟩; obtain ⟨A7', c7', rfl, -, -, -⟩ := id hv7; have hB7 := BP.on (hB6) hb7; have hT7 := BP.on (hT6) hb7; have hS6 := HS.out _ hT7.b)
        | fail "none")
    · have z4_5 : SL w5 w5.heap.size (.slice A4' s.enc.length c4') s.enc := by first | exact SL.on hv4 hb5 | exact onA hv4 hb5
      have z4_6 : SL w6 w6.heap.size (.slice A4' s.enc.length c4') s.enc := by first | exact SL.on z4_5 hb6 | exact onA z4_5 hb6
      have z4_7 : SL w7 w7.heap.size (.slice A4' s.enc.length c4') s.enc := by first | exact SL.on z4_6 hb7 | exact onA z4_6 hb7
      have q4 : SL w7 w7.heap.size (.slice A4' s.enc.length c4') s.enc := z4_7
      have z5_6 : SL w6 w6.heap.size (.slice A5' s.mac.length c5') s.mac := by first | exact SL.on hv5 hb6 | exact onA hv5 hb6
      have z5_7 : SL w7 w7.heap.size (.slice A5' s.mac.length c5') s.mac := by first | exact SL.on z5_6 hb7 | exact onA z5_6 hb7
      have q5 : SL w7 w7.heap.size (.slice A5' s.mac.length c5') s.mac := z5_7
      have z6_7 : SL w7 w7.heap.size (.slice A6' s.rmac.length c6') s.rmac := by first | exact SL.on hv6 hb7 | exact onA hv6 hb7
      have q6 : SL w7 w7.heap.size (.slice A6' s.rmac.length c6') s.rmac := z6_7
      have q7 : SL w7 w7.heap.size (.slice A7' s.dat.length c7') s.dat := hv7
      have X := hB7.al (Obj.cells #[.slice A4' s.enc.length c4', .slice A5' s.mac.length c5', .slice A6' s.rmac.length c6', .slice A7' s.dat.length c7', .int .i64 s.lvl] 24)
      have r := heap_alloc_new w7 (Obj.cells #[.slice A4' s.enc.length c4', .slice A5' s.mac.length c5', .slice A6' s.rmac.length c6', .slice A7' s.dat.length c7', .int .i64 s.lvl] 24)
      have k4 := q4.on (alloc_below w7 (Obj.cells #[.slice A4' s.enc.length c4', .slice A5' s.mac.length c5', .slice A6' s.rmac.length c6', .slice A7' s.dat.length c7', .int .i64 s.lvl] 24))
      have k5 := q5.on (alloc_below w7 (Obj.cells #[.slice A4' s.enc.length c4', .slice A5' s.mac.length c5', .slice A6' s.rmac.length c6', .slice A7' s.dat.length c7', .int .i64 s.lvl] 24))
      have k6 := q6.on (alloc_below w7 (Obj.cells #[.slice A4' s.enc.length c4', .slice A5' s.mac.length c5', .slice A6' s.rmac.length c6', .slice A7' s.dat.length c7', .int .i64 s.lvl] 24))
      have k7 := q7.on (alloc_below w7 (Obj.cells #[.slice A4' s.enc.length c4', .slice A5' s.mac.length c5', .slice A6' s.rmac.length c6', .slice A7' s.dat.length c7', .int .i64 s.lvl] 24))
      have hg : w.heap.size ≤ w7.heap.size := hB7.z
      generalize w7.alloc (Obj.cells #[.slice A4' s.enc.length c4', .slice A5' s.mac.length c5', .slice A6' s.rmac.length c6', .slice A7' s.dat.length c7', .int .i64 s.lvl] 24) = WX at X r k4 k5 k6 k7 ⊢
      generalize w7.heap.size = G at hg r ⊢
      clear hS6 q4 q5 q6 q7 z4_5 z4_6 z4_7 z5_6 z5_7 z6_7
      have HX := Lib.hid X
      have HK := Lib.hid (And.intro k4 (And.intro k5 (And.intro k6 k7)))
      have HG := Lib.hid hg
      obtain ⟨y0, y1, y2, y3, y4⟩ := row5 r
      have HY : Hid (∀ W2, Below WX.heap.size WX W2 → W2.cell? ⟨G, 0, none⟩ = some (.slice A4' s.enc.length c4') ∧ W2.cell? ⟨G, 1, none⟩ = some (.slice A5' s.mac.length c5') ∧ W2.cell? ⟨G, 2, none⟩ = some (.slice A6' s.rmac.length c6') ∧ W2.cell? ⟨G, 3, none⟩ = some (.slice A7' s.dat.length c7') ∧ W2.cell? ⟨G, 4, none⟩ = some (.int .i64 s.lvl)) := fun W2 hW => row5 ((hW.block _ (blk_lt r)).trans r)
      have hE : BP WX.heap.size WX WX := ⟨Below.refl _ _, Nat.le_refl _⟩
      have hS8 : True := trivial
      clear X k4 k5 k6 k7 hg r hB3 hd3 hT3 ht3 hB4 hT4 hB5 hT5 hB6 hT6 hB7 hT7 hb4 hb5 hb6 hb7 hv4 hv5 hv6 hv7 HB3 HT3 u0 u1 u2 u3 u4 hz3 HS HZ HB1 HN1 HV
      go_wp2_with fail
      go_region_held3 (fun W => W.cell? ⟨G, 0, none⟩ = some (.slice A4' s.enc.length c4') ∧ W.cell? ⟨G, 1, none⟩ = some (.slice A5' s.mac.length c5') ∧ W.cell? ⟨G, 2, none⟩ = some (.slice A6' s.rmac.length c6') ∧ W.cell? ⟨G, 3, none⟩ = some (.slice A7' s.dat.length c7') ∧ W.cell? ⟨G, 4, none⟩ = some (.int .i64 s.lvl)) (first | (with_reducible exact hS8) | (with_reducible exact HY.out _ hE.dr.b) | (with_reducible exact HY.out _ hE8.b) | (with_reducible exact HY.out _ (hE8.al _).b) | (go_keep; done)) (first | (go_at_call 23; (with_reducible refine (HCM.out _ HX.out.dr.b).mono ?_); rintro e w8 ⟨v8, rfl, hv8, hb8⟩; obtain ⟨A8', c8', rfl, -, -, -⟩ := id hv8; have hE8 := BP.on hE.dr hb8; have hS8 := HY.out _ hE8.b) | (go_at_call 23; (with_reducible refine (HCM.out _ HX.out.b).mono ?_); rintro e w8 ⟨v8, rfl, hv8, hb8⟩; obtain ⟨A8', c8', rfl, -, -, -⟩ := id hv8; have hE8 := BP.on hE hb8; have hS8 := HY.out _ hE8.b) | fail "none")
      go_wp2_with fail
      go_ret
      have hE9 : BP w.heap.size w w8 := ⟨HX.out.b.trans (hE8.b.mono HX.out.z), Nat.le_trans HX.out.z hE8.z⟩
      exact hP.out _ _ (hE9.al _).b hE9.z ⟨A4', A5', A6', A7', A8', c4', c5', c6', c7', c8', heap_alloc_new _ _, flA (HK.out.1.on hE8.b), flA (HK.out.2.1.on hE8.b), flA (HK.out.2.2.1.on hE8.b), flA (HK.out.2.2.2.on hE8.b), flA hv8⟩
    · have z4_5 : SL w5 w5.heap.size (.slice A4' s.enc.length c4') s.enc := by first | exact SL.on hv4 hb5 | exact onA hv4 hb5
      have z4_6 : SL w6 w6.heap.size (.slice A4' s.enc.length c4') s.enc := by first | exact SL.on z4_5 hb6 | exact onA z4_5 hb6
      have z4_7 : SL w7 w7.heap.size (.slice A4' s.enc.length c4') s.enc := by first | exact SL.on z4_6 hb7 | exact onA z4_6 hb7
      have q4 : SL w7 w7.heap.size (.slice A4' s.enc.length c4') s.enc := z4_7
      have z5_6 : SL w6 w6.heap.size (.slice A5' s.mac.length c5') s.mac := by first | exact SL.on hv5 hb6 | exact onA hv5 hb6
      have z5_7 : SL w7 w7.heap.size (.slice A5' s.mac.length c5') s.mac := by first | exact SL.on z5_6 hb7 | exact onA z5_6 hb7
      have q5 : SL w7 w7.heap.size (.slice A5' s.mac.length c5') s.mac := z5_7
      have z6_7 : SL w7 w7.heap.size (.slice A6' s.rmac.length c6') s.rmac := by first | exact SL.on hv6 hb7 | exact onA hv6 hb7
      have q6 : SL w7 w7.heap.size (.slice A6' s.rmac.length c6') s.rmac := z6_7
      have q7 : SL w7 w7.heap.size (.slice A7' s.dat.length c7') s.dat := hv7
      have hg : w.heap.size ≤ w6.heap.size := hB6.z
      have X : BP w.heap.size w (((((w7.setCell { block := w6.heap.size, off := 0 } (.slice A4' s.enc.length c4')).setCell { block := w6.heap.size, off := 1 } (.slice A5' s.mac.length c5')).setCell { block := w6.heap.size, off := 2 } (.slice A6' s.rmac.length c6')).setCell { block := w6.heap.size, off := 3 } (.slice A7' s.dat.length c7')).setCell { block := w6.heap.size, off := 4 } (.int .i64 s.lvl)) := hB7.st5 hg
      have r : (((((w7.setCell { block := w6.heap.size, off := 0 } (.slice A4' s.enc.length c4')).setCell { block := w6.heap.size, off := 1 } (.slice A5' s.mac.length c5')).setCell { block := w6.heap.size, off := 2 } (.slice A6' s.rmac.length c6')).setCell { block := w6.heap.size, off := 3 } (.slice A7' s.dat.length c7')).setCell { block := w6.heap.size, off := 4 } (.int .i64 s.lvl)).heap[w6.heap.size]? = some (Obj.cells #[.slice A4' s.enc.length c4', .slice A5' s.mac.length c5', .slice A6' s.rmac.length c6', .slice A7' s.dat.length c7', .int .i64 s.lvl] 24) := row5st HROW.out
      have k4 : SL (((((w7.setCell { block := w6.heap.size, off := 0 } (.slice A4' s.enc.length c4')).setCell { block := w6.heap.size, off := 1 } (.slice A5' s.mac.length c5')).setCell { block := w6.heap.size, off := 2 } (.slice A6' s.rmac.length c6')).setCell { block := w6.heap.size, off := 3 } (.slice A7' s.dat.length c7')).setCell { block := w6.heap.size, off := 4 } (.int .i64 s.lvl)) (((((w7.setCell { block := w6.heap.size, off := 0 } (.slice A4' s.enc.length c4')).setCell { block := w6.heap.size, off := 1 } (.slice A5' s.mac.length c5')).setCell { block := w6.heap.size, off := 2 } (.slice A6' s.rmac.length c6')).setCell { block := w6.heap.size, off := 3 } (.slice A7' s.dat.length c7')).setCell { block := w6.heap.size, off := 4 } (.int .i64 s.lvl)).heap.size (.slice A4' s.enc.length c4') s.enc := ((off5 HROW.out q4 (Nat.le_refl _)).kb kb5st).sl
      have k5 : SL (((((w7.setCell { block := w6.heap.size, off := 0 } (.slice A4' s.enc.length c4')).setCell { block := w6.heap.size, off := 1 } (.slice A5' s.mac.length c5')).setCell { block := w6.heap.size, off := 2 } (.slice A6' s.rmac.length c6')).setCell { block := w6.heap.size, off := 3 } (.slice A7' s.dat.length c7')).setCell { block := w6.heap.size, off := 4 } (.int .i64 s.lvl)) (((((w7.setCell { block := w6.heap.size, off := 0 } (.slice A4' s.enc.length c4')).setCell { block := w6.heap.size, off := 1 } (.slice A5' s.mac.length c5')).setCell { block := w6.heap.size, off := 2 } (.slice A6' s.rmac.length c6')).setCell { block := w6.heap.size, off := 3 } (.slice A7' s.dat.length c7')).setCell { block := w6.heap.size, off := 4 } (.int .i64 s.lvl)).heap.size (.slice A5' s.mac.length c5') s.mac := ((off5 HROW.out q5 (Nat.le_refl _)).kb kb5st).sl
      have k6 : SL (((((w7.setCell { block := w6.heap.size, off := 0 } (.slice A4' s.enc.length c4')).setCell { block := w6.heap.size, off := 1 } (.slice A5' s.mac.length c5')).setCell { block := w6.heap.size, off := 2 } (.slice A6' s.rmac.length c6')).setCell { block := w6.heap.size, off := 3 } (.slice A7' s.dat.length c7')).setCell { block := w6.heap.size, off := 4 } (.int .i64 s.lvl)) (((((w7.setCell { block := w6.heap.size, off := 0 } (.slice A4' s.enc.length c4')).setCell { block := w6.heap.size, off := 1 } (.slice A5' s.mac.length c5')).setCell { block := w6.heap.size, off := 2 } (.slice A6' s.rmac.length c6')).setCell { block := w6.heap.size, off := 3 } (.slice A7' s.dat.length c7')).setCell { block := w6.heap.size, off := 4 } (.int .i64 s.lvl)).heap.size (.slice A6' s.rmac.length c6') s.rmac := ((off5 HROW.out q6 (Nat.le_refl _)).kb kb5st).sl
      have k7 : SL (((((w7.setCell { block := w6.heap.size, off := 0 } (.slice A4' s.enc.length c4')).setCell { block := w6.heap.size, off := 1 } (.slice A5' s.mac.length c5')).setCell { block := w6.heap.size, off := 2 } (.slice A6' s.rmac.length c6')).setCell { block := w6.heap.size, off := 3 } (.slice A7' s.dat.length c7')).setCell { block := w6.heap.size, off := 4 } (.int .i64 s.lvl)) (((((w7.setCell { block := w6.heap.size, off := 0 } (.slice A4' s.enc.length c4')).setCell { block := w6.heap.size, off := 1 } (.slice A5' s.mac.length c5')).setCell { block := w6.heap.size, off := 2 } (.slice A6' s.rmac.length c6')).setCell { block := w6.heap.size, off := 3 } (.slice A7' s.dat.length c7')).setCell { block := w6.heap.size, off := 4 } (.int .i64 s.lvl)).heap.size (.slice A7' s.dat.length c7') s.dat := ((off5 HROW.out q7 (Nat.le_refl _)).kb kb5st).sl
      clear g0 g1 g2 g3 g4 f0 f1 f2 f3 f4
      generalize ((((w7.setCell { block := w6.heap.size, off := 0 } (.slice A4' s.enc.length c4')).setCell { block := w6.heap.size, off := 1 } (.slice A5' s.mac.length c5')).setCell { block := w6.heap.size, off := 2 } (.slice A6' s.rmac.length c6')).setCell { block := w6.heap.size, off := 3 } (.slice A7' s.dat.length c7')).setCell { block := w6.heap.size, off := 4 } (.int .i64 s.lvl) = WX at X r k4 k5 k6 k7 ⊢
      clear HROW
      generalize w6.heap.size = G at hg r ⊢
      clear hS6 q4 q5 q6 q7 z4_5 z4_6 z4_7 z5_6 z5_7 z6_7
      have HX := Lib.hid X
      have HK := Lib.hid (And.intro k4 (And.intro k5 (And.intro k6 k7)))
      have HG := Lib.hid hg
      obtain ⟨y0, y1, y2, y3, y4⟩ := row5 r
      have HY : Hid (∀ W2, Below WX.heap.size WX W2 → W2.cell? ⟨G, 0, none⟩ = some (.slice A4' s.enc.length c4') ∧ W2.cell? ⟨G, 1, none⟩ = some (.slice A5' s.mac.length c5') ∧ W2.cell? ⟨G, 2, none⟩ = some (.slice A6' s.rmac.length c6') ∧ W2.cell? ⟨G, 3, none⟩ = some (.slice A7' s.dat.length c7') ∧ W2.cell? ⟨G, 4, none⟩ = some (.int .i64 s.lvl)) := fun W2 hW => row5 ((hW.block _ (blk_lt r)).trans r)
      have hE : BP WX.heap.size WX WX := ⟨Below.refl _ _, Nat.le_refl _⟩
      have hS8 : True := trivial
      clear X k4 k5 k6 k7 hg r hB3 hd3 hT3 ht3 hB4 hT4 hB5 hT5 hB6 hT6 hB7 hT7 hb4 hb5 hb6 hb7 hv4 hv5 hv6 hv7 HB3 HT3 u0 u1 u2 u3 u4 hz3 HS HZ HB1 HN1 HV
      go_wp2_with fail
      go_region_held3 (fun W => W.cell? ⟨G, 0, none⟩ = some (.slice A4' s.enc.length c4') ∧ W.cell? ⟨G, 1, none⟩ = some (.slice A5' s.mac.length c5') ∧ W.cell? ⟨G, 2, none⟩ = some (.slice A6' s.rmac.length c6') ∧ W.cell? ⟨G, 3, none⟩ = some (.slice A7' s.dat.length c7') ∧ W.cell? ⟨G, 4, none⟩ = some (.int .i64 s.lvl)) (first | (with_reducible exact hS8) | (with_reducible exact HY.out _ hE.dr.b) | (with_reducible exact HY.out _ hE8.b) | (with_reducible exact HY.out _ (hE8.al _).b) | (go_keep; done)) (first | (go_at_call 23; (with_reducible refine (HCM.out _ HX.out.dr.b).mono ?_); rintro e w8 ⟨v8, rfl, hv8, hb8⟩; obtain ⟨A8', c8', rfl, -, -, -⟩ := id hv8; have hE8 := BP.on hE.dr hb8; have hS8 := HY.out _ hE8.b) | (go_at_call 23; (with_reducible refine (HCM.out _ HX.out.b).mono ?_); rintro e w8 ⟨v8, rfl, hv8, hb8⟩; obtain ⟨A8', c8', rfl, -, -, -⟩ := id hv8; have hE8 := BP.on hE hb8; have hS8 := HY.out _ hE8.b) | fail "none")
      go_wp2_with fail
      go_ret
      have hE9 : BP w.heap.size w w8 := ⟨HX.out.b.trans (hE8.b.mono HX.out.z), Nat.le_trans HX.out.z hE8.z⟩
      exact hP.out _ _ (hE9.al _).b hE9.z ⟨A4', A5', A6', A7', A8', c4', c5', c6', c7', c8', heap_alloc_new _ _, flA (HK.out.1.on hE8.b), flA (HK.out.2.1.on hE8.b), flA (HK.out.2.2.1.on hE8.b), flA (HK.out.2.2.2.on hE8.b), flA hv8⟩
    · have z4_5 : SL w5 w5.heap.size (.slice A4' s.enc.length c4') s.enc := by first | exact SL.on hv4 hb5 | exact onA hv4 hb5
      have z4_6 : SL w6 w6.heap.size (.slice A4' s.enc.length c4') s.enc := by first | exact SL.on z4_5 hb6 | exact onA z4_5 hb6
      have z4_7 : SL w7 w7.heap.size (.slice A4' s.enc.length c4') s.enc := by first | exact SL.on z4_6 hb7 | exact onA z4_6 hb7
      have q4 : SL w7 w7.heap.size (.slice A4' s.enc.length c4') s.enc := z4_7
      have z5_6 : SL w6 w6.heap.size (.slice A5' s.mac.length c5') s.mac := by first | exact SL.on hv5 hb6 | exact onA hv5 hb6
      have z5_7 : SL w7 w7.heap.size (.slice A5' s.mac.length c5') s.mac := by first | exact SL.on z5_6 hb7 | exact onA z5_6 hb7
      have q5 : SL w7 w7.heap.size (.slice A5' s.mac.length c5') s.mac := z5_7
      have z6_7 : SL w7 w7.heap.size (.slice A6' s.rmac.length c6') s.rmac := by first | exact SL.on hv6 hb7 | exact onA hv6 hb7
      have q6 : SL w7 w7.heap.size (.slice A6' s.rmac.length c6') s.rmac := z6_7
      have q7 : SL w7 w7.heap.size (.slice A7' s.dat.length c7') s.dat := hv7
      have hg : w.heap.size ≤ w5.heap.size := hB5.z
      have X : BP w.heap.size w (((((w7.setCell { block := w5.heap.size, off := 0 } (.slice A4' s.enc.length c4')).setCell { block := w5.heap.size, off := 1 } (.slice A5' s.mac.length c5')).setCell { block := w5.heap.size, off := 2 } (.slice A6' s.rmac.length c6')).setCell { block := w5.heap.size, off := 3 } (.slice A7' s.dat.length c7')).setCell { block := w5.heap.size, off := 4 } (.int .i64 s.lvl)) := hB7.st5 hg
      have r : (((((w7.setCell { block := w5.heap.size, off := 0 } (.slice A4' s.enc.length c4')).setCell { block := w5.heap.size, off := 1 } (.slice A5' s.mac.length c5')).setCell { block := w5.heap.size, off := 2 } (.slice A6' s.rmac.length c6')).setCell { block := w5.heap.size, off := 3 } (.slice A7' s.dat.length c7')).setCell { block := w5.heap.size, off := 4 } (.int .i64 s.lvl)).heap[w5.heap.size]? = some (Obj.cells #[.slice A4' s.enc.length c4', .slice A5' s.mac.length c5', .slice A6' s.rmac.length c6', .slice A7' s.dat.length c7', .int .i64 s.lvl] 24) := row5st HROW.out
      have k4 : SL (((((w7.setCell { block := w5.heap.size, off := 0 } (.slice A4' s.enc.length c4')).setCell { block := w5.heap.size, off := 1 } (.slice A5' s.mac.length c5')).setCell { block := w5.heap.size, off := 2 } (.slice A6' s.rmac.length c6')).setCell { block := w5.heap.size, off := 3 } (.slice A7' s.dat.length c7')).setCell { block := w5.heap.size, off := 4 } (.int .i64 s.lvl)) (((((w7.setCell { block := w5.heap.size, off := 0 } (.slice A4' s.enc.length c4')).setCell { block := w5.heap.size, off := 1 } (.slice A5' s.mac.length c5')).setCell { block := w5.heap.size, off := 2 } (.slice A6' s.rmac.length c6')).setCell { block := w5.heap.size, off := 3 } (.slice A7' s.dat.length c7')).setCell { block := w5.heap.size, off := 4 } (.int .i64 s.lvl)).heap.size (.slice A4' s.enc.length c4') s.enc := ((off5 HROW.out q4 (Nat.le_refl _)).kb kb5st).sl
      have k5 : SL (((((w7.setCell { block := w5.heap.size, off := 0 } (.slice A4' s.enc.length c4')).setCell { block := w5.heap.size, off := 1 } (.slice A5' s.mac.length c5')).setCell { block := w5.heap.size, off := 2 } (.slice A6' s.rmac.length c6')).setCell { block := w5.heap.size, off := 3 } (.slice A7' s.dat.length c7')).setCell { block := w5.heap.size, off := 4 } (.int .i64 s.lvl)) (((((w7.setCell { block := w5.heap.size, off := 0 } (.slice A4' s.enc.length c4')).setCell { block := w5.heap.size, off := 1 } (.slice A5' s.mac.length c5')).setCell { block := w5.heap.size, off := 2 } (.slice A6' s.rmac.length c6')).setCell { block := w5.heap.size, off := 3 } (.slice A7' s.dat.length c7')).setCell { block := w5.heap.size, off := 4 } (.int .i64 s.lvl)).heap.size (.slice A5' s.mac.length c5') s.mac := ((off5 HROW.out q5 (Nat.le_refl _)).kb kb5st).sl
      have k6 : SL (((((w7.setCell { block := w5.heap.size, off := 0 } (.slice A4' s.enc.length c4')).setCell { block := w5.heap.size, off := 1 } (.slice A5' s.mac.length c5')).setCell { block := w5.heap.size, off := 2 } (.slice A6' s.rmac.length c6')).setCell { block := w5.heap.size, off := 3 } (.slice A7' s.dat.length c7')).setCell { block := w5.heap.size, off := 4 } (.int .i64 s.lvl)) (((((w7.setCell { block := w5.heap.size, off := 0 } (.slice A4' s.enc.length c4')).setCell { block := w5.heap.size, off := 1 } (.slice A5' s.mac.length c5')).setCell { block := w5.heap.size, off := 2 } (.slice A6' s.rmac.length c6')).setCell { block := w5.heap.size, off := 3 } (.slice A7' s.dat.length c7')).setCell { block := w5.heap.size, off := 4 } (.int .i64 s.lvl)).heap.size (.slice A6' s.rmac.length c6') s.rmac := ((off5 HROW.out q6 (Nat.le_refl _)).kb kb5st).sl
      have k7 : SL (((((w7.setCell { block := w5.heap.size, off := 0 } (.slice A4' s.enc.length c4')).setCell { block := w5.heap.size, off := 1 } (.slice A5' s.mac.length c5')).setCell { block := w5.heap.size, off := 2 } (.slice A6' s.rmac.length c6')).setCell { block := w5.heap.size, off := 3 } (.slice A7' s.dat.length c7')).setCell { block := w5.heap.size, off := 4 } (.int .i64 s.lvl)) (((((w7.setCell { block := w5.heap.size, off := 0 } (.slice A4' s.enc.length c4')).setCell { block := w5.heap.size, off := 1 } (.slice A5' s.mac.length c5')).setCell { block := w5.heap.size, off := 2 } (.slice A6' s.rmac.length c6')).setCell { block := w5.heap.size, off := 3 } (.slice A7' s.dat.length c7')).setCell { block := w5.heap.size, off := 4 } (.int .i64 s.lvl)).heap.size (.slice A7' s.dat.length c7') s.dat := ((off5 HROW.out q7 (Nat.le_refl _)).kb kb5st).sl
      clear g0 g1 g2 g3 g4 f0 f1 f2 f3 f4
      generalize ((((w7.setCell { block := w5.heap.size, off := 0 } (.slice A4' s.enc.length c4')).setCell { block := w5.heap.size, off := 1 } (.slice A5' s.mac.length c5')).setCell { block := w5.heap.size, off := 2 } (.slice A6' s.rmac.length c6')).setCell { block := w5.heap.size, off := 3 } (.slice A7' s.dat.length c7')).setCell { block := w5.heap.size, off := 4 } (.int .i64 s.lvl) = WX at X r k4 k5 k6 k7 ⊢
      clear HROW
      generalize w5.heap.size = G at hg r ⊢
      clear hS6 q4 q5 q6 q7 z4_5 z4_6 z4_7 z5_6 z5_7 z6_7
      have HX := Lib.hid X
      have HK := Lib.hid (And.intro k4 (And.intro k5 (And.intro k6 k7)))
      have HG := Lib.hid hg
      obtain ⟨y0, y1, y2, y3, y4⟩ := row5 r
      have HY : Hid (∀ W2, Below WX.heap.size WX W2 → W2.cell? ⟨G, 0, none⟩ = some (.slice A4' s.enc.length c4') ∧ W2.cell? ⟨G, 1, none⟩ = some (.slice A5' s.mac.length c5') ∧ W2.cell? ⟨G, 2, none⟩ = some (.slice A6' s.rmac.length c6') ∧ W2.cell? ⟨G, 3, none⟩ = some (.slice A7' s.dat.length c7') ∧ W2.cell? ⟨G, 4, none⟩ = some (.int .i64 s.lvl)) := fun W2 hW => row5 ((hW.block _ (blk_lt r)).trans r)
      have hE : BP WX.heap.size WX WX := ⟨Below.refl _ _, Nat.le_refl _⟩
      have hS8 : True := trivial
      clear X k4 k5 k6 k7 hg r hB3 hd3 hT3 ht3 hB4 hT4 hB5 hT5 hB6 hT6 hB7 hT7 hb4 hb5 hb6 hb7 hv4 hv5 hv6 hv7 HB3 HT3 u0 u1 u2 u3 u4 hz3 HS HZ HB1 HN1 HV
      go_wp2_with fail
      go_region_held3 (fun W => W.cell? ⟨G, 0, none⟩ = some (.slice A4' s.enc.length c4') ∧ W.cell? ⟨G, 1, none⟩ = some (.slice A5' s.mac.length c5') ∧ W.cell? ⟨G, 2, none⟩ = some (.slice A6' s.rmac.length c6') ∧ W.cell? ⟨G, 3, none⟩ = some (.slice A7' s.dat.length c7') ∧ W.cell? ⟨G, 4, none⟩ = some (.int .i64 s.lvl)) (first | (with_reducible exact hS8) | (with_reducible exact HY.out _ hE.dr.b) | (with_reducible exact HY.out _ hE8.b) | (with_reducible exact HY.out _ (hE8.al _).b) | (go_keep; done)) (first | (go_at_call 23; (with_reducible refine (HCM.out _ HX.out.dr.b).mono ?_); rintro e w8 ⟨v8, rfl, hv8, hb8⟩; obtain ⟨A8', c8', rfl, -, -, -⟩ := id hv8; have hE8 := BP.on hE.dr hb8; have hS8 := HY.out _ hE8.b) | (go_at_call 23; (with_reducible refine (HCM.out _ HX.out.b).mono ?_); rintro e w8 ⟨v8, rfl, hv8, hb8⟩; obtain ⟨A8', c8', rfl, -, -, -⟩ := id hv8; have hE8 := BP.on hE hb8; have hS8 := HY.out _ hE8.b) | fail "none")
      go_wp2_with fail
      go_ret
      have hE9 : BP w.heap.size w w8 := ⟨HX.out.b.trans (hE8.b.mono HX.out.z), Nat.le_trans HX.out.z hE8.z⟩
      exact hP.out _ _ (hE9.al _).b hE9.z ⟨A4', A5', A6', A7', A8', c4', c5', c6', c7', c8', heap_alloc_new _ _, flA (HK.out.1.on hE8.b), flA (HK.out.2.1.on hE8.b), flA (HK.out.2.2.1.on hE8.b), flA (HK.out.2.2.2.on hE8.b), flA hv8⟩
    · have z4_5 : SL w5 w5.heap.size (.slice A4' s.enc.length c4') s.enc := by first | exact SL.on hv4 hb5 | exact onA hv4 hb5
      have z4_6 : SL w6 w6.heap.size (.slice A4' s.enc.length c4') s.enc := by first | exact SL.on z4_5 hb6 | exact onA z4_5 hb6
      have z4_7 : SL w7 w7.heap.size (.slice A4' s.enc.length c4') s.enc := by first | exact SL.on z4_6 hb7 | exact onA z4_6 hb7
      have q4 : SL w7 w7.heap.size (.slice A4' s.enc.length c4') s.enc := z4_7
      have z5_6 : SL w6 w6.heap.size (.slice A5' s.mac.length c5') s.mac := by first | exact SL.on hv5 hb6 | exact onA hv5 hb6
      have z5_7 : SL w7 w7.heap.size (.slice A5' s.mac.length c5') s.mac := by first | exact SL.on z5_6 hb7 | exact onA z5_6 hb7
      have q5 : SL w7 w7.heap.size (.slice A5' s.mac.length c5') s.mac := z5_7
      have z6_7 : SL w7 w7.heap.size (.slice A6' s.rmac.length c6') s.rmac := by first | exact SL.on hv6 hb7 | exact onA hv6 hb7
      have q6 : SL w7 w7.heap.size (.slice A6' s.rmac.length c6') s.rmac := z6_7
      have q7 : SL w7 w7.heap.size (.slice A7' s.dat.length c7') s.dat := hv7
      have hg : w.heap.size ≤ w4.heap.size := hB4.z
      have X : BP w.heap.size w (((((w7.setCell { block := w4.heap.size, off := 0 } (.slice A4' s.enc.length c4')).setCell { block := w4.heap.size, off := 1 } (.slice A5' s.mac.length c5')).setCell { block := w4.heap.size, off := 2 } (.slice A6' s.rmac.length c6')).setCell { block := w4.heap.size, off := 3 } (.slice A7' s.dat.length c7')).setCell { block := w4.heap.size, off := 4 } (.int .i64 s.lvl)) := hB7.st5 hg
      have r : (((((w7.setCell { block := w4.heap.size, off := 0 } (.slice A4' s.enc.length c4')).setCell { block := w4.heap.size, off := 1 } (.slice A5' s.mac.length c5')).setCell { block := w4.heap.size, off := 2 } (.slice A6' s.rmac.length c6')).setCell { block := w4.heap.size, off := 3 } (.slice A7' s.dat.length c7')).setCell { block := w4.heap.size, off := 4 } (.int .i64 s.lvl)).heap[w4.heap.size]? = some (Obj.cells #[.slice A4' s.enc.length c4', .slice A5' s.mac.length c5', .slice A6' s.rmac.length c6', .slice A7' s.dat.length c7', .int .i64 s.lvl] 24) := row5st HROW.out
      have k4 : SL (((((w7.setCell { block := w4.heap.size, off := 0 } (.slice A4' s.enc.length c4')).setCell { block := w4.heap.size, off := 1 } (.slice A5' s.mac.length c5')).setCell { block := w4.heap.size, off := 2 } (.slice A6' s.rmac.length c6')).setCell { block := w4.heap.size, off := 3 } (.slice A7' s.dat.length c7')).setCell { block := w4.heap.size, off := 4 } (.int .i64 s.lvl)) (((((w7.setCell { block := w4.heap.size, off := 0 } (.slice A4' s.enc.length c4')).setCell { block := w4.heap.size, off := 1 } (.slice A5' s.mac.length c5')).setCell { block := w4.heap.size, off := 2 } (.slice A6' s.rmac.length c6')).setCell { block := w4.heap.size, off := 3 } (.slice A7' s.dat.length c7')).setCell { block := w4.heap.size, off := 4 } (.int .i64 s.lvl)).heap.size (.slice A4' s.enc.length c4') s.enc := ((off5 HROW.out q4 (Nat.le_refl _)).kb kb5st).sl
      have k5 : SL (((((w7.setCell { block := w4.heap.size, off := 0 } (.slice A4' s.enc.length c4')).setCell { block := w4.heap.size, off := 1 } (.slice A5' s.mac.length c5')).setCell { block := w4.heap.size, off := 2 } (.slice A6' s.rmac.length c6')).setCell { block := w4.heap.size, off := 3 } (.slice A7' s.dat.length c7')).setCell { block := w4.heap.size, off := 4 } (.int .i64 s.lvl)) (((((w7.setCell { block := w4.heap.size, off := 0 } (.slice A4' s.enc.length c4')).setCell { block := w4.heap.size, off := 1 } (.slice A5' s.mac.length c5')).setCell { block := w4.heap.size, off := 2 } (.slice A6' s.rmac.length c6')).setCell { block := w4.heap.size, off := 3 } (.slice A7' s.dat.length c7')).setCell { block := w4.heap.size, off := 4 } (.int .i64 s.lvl)).heap.size (.slice A5' s.mac.length c5') s.mac := ((off5 HROW.out q5 (Nat.le_refl _)).kb kb5st).sl
      have k6 : SL (((((w7.setCell { block := w4.heap.size, off := 0 } (.slice A4' s.enc.length c4')).setCell { block := w4.heap.size, off := 1 } (.slice A5' s.mac.length c5')).setCell { block := w4.heap.size, off := 2 } (.slice A6' s.rmac.length c6')).setCell { block := w4.heap.size, off := 3 } (.slice A7' s.dat.length c7')).setCell { block := w4.heap.size, off := 4 } (.int .i64 s.lvl)) (((((w7.setCell { block := w4.heap.size, off := 0 } (.slice A4' s.enc.length c4')).setCell { block := w4.heap.size, off := 1 } (.slice A5' s.mac.length c5')).setCell { block := w4.heap.size, off := 2 } (.slice A6' s.rmac.length c6')).setCell { block := w4.heap.size, off := 3 } (.slice A7' s.dat.length c7')).setCell { block := w4.heap.size, off := 4 } (.int .i64 s.lvl)).heap.size (.slice A6' s.rmac.length c6') s.rmac := ((off5 HROW.out q6 (Nat.le_refl _)).kb kb5st).sl
      have k7 : SL (((((w7.setCell { block := w4.heap.size, off := 0 } (.slice A4' s.enc.length c4')).setCell { block := w4.heap.size, off := 1 } (.slice A5' s.mac.length c5')).setCell { block := w4.heap.size, off := 2 } (.slice A6' s.rmac.length c6')).setCell { block := w4.heap.size, off := 3 } (.slice A7' s.dat.length c7')).setCell { block := w4.heap.size, off := 4 } (.int .i64 s.lvl)) (((((w7.setCell { block := w4.heap.size, off := 0 } (.slice A4' s.enc.length c4')).setCell { block := w4.heap.size, off := 1 } (.slice A5' s.mac.length c5')).setCell { block := w4.heap.size, off := 2 } (.slice A6' s.rmac.length c6')).setCell { block := w4.heap.size, off := 3 } (.slice A7' s.dat.length c7')).setCell { block := w4.heap.size, off := 4 } (.int .i64 s.lvl)).heap.size (.slice A7' s.dat.length c7') s.dat := ((off5 HROW.out q7 (Nat.le_refl _)).kb kb5st).sl
      clear g0 g1 g2 g3 g4 f0 f1 f2 f3 f4
      generalize ((((w7.setCell { block := w4.heap.size, off := 0 } (.slice A4' s.enc.length c4')).setCell { block := w4.heap.size, off := 1 } (.slice A5' s.mac.length c5')).setCell { block := w4.heap.size, off := 2 } (.slice A6' s.rmac.length c6')).setCell { block := w4.heap.size, off := 3 } (.slice A7' s.dat.length c7')).setCell { block := w4.heap.size, off := 4 } (.int .i64 s.lvl) = WX at X r k4 k5 k6 k7 ⊢
      clear HROW
      generalize w4.heap.size = G at hg r ⊢
      clear hS6 q4 q5 q6 q7 z4_5 z4_6 z4_7 z5_6 z5_7 z6_7
      have HX := Lib.hid X
      have HK := Lib.hid (And.intro k4 (And.intro k5 (And.intro k6 k7)))
      have HG := Lib.hid hg
      obtain ⟨y0, y1, y2, y3, y4⟩ := row5 r
      have HY : Hid (∀ W2, Below WX.heap.size WX W2 → W2.cell? ⟨G, 0, none⟩ = some (.slice A4' s.enc.length c4') ∧ W2.cell? ⟨G, 1, none⟩ = some (.slice A5' s.mac.length c5') ∧ W2.cell? ⟨G, 2, none⟩ = some (.slice A6' s.rmac.length c6') ∧ W2.cell? ⟨G, 3, none⟩ = some (.slice A7' s.dat.length c7') ∧ W2.cell? ⟨G, 4, none⟩ = some (.int .i64 s.lvl)) := fun W2 hW => row5 ((hW.block _ (blk_lt r)).trans r)
      have hE : BP WX.heap.size WX WX := ⟨Below.refl _ _, Nat.le_refl _⟩
      have hS8 : True := trivial
      clear X k4 k5 k6 k7 hg r hB3 hd3 hT3 ht3 hB4 hT4 hB5 hT5 hB6 hT6 hB7 hT7 hb4 hb5 hb6 hb7 hv4 hv5 hv6 hv7 HB3 HT3 u0 u1 u2 u3 u4 hz3 HS HZ HB1 HN1 HV
      go_wp2_with fail
      go_region_held3 (fun W => W.cell? ⟨G, 0, none⟩ = some (.slice A4' s.enc.length c4') ∧ W.cell? ⟨G, 1, none⟩ = some (.slice A5' s.mac.length c5') ∧ W.cell? ⟨G, 2, none⟩ = some (.slice A6' s.rmac.length c6') ∧ W.cell? ⟨G, 3, none⟩ = some (.slice A7' s.dat.length c7') ∧ W.cell? ⟨G, 4, none⟩ = some (.int .i64 s.lvl)) (first | (with_reducible exact hS8) | (with_reducible exact HY.out _ hE.dr.b) | (with_reducible exact HY.out _ hE8.b) | (with_reducible exact HY.out _ (hE8.al _).b) | (go_keep; done)) (first | (go_at_call 23; (with_reducible refine (HCM.out _ HX.out.dr.b).mono ?_); rintro e w8 ⟨v8, rfl, hv8, hb8⟩; obtain ⟨A8', c8', rfl, -, -, -⟩ := id hv8; have hE8 := BP.on hE.dr hb8; have hS8 := HY.out _ hE8.b) | (go_at_call 23; (with_reducible refine (HCM.out _ HX.out.b).mono ?_); rintro e w8 ⟨v8, rfl, hv8, hb8⟩; obtain ⟨A8', c8', rfl, -, -, -⟩ := id hv8; have hE8 := BP.on hE hb8; have hS8 := HY.out _ hE8.b) | fail "none")
      go_wp2_with fail
      go_ret
      have hE9 : BP w.heap.size w w8 := ⟨HX.out.b.trans (hE8.b.mono HX.out.z), Nat.le_trans HX.out.z hE8.z⟩
      exact hP.out _ _ (hE9.al _).b hE9.z ⟨A4', A5', A6', A7', A8', c4', c5', c6', c7', c8', heap_alloc_new _ _, flA (HK.out.1.on hE8.b), flA (HK.out.2.1.on hE8.b), flA (HK.out.2.2.1.on hE8.b), flA (HK.out.2.2.2.on hE8.b), flA hv8⟩
    · have z4_5 : SL w5 w5.heap.size (.slice A4' s.enc.length c4') s.enc := by first | exact SL.on hv4 hb5 | exact onA hv4 hb5
      have z4_6 : SL w6 w6.heap.size (.slice A4' s.enc.length c4') s.enc := by first | exact SL.on z4_5 hb6 | exact onA z4_5 hb6
      have z4_7 : SL w7 w7.heap.size (.slice A4' s.enc.length c4') s.enc := by first | exact SL.on z4_6 hb7 | exact onA z4_6 hb7
      have q4 : SL w7 w7.heap.size (.slice A4' s.enc.length c4') s.enc := z4_7
      have z5_6 : SL w6 w6.heap.size (.slice A5' s.mac.length c5') s.mac := by first | exact SL.on hv5 hb6 | exact onA hv5 hb6
      have z5_7 : SL w7 w7.heap.size (.slice A5' s.mac.length c5') s.mac := by first | exact SL.on z5_6 hb7 | exact onA z5_6 hb7
      have q5 : SL w7 w7.heap.size (.slice A5' s.mac.length c5') s.mac := z5_7
      have z6_7 : SL w7 w7.heap.size (.slice A6' s.rmac.length c6') s.rmac := by first | exact SL.on hv6 hb7 | exact onA hv6 hb7
      have q6 : SL w7 w7.heap.size (.slice A6' s.rmac.length c6') s.rmac := z6_7
      have q7 : SL w7 w7.heap.size (.slice A7' s.dat.length c7') s.dat := hv7
      have hg : w.heap.size ≤ w3.heap.size := hB3.z
      have X : BP w.heap.size w (((((w7.setCell { block := w3.heap.size, off := 0 } (.slice A4' s.enc.length c4')).setCell { block := w3.heap.size, off := 1 } (.slice A5' s.mac.length c5')).setCell { block := w3.heap.size, off := 2 } (.slice A6' s.rmac.length c6')).setCell { block := w3.heap.size, off := 3 } (.slice A7' s.dat.length c7')).setCell { block := w3.heap.size, off := 4 } (.int .i64 s.lvl)) := hB7.st5 hg
      have r : (((((w7.setCell { block := w3.heap.size, off := 0 } (.slice A4' s.enc.length c4')).setCell { block := w3.heap.size, off := 1 } (.slice A5' s.mac.length c5')).setCell { block := w3.heap.size, off := 2 } (.slice A6' s.rmac.length c6')).setCell { block := w3.heap.size, off := 3 } (.slice A7' s.dat.length c7')).setCell { block := w3.heap.size, off := 4 } (.int .i64 s.lvl)).heap[w3.heap.size]? = some (Obj.cells #[.slice A4' s.enc.length c4', .slice A5' s.mac.length c5', .slice A6' s.rmac.length c6', .slice A7' s.dat.length c7', .int .i64 s.lvl] 24) := row5st HROW.out
      have k4 : SL (((((w7.setCell { block := w3.heap.size, off := 0 } (.slice A4' s.enc.length c4')).setCell { block := w3.heap.size, off := 1 } (.slice A5' s.mac.length c5')).setCell { block := w3.heap.size, off := 2 } (.slice A6' s.rmac.length c6')).setCell { block := w3.heap.size, off := 3 } (.slice A7' s.dat.length c7')).setCell { block := w3.heap.size, off := 4 } (.int .i64 s.lvl)) (((((w7.setCell { block := w3.heap.size, off := 0 } (.slice A4' s.enc.length c4')).setCell { block := w3.heap.size, off := 1 } (.slice A5' s.mac.length c5')).setCell { block := w3.heap.size, off := 2 } (.slice A6' s.rmac.length c6')).setCell { block := w3.heap.size, off := 3 } (.slice A7' s.dat.length c7')).setCell { block := w3.heap.size, off := 4 } (.int .i64 s.lvl)).heap.size (.slice A4' s.enc.length c4') s.enc := ((off5 HROW.out q4 (Nat.le_refl _)).kb kb5st).sl
      have k5 : SL (((((w7.setCell { block := w3.heap.size, off := 0 } (.slice A4' s.enc.length c4')).setCell { block := w3.heap.size, off := 1 } (.slice A5' s.mac.length c5')).setCell { block := w3.heap.size, off := 2 } (.slice A6' s.rmac.length c6')).setCell { block := w3.heap.size, off := 3 } (.slice A7' s.dat.length c7')).setCell { block := w3.heap.size, off := 4 } (.int .i64 s.lvl)) (((((w7.setCell { block := w3.heap.size, off := 0 } (.slice A4' s.enc.length c4')).setCell { block := w3.heap.size, off := 1 } (.slice A5' s.mac.length c5')).setCell { block := w3.heap.size, off := 2 } (.slice A6' s.rmac.length c6')).setCell { block := w3.heap.size, off := 3 } (.slice A7' s.dat.length c7')).setCell { block := w3.heap.size, off := 4 } (.int .i64 s.lvl)).heap.size (.slice A5' s.mac.length c5') s.mac := ((off5 HROW.out q5 (Nat.le_refl _)).kb kb5st).sl
      have k6 : SL (((((w7.setCell { block := w3.heap.size, off := 0 } (.slice A4' s.enc.length c4')).setCell { block := w3.heap.size, off := 1 } (.slice A5' s.mac.length c5')).setCell { block := w3.heap.size, off := 2 } (.slice A6' s.rmac.length c6')).setCell { block := w3.heap.size, off := 3 } (.slice A7' s.dat.length c7')).setCell { block := w3.heap.size, off := 4 } (.int .i64 s.lvl)) (((((w7.setCell { block := w3.heap.size, off := 0 } (.slice A4' s.enc.length c4')).setCell { block := w3.heap.size, off := 1 } (.slice A5' s.mac.length c5')).setCell { block := w3.heap.size, off := 2 } (.slice A6' s.rmac.length c6')).setCell { block := w3.heap.size, off := 3 } (.slice A7' s.dat.length c7')).setCell { block := w3.heap.size, off := 4 } (.int .i64 s.lvl)).heap.size (.slice A6' s.rmac.length c6') s.rmac := ((off5 HROW.out q6 (Nat.le_refl _)).kb kb5st).sl
      have k7 : SL (((((w7.setCell { block := w3.heap.size, off := 0 } (.slice A4' s.enc.length c4')).setCell { block := w3.heap.size, off := 1 } (.slice A5' s.mac.length c5')).setCell { block := w3.heap.size, off := 2 } (.slice A6' s.rmac.length c6')).setCell { block := w3.heap.size, off := 3 } (.slice A7' s.dat.length c7')).setCell { block := w3.heap.size, off := 4 } (.int .i64 s.lvl)) (((((w7.setCell { block := w3.heap.size, off := 0 } (.slice A4' s.enc.length c4')).setCell { block := w3.heap.size, off := 1 } (.slice A5' s.mac.length c5')).setCell { block := w3.heap.size, off := 2 } (.slice A6' s.rmac.length c6')).setCell { block := w3.heap.size, off := 3 } (.slice A7' s.dat.length c7')).setCell { block := w3.heap.size, off := 4 } (.int .i64 s.lvl)).heap.size (.slice A7' s.dat.length c7') s.dat := ((off5 HROW.out q7 (Nat.le_refl _)).kb kb5st).sl
      clear g0 g1 g2 g3 g4 f0 f1 f2 f3 f4
      generalize ((((w7.setCell { block := w3.heap.size, off := 0 } (.slice A4' s.enc.length c4')).setCell { block := w3.heap.size, off := 1 } (.slice A5' s.mac.length c5')).setCell { block := w3.heap.size, off := 2 } (.slice A6' s.rmac.length c6')).setCell { block := w3.heap.size, off := 3 } (.slice A7' s.dat.length c7')).setCell { block := w3.heap.size, off := 4 } (.int .i64 s.lvl) = WX at X r k4 k5 k6 k7 ⊢
      clear HROW
      generalize w3.heap.size = G at hg r ⊢
      clear hS6 q4 q5 q6 q7 z4_5 z4_6 z4_7 z5_6 z5_7 z6_7
      have HX := Lib.hid X
      have HK := Lib.hid (And.intro k4 (And.intro k5 (And.intro k6 k7)))
      have HG := Lib.hid hg
      obtain ⟨y0, y1, y2, y3, y4⟩ := row5 r
      have HY : Hid (∀ W2, Below WX.heap.size WX W2 → W2.cell? ⟨G, 0, none⟩ = some (.slice A4' s.enc.length c4') ∧ W2.cell? ⟨G, 1, none⟩ = some (.slice A5' s.mac.length c5') ∧ W2.cell? ⟨G, 2, none⟩ = some (.slice A6' s.rmac.length c6') ∧ W2.cell? ⟨G, 3, none⟩ = some (.slice A7' s.dat.length c7') ∧ W2.cell? ⟨G, 4, none⟩ = some (.int .i64 s.lvl)) := fun W2 hW => row5 ((hW.block _ (blk_lt r)).trans r)
      have hE : BP WX.heap.size WX WX := ⟨Below.refl _ _, Nat.le_refl _⟩
      have hS8 : True := trivial
      clear X k4 k5 k6 k7 hg r hB3 hd3 hT3 ht3 hB4 hT4 hB5 hT5 hB6 hT6 hB7 hT7 hb4 hb5 hb6 hb7 hv4 hv5 hv6 hv7 HB3 HT3 u0 u1 u2 u3 u4 hz3 HS HZ HB1 HN1 HV
      go_wp2_with fail
      go_region_held3 (fun W => W.cell? ⟨G, 0, none⟩ = some (.slice A4' s.enc.length c4') ∧ W.cell? ⟨G, 1, none⟩ = some (.slice A5' s.mac.length c5') ∧ W.cell? ⟨G, 2, none⟩ = some (.slice A6' s.rmac.length c6') ∧ W.cell? ⟨G, 3, none⟩ = some (.slice A7' s.dat.length c7') ∧ W.cell? ⟨G, 4, none⟩ = some (.int .i64 s.lvl)) (first | (with_reducible exact hS8) | (with_reducible exact HY.out _ hE.dr.b) | (with_reducible exact HY.out _ hE8.b) | (with_reducible exact HY.out _ (hE8.al _).b) | (go_keep; done)) (first | (go_at_call 23; (with_reducible refine (HCM.out _ HX.out.dr.b).mono ?_); rintro e w8 ⟨v8, rfl, hv8, hb8⟩; obtain ⟨A8', c8', rfl, -, -, -⟩ := id hv8; have hE8 := BP.on hE.dr hb8; have hS8 := HY.out _ hE8.b) | (go_at_call 23; (with_reducible refine (HCM.out _ HX.out.b).mono ?_); rintro e w8 ⟨v8, rfl, hv8, hb8⟩; obtain ⟨A8', c8', rfl, -, -, -⟩ := id hv8; have hE8 := BP.on hE hb8; have hS8 := HY.out _ hE8.b) | fail "none")
      go_wp2_with fail
      go_ret
      have hE9 : BP w.heap.size w w8 := ⟨HX.out.b.trans (hE8.b.mono HX.out.z), Nat.le_trans HX.out.z hE8.z⟩
      exact hP.out _ _ (hE9.al _).b hE9.z ⟨A4', A5', A6', A7', A8', c4', c5', c6', c7', c8', heap_alloc_new _ _, flA (HK.out.1.on hE8.b), flA (HK.out.2.1.on hE8.b), flA (HK.out.2.2.1.on hE8.b), flA (HK.out.2.2.2.on hE8.b), flA hv8⟩
end Go.Proofs.YtdalcldilmmgmaaDoor
