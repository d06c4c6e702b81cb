/-
  The walk of wrap where it ends early.
  The walk of wrap without a MAC.
  The walk of wrap with a MAC.
  The walk of Wrap where wrap gives a command.
  The walk of Wrap where wrap gives an error.
-/
import Derived.Test.YtdalcldilmmgmaaDoorChu
namespace Go.Proofs.YtdalcldilmmgmaaDoor
set_option linter.unusedVariables false
set_option linter.unusedSimpArgs false
open Go.RowKit


theorem row7st {W : World} {b : Nat} {x0 x1 x2 x3 x4 x5 x6 : Value} {t : TypeId} (h : W.heap[b]? = some (.cells #[x0, x1, x2, x3, x4, x5, x6] t (0, 0))) (y0 y1 y2 y3 y4 y5 y6 : Value) :
    (((((((W.setCell ⟨b, 0, none⟩ y0).setCell ⟨b, 1, none⟩ y1).setCell ⟨b, 2, none⟩ y2).setCell ⟨b, 3, none⟩ y3).setCell ⟨b, 4, none⟩ y4).setCell ⟨b, 5, none⟩ y5).setCell ⟨b, 6, none⟩ y6).heap[b]? = some (.cells #[y0, y1, y2, y3, y4, y5, y6] t (0, 0)) := by
  have h0 : (W.setCell ⟨b, 0, none⟩ y0).heap[b]? = some (.cells #[y0, x1, x2, x3, x4, x5, x6] t (0, 0)) := heap_setCell_same _ b 0 _ _ y0 h
  have h1 : ((W.setCell ⟨b, 0, none⟩ y0).setCell ⟨b, 1, none⟩ y1).heap[b]? = some (.cells #[y0, y1, x2, x3, x4, x5, x6] t (0, 0)) := heap_setCell_same _ b 1 _ _ y1 h0
  have h2 : (((W.setCell ⟨b, 0, none⟩ y0).setCell ⟨b, 1, none⟩ y1).setCell ⟨b, 2, none⟩ y2).heap[b]? = some (.cells #[y0, y1, y2, x3, x4, x5, x6] t (0, 0)) := heap_setCell_same _ b 2 _ _ y2 h1
  have h3 : ((((W.setCell ⟨b, 0, none⟩ y0).setCell ⟨b, 1, none⟩ y1).setCell ⟨b, 2, none⟩ y2).setCell ⟨b, 3, none⟩ y3).heap[b]? = some (.cells #[y0, y1, y2, y3, x4, x5, x6] t (0, 0)) := heap_setCell_same _ b 3 _ _ y3 h2
  have h4 : (((((W.setCell ⟨b, 0, none⟩ y0).setCell ⟨b, 1, none⟩ y1).setCell ⟨b, 2, none⟩ y2).setCell ⟨b, 3, none⟩ y3).setCell ⟨b, 4, none⟩ y4).heap[b]? = some (.cells #[y0, y1, y2, y3, y4, x5, x6] t (0, 0)) := heap_setCell_same _ b 4 _ _ y4 h3
  have h5 : ((((((W.setCell ⟨b, 0, none⟩ y0).setCell ⟨b, 1, none⟩ y1).setCell ⟨b, 2, none⟩ y2).setCell ⟨b, 3, none⟩ y3).setCell ⟨b, 4, none⟩ y4).setCell ⟨b, 5, none⟩ y5).heap[b]? = some (.cells #[y0, y1, y2, y3, y4, y5, x6] t (0, 0)) := heap_setCell_same _ b 5 _ _ y5 h4
  have h6 : (((((((W.setCell ⟨b, 0, none⟩ y0).setCell ⟨b, 1, none⟩ y1).setCell ⟨b, 2, none⟩ y2).setCell ⟨b, 3, none⟩ y3).setCell ⟨b, 4, none⟩ y4).setCell ⟨b, 5, none⟩ y5).setCell ⟨b, 6, none⟩ y6).heap[b]? = some (.cells #[y0, y1, y2, y3, y4, y5, y6] t (0, 0)) := heap_setCell_same _ b 6 _ _ y6 h5
  exact h6
theorem BP.st7 {B : Nat} {w W : World} (h : BP B w W) {b : Nat} (hb : B ≤ b) (y0 y1 y2 y3 y4 y5 y6 : Value) : BP B w (((((((W.setCell ⟨b, 0, none⟩ y0).setCell ⟨b, 1, none⟩ y1).setCell ⟨b, 2, none⟩ y2).setCell ⟨b, 3, none⟩ y3).setCell ⟨b, 4, none⟩ y4).setCell ⟨b, 5, none⟩ y5).setCell ⟨b, 6, none⟩ y6) := by
  have h0 := h.st hb 0 y0
  have h1 := h0.st hb 1 y1
  have h2 := h1.st hb 2 y2
  have h3 := h2.st hb 3 y3
  have h4 := h3.st hb 4 y4
  have h5 := h4.st hb 5 y5
  have h6 := h5.st hb 6 y6
  exact h6
/-- Why wrap gives no command (short data). -/
def wrE (s : Ch) (x : Cm) : Int := if clE s x ≠ 0 then clE s x else if (clsK x.cla).sec = true then 4 else 0
theorem wrE_cl {s : Ch} {x : Cm} (h : clE s x ≠ 0) : wrE s x = clE s x := by rw [wrE, if_pos h]
theorem wrE_sec {s : Ch} {x : Cm} (h : clE s x = 0) (hs : (clsK x.cla).sec = true) : wrE s x = 4 := by rw [wrE, if_neg (by rw [h]; simp), if_pos hs]
/-- The command of zeros. -/
def Cm.zero : Cm := ⟨0, 0, 0, 0, [], 0, false⟩
set_option maxRecDepth 100000 in
set_option maxHeartbeats 1600000 in
theorem pwrap_bad (g : Nat) (s : Ch) (x : Cm) (A : Option Addr) (k : Nat) (w : World) (h : CH w g s) (hle : -9223372036854775808 ≤ x.le ∧ x.le ≤ 9223372036854775807) (hE : wrE s x ≠ 0) :
    Calls Tryd.prog 26 #[.pointer (some ⟨g, 0, none⟩), x.val (.slice A x.data.length k)] w fun e w' => e = .returned (.tuple #[Cm.zero.val (.slice none 0 0), errV (wrE s x)]) ∧ Below w.heap.size w w' := by
  have hc := fun W (hW : Below w.heap.size w W) => pclass_any g s x A x.data.length k W (h.below hW) rfl hle
  obtain ⟨R, hR⟩ : ∃ R, R = clE s x := ⟨_, rfl⟩
  by_cases h0 : clE s x = 0
  · have hs : (clsK x.cla).sec = true := by
      by_cases hq : (clsK x.cla).sec = true
      · exact hq
      · exact absurd (by rw [wrE, if_neg (by rw [h0]; simp), if_neg hq]) hE
    have HV : Hid (wrE s x = 4) := wrE_sec h0 hs
    have hk : clK s x = clsK x.cla := by rw [clK, if_pos h0]
    have he : erV (clE s x) = .nilIface := by rw [h0]; rfl
    rw [hk, he] at hc
    obtain ⟨V, hV⟩ : ∃ V, V = errV (wrE s x) := ⟨_, rfl⟩
    rw [← hV]
    rw [HV.out] at hV
    obtain ⟨cla, ins, p1, p2, data, le, long⟩ := x
    simp only [Cm.val] at *
    generalize clsK cla = K at *
    obtain ⟨kc, ks, kn, kp⟩ := K
    simp only at hs
    subst hs
    simp only [Kl.val] at hc
    have HVV := Lib.hid hV
    have hb := alloc2_below w (Obj.cells #[.int .i64 cla, .int .i64 ins, .int .i64 p1, .int .i64 p2, .slice A data.length k, .int .i64 le, .bool long] 30) (Obj.cells #[.int .i64 0, .int .i64 0, .int .i64 0, .int .i64 0, .slice none 0 0, .int .i64 0, .bool false] 30)
    have HC := Lib.hid (hc _ hb)
    have HB := Lib.hid hb
    have HN2 := Lib.hid (heap2_new w (Obj.cells #[.int .i64 cla, .int .i64 ins, .int .i64 p1, .int .i64 p2, .slice A data.length k, .int .i64 le, .bool long] 30) (Obj.cells #[.int .i64 0, .int .i64 0, .int .i64 0, .int .i64 0, .slice none 0 0, .int .i64 0, .bool false] 30))
    have HZ : Hid (((w.alloc (Obj.cells #[.int .i64 cla, .int .i64 ins, .int .i64 p1, .int .i64 p2, .slice A data.length k, .int .i64 le, .bool long] 30)).alloc (Obj.cells #[.int .i64 0, .int .i64 0, .int .i64 0, .int .i64 0, .slice none 0 0, .int .i64 0, .bool false] 30)).heap.size = w.heap.size + 2) := by show _ = _; rw [alloc_size, alloc_size]
    clear h hc hb hle hE hR h0 hk he HV hV
    go_enter Tryd.func26, Tryd.ntmps26
    go_wp2_with fail
    refine HC.out.mono ?_
    rintro e w3 ⟨rfl, hb3⟩
    have hn3 := (hb3.block _ (blk_lt HN2.out)).trans HN2.out
    have hz3 := hb3.size
    rw [HZ.out] at hz3
    have HP3 : Hid (BP w.heap.size w w3) := ⟨HB.out.trans (hb3.mono HB.out.size), by omega⟩
    have HN3 := Lib.hid hn3
    have HF : Hid (∀ o : Obj, ∀ y0 y1 y2 y3 y4 y5 y6, BP w.heap.size w ((((((((w3.alloc o).setCell ⟨w.heap.size + 1, 0, none⟩ y0).setCell ⟨w.heap.size + 1, 1, none⟩ y1).setCell ⟨w.heap.size + 1, 2, none⟩ y2).setCell ⟨w.heap.size + 1, 3, none⟩ y3).setCell ⟨w.heap.size + 1, 4, none⟩ y4).setCell ⟨w.heap.size + 1, 5, none⟩ y5).setCell ⟨w.heap.size + 1, 6, none⟩ y6) ∧ ((((((((w3.alloc o).setCell ⟨w.heap.size + 1, 0, none⟩ y0).setCell ⟨w.heap.size + 1, 1, none⟩ y1).setCell ⟨w.heap.size + 1, 2, none⟩ y2).setCell ⟨w.heap.size + 1, 3, none⟩ y3).setCell ⟨w.heap.size + 1, 4, none⟩ y4).setCell ⟨w.heap.size + 1, 5, none⟩ y5).setCell ⟨w.heap.size + 1, 6, none⟩ y6).heap[w.heap.size + 1]? = some (.cells #[y0, y1, y2, y3, y4, y5, y6] 30 (0, 0))) := fun o y0 y1 y2 y3 y4 y5 y6 =>
      ⟨(HP3.out.al o).st7 (Nat.le_succ _) .., row7st (((alloc_below w3 o).block _ (blk_lt HN3.out)).trans HN3.out) ..⟩
    have hn4 := ((alloc_below w3 (Obj.cells #[.int .i64 kc, .bool true, .bool kn, .bool kp] 77)).block _ (blk_lt hn3)).trans hn3
    have r0 := cell_of_row _ _ 0 _ _ _ hn4
    have r1 := cell_of_row _ _ 1 _ _ _ hn4
    have r2 := cell_of_row _ _ 2 _ _ _ hn4
    have r3 := cell_of_row _ _ 3 _ _ _ hn4
    have r4 := cell_of_row _ _ 4 _ _ _ hn4
    have r5 := cell_of_row _ _ 5 _ _ _ hn4
    have r6 := cell_of_row _ _ 6 _ _ _ hn4
    have f0 := frozen_of_row _ _ 0 _ _ hn4
    have f1 := frozen_of_row _ _ 1 _ _ hn4
    have f2 := frozen_of_row _ _ 2 _ _ hn4
    have f3 := frozen_of_row _ _ 3 _ _ hn4
    have f4 := frozen_of_row _ _ 4 _ _ hn4
    have f5 := frozen_of_row _ _ 5 _ _ hn4
    have f6 := frozen_of_row _ _ 6 _ _ hn4
    have hx1 : w.heap.size + 1 ≠ w3.heap.size := by omega
    have hx2 : w3.heap.size ≠ w.heap.size + 1 := by omega
    clear hb3 hn3 hn4 hz3
    go_wp2_with fail
    exact bodyPost_ret (results_cell2 rfl _ _ (w.heap.size + 1) 30 #[.int .i64 0, .int .i64 0, .int .i64 0, .int .i64 0, .slice none 0 0, .int .i64 0, .bool false] (0, 0) _ rfl (HF.out _ _ _ _ _ _ _ _).2 Tryd.underlying30 rfl (by kernel_rfl)) rfl ⟨by rw [HVV.out]; rfl, (HF.out _ _ _ _ _ _ _ _).1.b⟩
  · have HV : Hid (wrE s x = clE s x) := wrE_cl h0
    have hk : clK s x = ⟨0, false, false, false⟩ := by rw [clK, if_neg h0]
    have he : erV (clE s x) = errV (clE s x) := by rw [erV, if_neg h0]
    rw [hk, he] at hc
    obtain ⟨V, hV⟩ : ∃ V, V = errV (wrE s x) := ⟨_, rfl⟩
    rw [← hV]
    rw [HV.out] at hV
    generalize clE s x = R2 at *
    obtain ⟨cla, ins, p1, p2, data, le, long⟩ := x
    simp only [Cm.val] at *
    simp only [Kl.val] at hc
    have HVV := Lib.hid hV
    unfold errV at hc
    have hb := alloc2_below w (Obj.cells #[.int .i64 cla, .int .i64 ins, .int .i64 p1, .int .i64 p2, .slice A data.length k, .int .i64 le, .bool long] 30) (Obj.cells #[.int .i64 0, .int .i64 0, .int .i64 0, .int .i64 0, .slice none 0 0, .int .i64 0, .bool false] 30)
    have HC := Lib.hid (hc _ hb)
    have HB := Lib.hid hb
    have HN2 := Lib.hid (heap2_new w (Obj.cells #[.int .i64 cla, .int .i64 ins, .int .i64 p1, .int .i64 p2, .slice A data.length k, .int .i64 le, .bool long] 30) (Obj.cells #[.int .i64 0, .int .i64 0, .int .i64 0, .int .i64 0, .slice none 0 0, .int .i64 0, .bool false] 30))
    have HZ : Hid (((w.alloc (Obj.cells #[.int .i64 cla, .int .i64 ins, .int .i64 p1, .int .i64 p2, .slice A data.length k, .int .i64 le, .bool long] 30)).alloc (Obj.cells #[.int .i64 0, .int .i64 0, .int .i64 0, .int .i64 0, .slice none 0 0, .int .i64 0, .bool false] 30)).heap.size = w.heap.size + 2) := by show _ = _; rw [alloc_size, alloc_size]
    clear h hc hb hle hE hR h0 hk he HV hV
    go_enter Tryd.func26, Tryd.ntmps26
    go_wp2_with fail
    refine HC.out.mono ?_
    rintro e w3 ⟨rfl, hb3⟩
    have hn3 := (hb3.block _ (blk_lt HN2.out)).trans HN2.out
    have hz3 := hb3.size
    rw [HZ.out] at hz3
    have HP3 : Hid (BP w.heap.size w w3) := ⟨HB.out.trans (hb3.mono HB.out.size), by omega⟩
    have HN3 := Lib.hid hn3
    have HF : Hid (∀ o : Obj, ∀ y0 y1 y2 y3 y4 y5 y6, BP w.heap.size w ((((((((w3.alloc o).setCell ⟨w.heap.size + 1, 0, none⟩ y0).setCell ⟨w.heap.size + 1, 1, none⟩ y1).setCell ⟨w.heap.size + 1, 2, none⟩ y2).setCell ⟨w.heap.size + 1, 3, none⟩ y3).setCell ⟨w.heap.size + 1, 4, none⟩ y4).setCell ⟨w.heap.size + 1, 5, none⟩ y5).setCell ⟨w.heap.size + 1, 6, none⟩ y6) ∧ ((((((((w3.alloc o).setCell ⟨w.heap.size + 1, 0, none⟩ y0).setCell ⟨w.heap.size + 1, 1, none⟩ y1).setCell ⟨w.heap.size + 1, 2, none⟩ y2).setCell ⟨w.heap.size + 1, 3, none⟩ y3).setCell ⟨w.heap.size + 1, 4, none⟩ y4).setCell ⟨w.heap.size + 1, 5, none⟩ y5).setCell ⟨w.heap.size + 1, 6, none⟩ y6).heap[w.heap.size + 1]? = some (.cells #[y0, y1, y2, y3, y4, y5, y6] 30 (0, 0))) := fun o y0 y1 y2 y3 y4 y5 y6 =>
      ⟨(HP3.out.al o).st7 (Nat.le_succ _) .., row7st (((alloc_below w3 o).block _ (blk_lt HN3.out)).trans HN3.out) ..⟩
    have hn4 := ((alloc_below w3 (Obj.cells #[.int .i64 0, .bool false, .bool false, .bool false] 77)).block _ (blk_lt hn3)).trans hn3
    have r0 := cell_of_row _ _ 0 _ _ _ hn4
    have r1 := cell_of_row _ _ 1 _ _ _ hn4
    have r2 := cell_of_row _ _ 2 _ _ _ hn4
    have r3 := cell_of_row _ _ 3 _ _ _ hn4
    have r4 := cell_of_row _ _ 4 _ _ _ hn4
    have r5 := cell_of_row _ _ 5 _ _ _ hn4
    have r6 := cell_of_row _ _ 6 _ _ _ hn4
    have f0 := frozen_of_row _ _ 0 _ _ hn4
    have f1 := frozen_of_row _ _ 1 _ _ hn4
    have f2 := frozen_of_row _ _ 2 _ _ hn4
    have f3 := frozen_of_row _ _ 3 _ _ hn4
    have f4 := frozen_of_row _ _ 4 _ _ hn4
    have f5 := frozen_of_row _ _ 5 _ _ hn4
    have f6 := frozen_of_row _ _ 6 _ _ hn4
    have hx1 : w.heap.size + 1 ≠ w3.heap.size := by omega
    have hx2 : w3.heap.size ≠ w.heap.size + 1 := by omega
    clear hb3 hn3 hn4 hz3
    go_wp2_with fail
    exact bodyPost_ret (results_cell2 rfl _ _ (w.heap.size + 1) 30 #[.int .i64 0, .int .i64 0, .int .i64 0, .int .i64 0, .slice none 0 0, .int .i64 0, .bool false] (0, 0) _ rfl (HF.out _ _ _ _ _ _ _ _).2 Tryd.underlying30 rfl (by kernel_rfl)) rfl ⟨by rw [HVV.out]; rfl, (HF.out _ _ _ _ _ _ _ _).1.b⟩



/-- A byte slice never lies in a row without bytes. -/
theorem offC {w : World} {g B : Nat} {v : Value} {l : List UInt8} {cs : Array Value} {t : TypeId} (hr : w.heap[g]? = some (.cells cs t (0, 0))) (hcs : ∀ (j : Nat) (z : Int), cs[j]? ≠ some (.int .u8 z)) (hv : SL w B v l) (hB : B ≤ w.heap.size) : FL g w v l := by
  obtain ⟨A, c, hv, k1, k2, k3⟩ := hv
  refine ⟨A, c, hv, k1, k2, fun hp => ?_⟩
  obtain ⟨b, o, hA, hb, hc⟩ := k3 hp
  refine ⟨b, o, hA, fun e => ?_, by omega, hc⟩
  subst e
  have h0 := hc 0 hp
  rw [cell_of_row _ _ _ _ _ _ hr] at h0
  exact hcs _ _ h0
theorem cm_cells (a b c d : Int) (v : Option Addr) (n k : Nat) (e : Int) (f : Bool) : ∀ (j : Nat) (z : Int), (#[Value.int .i64 a, .int .i64 b, .int .i64 c, .int .i64 d, .slice v n k, .int .i64 e, .bool f] : Array Value)[j]? ≠ some (.int .u8 z) := by
  intro j z
  rcases Nat.lt_or_ge j 7 with hj | hj
  · have : j = 0 ∨ j = 1 ∨ j = 2 ∨ j = 3 ∨ j = 4 ∨ j = 5 ∨ j = 6 := by omega
    rcases this with rfl | rfl | rfl | rfl | rfl | rfl | rfl <;> simp
  · rw [Array.getElem?_eq_none (by simp; omega)]; simp
theorem kb7 {W : World} {b : Nat} (y0 y1 y2 y3 y4 y5 y6 : Value) : Kb b W (((((((W.setCell ⟨b, 0, none⟩ y0).setCell ⟨b, 1, none⟩ y1).setCell ⟨b, 2, none⟩ y2).setCell ⟨b, 3, none⟩ y3).setCell ⟨b, 4, none⟩ y4).setCell ⟨b, 5, none⟩ y5).setCell ⟨b, 6, none⟩ y6) := by
  have h0 := (Kb.refl b W).set 0 y0
  have h1 := h0.set 1 y1
  have h2 := h1.set 2 y2
  have h3 := h2.set 3 y3
  have h4 := h3.set 4 y4
  have h5 := h4.set 5 y5
  have h6 := h5.set 6 y6
  exact h6
/-- What wrap gives where it gives a command. -/
def WrP (w : World) (y : Cm) (e : Ending) (w' : World) : Prop := ∃ v, e = .returned (.tuple #[y.val v, .nilIface]) ∧ SL w' w'.heap.size v y.data ∧ Below w.heap.size w w'
/-- What the walk without a MAC leaves. -/
theorem plain_fin {w w6 : World} {A A6 : Option Addr} {k c6 : Nat} {cla ins p1 p2 le : Int} {long : Bool} {data : List UInt8}
    (hB : BP w.heap.size w w6) (r1 : w6.heap[w.heap.size]? = some (.cells #[.int .i64 cla, .int .i64 ins, .int .i64 p1, .int .i64 p2, .slice A data.length k, .int .i64 le, .bool long] 30 (0, 0))) (r2 : w6.heap[w.heap.size + 1]? = some (.cells #[.int .i64 0, .int .i64 0, .int .i64 0, .int .i64 0, .slice none 0 0, .int .i64 0, .bool false] 30 (0, 0))) (hv : SL w6 w6.heap.size (.slice A6 data.length c6) data) :
    BP w.heap.size w ((((((((w6.setCell ⟨w.heap.size, 4, none⟩ (.slice A6 data.length c6)).setCell ⟨w.heap.size + 1, 0, none⟩ (.int .i64 cla)).setCell ⟨w.heap.size + 1, 1, none⟩ (.int .i64 ins)).setCell ⟨w.heap.size + 1, 2, none⟩ (.int .i64 p1)).setCell ⟨w.heap.size + 1, 3, none⟩ (.int .i64 p2)).setCell ⟨w.heap.size + 1, 4, none⟩ (.slice A6 data.length c6)).setCell ⟨w.heap.size + 1, 5, none⟩ (.int .i64 le)).setCell ⟨w.heap.size + 1, 6, none⟩ (.bool long)) ∧ ((((((((w6.setCell ⟨w.heap.size, 4, none⟩ (.slice A6 data.length c6)).setCell ⟨w.heap.size + 1, 0, none⟩ (.int .i64 cla)).setCell ⟨w.heap.size + 1, 1, none⟩ (.int .i64 ins)).setCell ⟨w.heap.size + 1, 2, none⟩ (.int .i64 p1)).setCell ⟨w.heap.size + 1, 3, none⟩ (.int .i64 p2)).setCell ⟨w.heap.size + 1, 4, none⟩ (.slice A6 data.length c6)).setCell ⟨w.heap.size + 1, 5, none⟩ (.int .i64 le)).setCell ⟨w.heap.size + 1, 6, none⟩ (.bool long)).heap[w.heap.size + 1]? = some (.cells #[.int .i64 cla, .int .i64 ins, .int .i64 p1, .int .i64 p2, .slice A6 data.length c6, .int .i64 le, .bool long] 30 (0, 0)) ∧ SL ((((((((w6.setCell ⟨w.heap.size, 4, none⟩ (.slice A6 data.length c6)).setCell ⟨w.heap.size + 1, 0, none⟩ (.int .i64 cla)).setCell ⟨w.heap.size + 1, 1, none⟩ (.int .i64 ins)).setCell ⟨w.heap.size + 1, 2, none⟩ (.int .i64 p1)).setCell ⟨w.heap.size + 1, 3, none⟩ (.int .i64 p2)).setCell ⟨w.heap.size + 1, 4, none⟩ (.slice A6 data.length c6)).setCell ⟨w.heap.size + 1, 5, none⟩ (.int .i64 le)).setCell ⟨w.heap.size + 1, 6, none⟩ (.bool long)) ((((((((w6.setCell ⟨w.heap.size, 4, none⟩ (.slice A6 data.length c6)).setCell ⟨w.heap.size + 1, 0, none⟩ (.int .i64 cla)).setCell ⟨w.heap.size + 1, 1, none⟩ (.int .i64 ins)).setCell ⟨w.heap.size + 1, 2, none⟩ (.int .i64 p1)).setCell ⟨w.heap.size + 1, 3, none⟩ (.int .i64 p2)).setCell ⟨w.heap.size + 1, 4, none⟩ (.slice A6 data.length c6)).setCell ⟨w.heap.size + 1, 5, none⟩ (.int .i64 le)).setCell ⟨w.heap.size + 1, 6, none⟩ (.bool long)).heap.size (.slice A6 data.length c6) data := by
  have b1 := hB.st (Nat.le_refl _) 4 (.slice A6 data.length c6)
  have s1 := ((offC r1 (cm_cells _ _ _ _ _ _ _ _ _) hv (Nat.le_refl _)).kb ((Kb.refl _ _).set 4 (.slice A6 data.length c6))).sl
  have r3 : (w6.setCell ⟨w.heap.size, 4, none⟩ (.slice A6 data.length c6)).heap[w.heap.size + 1]? = some (.cells #[.int .i64 0, .int .i64 0, .int .i64 0, .int .i64 0, .slice none 0 0, .int .i64 0, .bool false] 30 (0, 0)) := (Below.heap_setCell _ _ _ _ (by show w.heap.size + 1 ≠ w.heap.size; omega)).trans r2
  generalize w6.setCell ⟨w.heap.size, 4, none⟩ (.slice A6 data.length c6) = W at *
  exact ⟨b1.st7 (Nat.le_succ _) .., row7st r3 .., ((offC r3 (cm_cells _ _ _ _ _ _ _ _ _) s1 (Nat.le_refl _)).kb (kb7 ..)).sl⟩

set_option maxRecDepth 100000 in
set_option maxHeartbeats 3200000 in
theorem pwrap_plain (g : Nat) (s : Ch) (x : Cm) (A : Option Addr) (k : Nat) (w : World) (h : CH w g s) (hle : -9223372036854775808 ≤ x.le ∧ x.le ≤ 9223372036854775807) (hE : wrE s x = 0) (hL : hasB s.lvl 1 = false)
    (hd : SL w w.heap.size (.slice A x.data.length k) x.data) (hl : x.data.length ≤ 2000) :
    Calls Tryd.prog 26 #[.pointer (some ⟨g, 0, none⟩), x.val (.slice A x.data.length k)] w (WrP w x) := by
  have hc := fun W (hW : Below w.heap.size w W) => pclass_any g s x A x.data.length k W (h.below hW) rfl hle
  have hh := fun W (hW : Below w.heap.size w W) => phas_any g 1 s W (h.below hW)
  have hcl := fun W (hW : Below w.heap.size w W) => clone_any x.data _ W (hd.on hW) (by omega)
  rw [hL] at hh
  have h0 : clE s x = 0 := by
    by_cases q : clE s x = 0
    · exact q
    · rw [wrE_cl q] at hE; exact absurd hE q
  have hs : (clsK x.cla).sec = false := by
    cases q : (clsK x.cla).sec with
    | false => rfl
    | true => rw [wrE_sec h0 q] at hE; cases hE
  have hk : clK s x = clsK x.cla := by rw [clK, if_pos h0]
  have he : erV (clE s x) = .nilIface := by rw [h0]; rfl
  rw [hk, he] at hc
  have HP : Hid (∀ e v w', e = .returned (.tuple #[x.val v, .nilIface]) → SL w' w'.heap.size v x.data → Below w.heap.size w w' → WrP w x e w') := fun e v w' he h1 h2 => ⟨v, he, h1, h2⟩
  generalize WrP w x = Q at *
  obtain ⟨cla, ins, p1, p2, data, le, long⟩ := x
  simp only [Cm.val] at *
  generalize clsK cla = K at *
  obtain ⟨kc, ks, kn, kp⟩ := K
  simp only at hs
  subst hs
  simp only [Kl.val] at hc
  have hb := alloc2_below w (Obj.cells #[.int .i64 cla, .int .i64 ins, .int .i64 p1, .int .i64 p2, .slice A data.length k, .int .i64 le, .bool long] 30) (Obj.cells #[.int .i64 0, .int .i64 0, .int .i64 0, .int .i64 0, .slice none 0 0, .int .i64 0, .bool false] 30)
  have HC := Lib.hid (hc _ hb)
  have HB := Lib.hid hb
  have HN1 := Lib.hid (heap_alloc2_old w (Obj.cells #[.int .i64 cla, .int .i64 ins, .int .i64 p1, .int .i64 p2, .slice A data.length k, .int .i64 le, .bool long] 30) (Obj.cells #[.int .i64 0, .int .i64 0, .int .i64 0, .int .i64 0, .slice none 0 0, .int .i64 0, .bool false] 30))
  have HN2 := Lib.hid (heap2_new w (Obj.cells #[.int .i64 cla, .int .i64 ins, .int .i64 p1, .int .i64 p2, .slice A data.length k, .int .i64 le, .bool long] 30) (Obj.cells #[.int .i64 0, .int .i64 0, .int .i64 0, .int .i64 0, .slice none 0 0, .int .i64 0, .bool false] 30))
  have HZ : Hid (((w.alloc (Obj.cells #[.int .i64 cla, .int .i64 ins, .int .i64 p1, .int .i64 p2, .slice A data.length k, .int .i64 le, .bool long] 30)).alloc (Obj.cells #[.int .i64 0, .int .i64 0, .int .i64 0, .int .i64 0, .slice none 0 0, .int .i64 0, .bool false] 30)).heap.size = w.heap.size + 2) := by show _ = _; rw [alloc_size, alloc_size]
  have HH := Lib.hid hh
  have HCL := Lib.hid hcl
  clear h hc hb hle hE h0 hk he hh hcl hd hl hL
  go_enter Tryd.func26, Tryd.ntmps26
  go_wp2_with fail
  refine HC.out.mono ?_
  rintro e w3 ⟨rfl, hb3⟩
  have hz3 := hb3.size
  rw [HZ.out] at hz3
  have HP3 : Hid (BP w.heap.size w w3) := ⟨HB.out.trans (hb3.mono HB.out.size), by omega⟩
  have hx1 : w.heap.size + 1 ≠ w3.heap.size := by omega
  have hx2 : w3.heap.size ≠ w.heap.size + 1 := by omega
  have hx3 : w.heap.size ≠ w3.heap.size := by omega
  have m1 := ((alloc_below w3 (Obj.cells #[.int .i64 kc, .bool false, .bool kn, .bool kp] 77)).block _ (Nat.lt_of_lt_of_le (blk_lt HN1.out) hb3.size)).trans ((hb3.block _ (blk_lt HN1.out)).trans HN1.out)
  have m2 := ((alloc_below w3 (Obj.cells #[.int .i64 kc, .bool false, .bool kn, .bool kp] 77)).block _ (Nat.lt_of_lt_of_le (blk_lt HN2.out) hb3.size)).trans ((hb3.block _ (blk_lt HN2.out)).trans HN2.out)
  have M1 := Lib.hid m1
  have M2 := Lib.hid m2
  have HA := Lib.hid (HP3.out.al (Obj.cells #[.int .i64 kc, .bool false, .bool kn, .bool kp] 77))
  have q0 := cell_of_row _ _ 0 _ _ _ m1
  have q1 := cell_of_row _ _ 1 _ _ _ m1
  have q2 := cell_of_row _ _ 2 _ _ _ m1
  have q3 := cell_of_row _ _ 3 _ _ _ m1
  have q4 := cell_of_row _ _ 4 _ _ _ m1
  have q5 := cell_of_row _ _ 5 _ _ _ m1
  have q6 := cell_of_row _ _ 6 _ _ _ m1
  have g0 := frozen_of_row _ _ 0 _ _ m1
  have g1 := frozen_of_row _ _ 1 _ _ m1
  have g2 := frozen_of_row _ _ 2 _ _ m1
  have g3 := frozen_of_row _ _ 3 _ _ m1
  have g4 := frozen_of_row _ _ 4 _ _ m1
  have g5 := frozen_of_row _ _ 5 _ _ m1
  have g6 := frozen_of_row _ _ 6 _ _ m1
  have r0 := cell_of_row _ _ 0 _ _ _ m2
  have r1 := cell_of_row _ _ 1 _ _ _ m2
  have r2 := cell_of_row _ _ 2 _ _ _ m2
  have r3 := cell_of_row _ _ 3 _ _ _ m2
  have r4 := cell_of_row _ _ 4 _ _ _ m2
  have r5 := cell_of_row _ _ 5 _ _ _ m2
  have r6 := cell_of_row _ _ 6 _ _ _ m2
  have f0 := frozen_of_row _ _ 0 _ _ m2
  have f1 := frozen_of_row _ _ 1 _ _ m2
  have f2 := frozen_of_row _ _ 2 _ _ m2
  have f3 := frozen_of_row _ _ 3 _ _ m2
  have f4 := frozen_of_row _ _ 4 _ _ m2
  have f5 := frozen_of_row _ _ 5 _ _ m2
  have f6 := frozen_of_row _ _ 6 _ _ m2
  clear m1 m2 hz3 hb3
  go_wp2_with fail
  refine (HH.out _ HA.out.b).mono ?_
  rintro e w5 ⟨rfl, rfl⟩
  go_wp2_with fail
  refine (HCL.out _ HA.out.b).mono ?_
  rintro e w6 ⟨v6, rfl, hv6, hb6⟩
  obtain ⟨A6, c6, rfl, _, _, _⟩ := id hv6
  have m1 := (hb6.block _ (blk_lt M1.out)).trans M1.out
  have m2 := (hb6.block _ (blk_lt M2.out)).trans M2.out
  have HFIN := Lib.hid (plain_fin (HA.out.on hb6) m1 m2 hv6)
  clear q0 q1 q2 q3 q4 q5 q6 g0 g1 g2 g3 g4 g5 g6 r0 r1 r2 r3 r4 r5 r6 f0 f1 f2 f3 f4 f5 f6
  have q0 := cell_of_row _ _ 0 _ _ _ m1
  have q1 := cell_of_row _ _ 1 _ _ _ m1
  have q2 := cell_of_row _ _ 2 _ _ _ m1
  have q3 := cell_of_row _ _ 3 _ _ _ m1
  have q4 := cell_of_row _ _ 4 _ _ _ m1
  have q5 := cell_of_row _ _ 5 _ _ _ m1
  have q6 := cell_of_row _ _ 6 _ _ _ m1
  have g0 := frozen_of_row _ _ 0 _ _ m1
  have g1 := frozen_of_row _ _ 1 _ _ m1
  have g2 := frozen_of_row _ _ 2 _ _ m1
  have g3 := frozen_of_row _ _ 3 _ _ m1
  have g4 := frozen_of_row _ _ 4 _ _ m1
  have g5 := frozen_of_row _ _ 5 _ _ m1
  have g6 := frozen_of_row _ _ 6 _ _ m1
  have r0 := cell_of_row _ _ 0 _ _ _ m2
  have r1 := cell_of_row _ _ 1 _ _ _ m2
  have r2 := cell_of_row _ _ 2 _ _ _ m2
  have r3 := cell_of_row _ _ 3 _ _ _ m2
  have r4 := cell_of_row _ _ 4 _ _ _ m2
  have r5 := cell_of_row _ _ 5 _ _ _ m2
  have r6 := cell_of_row _ _ 6 _ _ _ m2
  have f0 := frozen_of_row _ _ 0 _ _ m2
  have f1 := frozen_of_row _ _ 1 _ _ m2
  have f2 := frozen_of_row _ _ 2 _ _ m2
  have f3 := frozen_of_row _ _ 3 _ _ m2
  have f4 := frozen_of_row _ _ 4 _ _ m2
  have f5 := frozen_of_row _ _ 5 _ _ m2
  have f6 := frozen_of_row _ _ 6 _ _ m2
  have hy1 : w.heap.size + 1 ≠ w.heap.size := by omega
  have hy2 : w.heap.size ≠ w.heap.size + 1 := by omega
  clear m1 m2 hv6 hb6 hx1 hx2 hx3
  go_wp2_with fail
  exact bodyPost_ret (results_cell2 rfl _ _ (w.heap.size + 1) 30 _ (0, 0) _ rfl HFIN.out.2.1 Tryd.underlying30 rfl (by kernel_rfl)) rfl (HP.out _ _ _ rfl HFIN.out.2.2 HFIN.out.1.b)



theorem cells7 {W : World} {b : Nat} {x0 x1 x2 x3 x4 x5 x6 : Value} {t : TypeId} (h : W.heap[b]? = some (.cells #[x0, x1, x2, x3, x4, x5, x6] t (0, 0))) :
    (W.cell? ⟨b, 0, none⟩ = some x0 ∧ W.cell? ⟨b, 1, none⟩ = some x1 ∧ W.cell? ⟨b, 2, none⟩ = some x2 ∧ W.cell? ⟨b, 3, none⟩ = some x3 ∧ W.cell? ⟨b, 4, none⟩ = some x4 ∧ W.cell? ⟨b, 5, none⟩ = some x5 ∧ W.cell? ⟨b, 6, none⟩ = some x6) ∧
    (W.frozen? ⟨b, 0, none⟩ = false ∧ W.frozen? ⟨b, 1, none⟩ = false ∧ W.frozen? ⟨b, 2, none⟩ = false ∧ W.frozen? ⟨b, 3, none⟩ = false ∧ W.frozen? ⟨b, 4, none⟩ = false ∧ W.frozen? ⟨b, 5, none⟩ = false ∧ W.frozen? ⟨b, 6, none⟩ = false) :=
  ⟨⟨cell_of_row _ _ 0 _ _ _ h, cell_of_row _ _ 1 _ _ _ h, cell_of_row _ _ 2 _ _ _ h, cell_of_row _ _ 3 _ _ _ h, cell_of_row _ _ 4 _ _ _ h, cell_of_row _ _ 5 _ _ _ h, cell_of_row _ _ 6 _ _ _ h⟩,
   frozen_of_row _ _ 0 _ _ h, frozen_of_row _ _ 1 _ _ h, frozen_of_row _ _ 2 _ _ h, frozen_of_row _ _ 3 _ _ h, frozen_of_row _ _ 4 _ _ h, frozen_of_row _ _ 5 _ _ h, frozen_of_row _ _ 6 _ _ h⟩
theorem cells4 {W : World} {b : Nat} {x0 x1 x2 x3 : Value} {t : TypeId} (h : W.heap[b]? = some (.cells #[x0, x1, x2, x3] t (0, 0))) :
    (W.cell? ⟨b, 0, none⟩ = some x0 ∧ W.cell? ⟨b, 1, none⟩ = some x1 ∧ W.cell? ⟨b, 2, none⟩ = some x2 ∧ W.cell? ⟨b, 3, none⟩ = some x3) ∧
    (W.frozen? ⟨b, 0, none⟩ = false ∧ W.frozen? ⟨b, 1, none⟩ = false ∧ W.frozen? ⟨b, 2, none⟩ = false ∧ W.frozen? ⟨b, 3, none⟩ = false) :=
  ⟨⟨cell_of_row _ _ 0 _ _ _ h, cell_of_row _ _ 1 _ _ _ h, cell_of_row _ _ 2 _ _ _ h, cell_of_row _ _ 3 _ _ _ h⟩,
   frozen_of_row _ _ 0 _ _ h, frozen_of_row _ _ 1 _ _ h, frozen_of_row _ _ 2 _ _ h, frozen_of_row _ _ 3 _ _ h⟩
/-- The three blocks that wrap works on. -/
structure WW (w W : World) (K : Nat) (xs ks : Array Value) : Prop where
  bp : BP w.heap.size w W
  r1 : W.heap[w.heap.size]? = some (.cells xs 30 (0, 0))
  r2 : W.heap[w.heap.size + 1]? = some (.cells #[.int .i64 0, .int .i64 0, .int .i64 0, .int .i64 0, .slice none 0 0, .int .i64 0, .bool false] 30 (0, 0))
  r3 : W.heap[K]? = some (.cells ks 77 (0, 0))
  hk : w.heap.size + 1 < K
theorem WW.on {w W W2 : World} {K : Nat} {xs ks : Array Value} (h : WW w W K xs ks) (hb : Below W.heap.size W W2) : WW w W2 K xs ks :=
  ⟨h.bp.on hb, rowC hb h.r1, rowC hb h.r2, rowC hb h.r3, h.hk⟩
theorem WW.dr {w W : World} {K : Nat} {xs ks : Array Value} (h : WW w W K xs ks) : WW w W.drew K xs ks := ⟨h.bp.dr, h.r1, h.r2, h.r3, h.hk⟩
theorem WW.c4 {w W : World} {K : Nat} {x0 x1 x2 x3 x4 x5 x6 : Value} {ks : Array Value} (h : WW w W K #[x0, x1, x2, x3, x4, x5, x6] ks) : W.cell? ⟨w.heap.size, 4, none⟩ = some x4 := cell_of_row _ _ 4 _ _ _ h.r1
theorem WW.setx {w W : World} {K : Nat} {xs ks : Array Value} (h : WW w W K xs ks) (i : Nat) (u : Value) : WW w (W.setCell ⟨w.heap.size, i, none⟩ u) K (xs.setIfInBounds i u) ks := by
  have := h.hk
  exact ⟨h.bp.st (Nat.le_refl _) i u, heap_setCell_same _ _ _ _ _ _ h.r1, (Below.heap_setCell _ _ _ _ (by show w.heap.size + 1 ≠ w.heap.size; omega)).trans h.r2, (Below.heap_setCell _ _ _ _ (by show K ≠ w.heap.size; omega)).trans h.r3, h.hk⟩
theorem WW.setk {w W : World} {K : Nat} {xs ks : Array Value} (h : WW w W K xs ks) (i : Nat) (u : Value) : WW w (W.setCell ⟨K, i, none⟩ u) K xs (ks.setIfInBounds i u) := by
  have := h.hk
  exact ⟨h.bp.st (by omega) i u, (Below.heap_setCell _ _ _ _ (by show w.heap.size ≠ K; omega)).trans h.r1, (Below.heap_setCell _ _ _ _ (by show w.heap.size + 1 ≠ K; omega)).trans h.r2, heap_setCell_same _ _ _ _ _ _ h.r3, h.hk⟩

theorem sl_set {w : World} {g : Nat} {v : Value} {l : List UInt8} {cs : Array Value} {t : TypeId} (hr : w.heap[g]? = some (.cells cs t (0, 0))) (hcs : ∀ (j : Nat) (z : Int), cs[j]? ≠ some (.int .u8 z)) (hv : SL w w.heap.size v l) (i : Nat) (u : Value) :
    SL (w.setCell ⟨g, i, none⟩ u) (w.setCell ⟨g, i, none⟩ u).heap.size v l := ((offC hr hcs hv (Nat.le_refl _)).kb ((Kb.refl _ _).set i u)).sl
theorem kl_cells (a : Int) (b c d : Bool) : ∀ (j : Nat) (z : Int), (#[Value.int .i64 a, .bool b, .bool c, .bool d] : Array Value)[j]? ≠ some (.int .u8 z) := by
  intro j z
  rcases Nat.lt_or_ge j 4 with hj | hj
  · have : j = 0 ∨ j = 1 ∨ j = 2 ∨ j = 3 := by omega
    rcases this with rfl | rfl | rfl | rfl <;> simp
  · rw [Array.getElem?_eq_none (by simp; omega)]; simp
/-- What the walk with a MAC leaves. -/
theorem mac_fin {w w10 : World} {K : Nat} {A A6 : Option Addr} {n k c6 : Nat} {cla ins p1 p2 le : Int} {long : Bool} {D : List UInt8} {ks : Array Value} (b : Bool)
    (hW : WW w w10 K #[.int .i64 cla, .int .i64 ins, .int .i64 p1, .int .i64 p2, .slice A n k, .int .i64 le, .bool long] ks) (hv : SL w10 w10.heap.size (.slice A6 D.length c6) D) :
    BP w.heap.size w (((((((((w10.setCell ⟨w.heap.size, 4, none⟩ (.slice A6 D.length c6)).setCell ⟨w.heap.size, 6, none⟩ (.bool b)).setCell ⟨w.heap.size + 1, 0, none⟩ (.int .i64 cla)).setCell ⟨w.heap.size + 1, 1, none⟩ (.int .i64 ins)).setCell ⟨w.heap.size + 1, 2, none⟩ (.int .i64 p1)).setCell ⟨w.heap.size + 1, 3, none⟩ (.int .i64 p2)).setCell ⟨w.heap.size + 1, 4, none⟩ (.slice A6 D.length c6)).setCell ⟨w.heap.size + 1, 5, none⟩ (.int .i64 le)).setCell ⟨w.heap.size + 1, 6, none⟩ (.bool b)) ∧ (((((((((w10.setCell ⟨w.heap.size, 4, none⟩ (.slice A6 D.length c6)).setCell ⟨w.heap.size, 6, none⟩ (.bool b)).setCell ⟨w.heap.size + 1, 0, none⟩ (.int .i64 cla)).setCell ⟨w.heap.size + 1, 1, none⟩ (.int .i64 ins)).setCell ⟨w.heap.size + 1, 2, none⟩ (.int .i64 p1)).setCell ⟨w.heap.size + 1, 3, none⟩ (.int .i64 p2)).setCell ⟨w.heap.size + 1, 4, none⟩ (.slice A6 D.length c6)).setCell ⟨w.heap.size + 1, 5, none⟩ (.int .i64 le)).setCell ⟨w.heap.size + 1, 6, none⟩ (.bool b)).heap[w.heap.size + 1]? = some (.cells #[.int .i64 cla, .int .i64 ins, .int .i64 p1, .int .i64 p2, .slice A6 D.length c6, .int .i64 le, .bool b] 30 (0, 0)) ∧ SL (((((((((w10.setCell ⟨w.heap.size, 4, none⟩ (.slice A6 D.length c6)).setCell ⟨w.heap.size, 6, none⟩ (.bool b)).setCell ⟨w.heap.size + 1, 0, none⟩ (.int .i64 cla)).setCell ⟨w.heap.size + 1, 1, none⟩ (.int .i64 ins)).setCell ⟨w.heap.size + 1, 2, none⟩ (.int .i64 p1)).setCell ⟨w.heap.size + 1, 3, none⟩ (.int .i64 p2)).setCell ⟨w.heap.size + 1, 4, none⟩ (.slice A6 D.length c6)).setCell ⟨w.heap.size + 1, 5, none⟩ (.int .i64 le)).setCell ⟨w.heap.size + 1, 6, none⟩ (.bool b)) (((((((((w10.setCell ⟨w.heap.size, 4, none⟩ (.slice A6 D.length c6)).setCell ⟨w.heap.size, 6, none⟩ (.bool b)).setCell ⟨w.heap.size + 1, 0, none⟩ (.int .i64 cla)).setCell ⟨w.heap.size + 1, 1, none⟩ (.int .i64 ins)).setCell ⟨w.heap.size + 1, 2, none⟩ (.int .i64 p1)).setCell ⟨w.heap.size + 1, 3, none⟩ (.int .i64 p2)).setCell ⟨w.heap.size + 1, 4, none⟩ (.slice A6 D.length c6)).setCell ⟨w.heap.size + 1, 5, none⟩ (.int .i64 le)).setCell ⟨w.heap.size + 1, 6, none⟩ (.bool b)).heap.size (.slice A6 D.length c6) D := by
  have hW1 : WW w (w10.setCell ⟨w.heap.size, 4, none⟩ (.slice A6 D.length c6)) K #[.int .i64 cla, .int .i64 ins, .int .i64 p1, .int .i64 p2, .slice A6 D.length c6, .int .i64 le, .bool long] ks := hW.setx 4 _
  have s1 := sl_set hW.r1 (cm_cells _ _ _ _ _ _ _ _ _) hv 4 (.slice A6 D.length c6)
  have hW2 : WW w ((w10.setCell ⟨w.heap.size, 4, none⟩ (.slice A6 D.length c6)).setCell ⟨w.heap.size, 6, none⟩ (.bool b)) K #[.int .i64 cla, .int .i64 ins, .int .i64 p1, .int .i64 p2, .slice A6 D.length c6, .int .i64 le, .bool b] ks := hW1.setx 6 _
  have s2 := sl_set hW1.r1 (cm_cells _ _ _ _ _ _ _ _ _) s1 6 (.bool b)
  generalize ((w10.setCell ⟨w.heap.size, 4, none⟩ (.slice A6 D.length c6)).setCell ⟨w.heap.size, 6, none⟩ (.bool b)) = W at *
  exact ⟨hW2.bp.st7 (Nat.le_succ _) .., row7st hW2.r2 .., ((offC hW2.r2 (cm_cells _ _ _ _ _ _ _ _ _) s2 (Nat.le_refl _)).kb (kb7 ..)).sl⟩
/-- The body of a protected command, its head, and the whole. -/
def wrB (s : Ch) (x : Cm) (n : Nat) : List UInt8 := encF s 2 (ivF s.enc (n + 1) 0) x.data
def wrX (x : Cm) : Cm := ⟨bytN ⟨(clsK x.cla).ch, true, (clsK x.cla).chn, (clsK x.cla).prp⟩, x.ins, x.p1, x.p2, x.data, x.le, x.long⟩
def wrD (s : Ch) (x : Cm) (n : Nat) : List UInt8 := wrB s x n ++ cmF s (wrX x) (wrB s x n)
def wrY (s : Ch) (x : Cm) (n : Nat) : Cm := ⟨(wrX x).cla, x.ins, x.p1, x.p2, wrD s x n, x.le, x.long || decide ((255 : Int) < ((wrD s x n).length : Int))⟩
theorem encF_le (s : Ch) (bit : Int) (iv d : List UInt8) (hiv : iv.length = 8) : (encF s bit iv d).length ≤ d.length + 8 := by
  unfold encF
  split
  · rw [cbE_len _ _ _ (by rw [padL_len]; omega), padL_len]; omega
  · omega
set_option maxRecDepth 100000 in
set_option maxHeartbeats 3200000 in
theorem pwrap_mac (g : Nat) (s : Ch) (x : Cm) (A : Option Addr) (k n N : Nat) (w : World) (h : CH w g s) (hN : x.le = (N : Int)) (hN6 : N ≤ 65536) (hE : wrE s x = 0) (hL : hasB s.lvl 1 = true)
    (he16 : s.enc.length = 16) (hm16 : s.mac.length = 16) (hv8 : s.cv.length = 8) (hcn : s.cnt = (n : Int)) (hn : n ≤ 10000)
    (hd : SL w w.heap.size (.slice A x.data.length k) x.data) (hl : x.data.length ≤ 1990) :
    Calls Tryd.prog 26 #[.pointer (some ⟨g, 0, none⟩), x.val (.slice A x.data.length k)] w (WrP w (wrY s x n)) := by
  have hc := fun W (hW : Below w.heap.size w W) => pclass_any g s x A x.data.length k W (h.below hW) rfl (by omega)
  have hh := fun W (hW : Below w.heap.size w W) => phas_any g 1 s W (h.below hW)
  have hst := fun W (hW : Below w.heap.size w W) => pcst_any g s n W (h.below hW) he16 hcn hn
  have hen := fun W vi (hW : Below w.heap.size w W) (hi : SL W W.heap.size vi (ivF s.enc (n + 1) 0)) => pencr_any g s 2 _ _ vi _ W (h.below hW) he16 (ivF_len ..) hi (hd.on hW) (by omega)
  have hBl : (wrB s x n).length ≤ 1998 := by
    have := encF_le s 2 (ivF s.enc (n + 1) 0) x.data (ivF_len ..)
    unfold wrB; omega
  have hmc := fun W vb (hW : Below w.heap.size w W) (hb : SL W W.heap.size vb (wrB s x n)) => pcmac_any g s (wrX x) A x.data.length k _ vb N W (h.below hW) hm16 hv8 hN hN6 hb (by omega)
  have hMl : (cmF s (wrX x) (wrB s x n)).length ≤ 8 := by
    exact Nat.le_of_eq (macL_len _ _ _)
  rw [hL] at hh
  have h0 : clE s x = 0 := by
    by_cases q : clE s x = 0
    · exact q
    · rw [wrE_cl q] at hE; exact absurd hE q
  have hs : (clsK x.cla).sec = false := by
    cases q : (clsK x.cla).sec with
    | false => rfl
    | true => rw [wrE_sec h0 q] at hE; cases hE
  have hk : clK s x = clsK x.cla := by rw [clK, if_pos h0]
  have he : erV (clE s x) = .nilIface := by rw [h0]; rfl
  rw [hk, he] at hc
  have hy : wrY s x n = ⟨(wrX x).cla, x.ins, x.p1, x.p2, wrD s x n, x.le, x.long || decide ((255 : Int) < ((wrD s x n).length : Int))⟩ := rfl
  have hx : wrX x = ⟨bytN ⟨(clsK x.cla).ch, true, (clsK x.cla).chn, (clsK x.cla).prp⟩, x.ins, x.p1, x.p2, x.data, x.le, x.long⟩ := rfl
  have hdd : wrD s x n = wrB s x n ++ cmF s (wrX x) (wrB s x n) := rfl
  have hBd : wrB s x n = encF s 2 (ivF s.enc (n + 1) 0) x.data := rfl
  rw [← hBd] at hen
  rw [hy, hdd]
  generalize cmF s (wrX x) (wrB s x n) = M at *
  generalize wrB s x n = B at *
  generalize ivF s.enc (n + 1) 0 = I at *
  rw [hx] at hmc ⊢
  clear hx hdd hBd hy
  obtain ⟨cla, ins, p1, p2, data, le, long⟩ := x
  simp only [Cm.val] at *
  generalize clsK cla = K at *
  obtain ⟨kc, ks, kn, kp⟩ := K
  simp only at hs
  subst hs
  simp only [Kl.val] at hc
  simp only at hmc ⊢
  have hby := fun W => pbyt_any ⟨kc, true, kn, kp⟩ W
  simp only [Kl.val] at hby
  generalize bytN ⟨kc, true, kn, kp⟩ = cl2 at *
  generalize bytE ⟨kc, true, kn, kp⟩ = ce2 at *
  have hjn := fun (W : World) va vb h1 h2 W2 h3 h4 => join2 B M va vb W h1 h2 (by omega) (by omega) W2 h3 h4
  have HP : Hid (∀ e v w', e = .returned (.tuple #[.agg #[.int .i64 cl2, .int .i64 ins, .int .i64 p1, .int .i64 p2, v, .int .i64 le, .bool (long || decide ((255 : Int) < ((B ++ M).length : Int)))], .nilIface]) → SL w' w'.heap.size v (B ++ M) → Below w.heap.size w w' → WrP w ⟨cl2, ins, p1, p2, B ++ M, le, long || decide ((255 : Int) < ((B ++ M).length : Int))⟩ e w') := fun e v w' he h1 h2 => ⟨v, he, h1, h2⟩
  generalize WrP w ⟨cl2, ins, p1, p2, B ++ M, le, long || decide ((255 : Int) < ((B ++ M).length : Int))⟩ = Q at *
  have hb := alloc2_below w (Obj.cells #[.int .i64 cla, .int .i64 ins, .int .i64 p1, .int .i64 p2, .slice A data.length k, .int .i64 le, .bool long] 30) (Obj.cells #[.int .i64 0, .int .i64 0, .int .i64 0, .int .i64 0, .slice none 0 0, .int .i64 0, .bool false] 30)
  have HC := Lib.hid (hc _ hb)
  have HB := Lib.hid hb
  have HN1 := Lib.hid (heap_alloc2_old w (Obj.cells #[.int .i64 cla, .int .i64 ins, .int .i64 p1, .int .i64 p2, .slice A data.length k, .int .i64 le, .bool long] 30) (Obj.cells #[.int .i64 0, .int .i64 0, .int .i64 0, .int .i64 0, .slice none 0 0, .int .i64 0, .bool false] 30))
  have HN2 := Lib.hid (heap2_new w (Obj.cells #[.int .i64 cla, .int .i64 ins, .int .i64 p1, .int .i64 p2, .slice A data.length k, .int .i64 le, .bool long] 30) (Obj.cells #[.int .i64 0, .int .i64 0, .int .i64 0, .int .i64 0, .slice none 0 0, .int .i64 0, .bool false] 30))
  have HZ : Hid (((w.alloc (Obj.cells #[.int .i64 cla, .int .i64 ins, .int .i64 p1, .int .i64 p2, .slice A data.length k, .int .i64 le, .bool long] 30)).alloc (Obj.cells #[.int .i64 0, .int .i64 0, .int .i64 0, .int .i64 0, .slice none 0 0, .int .i64 0, .bool false] 30)).heap.size = w.heap.size + 2) := by show _ = _; rw [alloc_size, alloc_size]
  have HH := Lib.hid hh
  have HST := Lib.hid hst
  have HEN := Lib.hid hen
  have HMC := Lib.hid hmc
  have HBY := Lib.hid hby
  have HJN := Lib.hid hjn
  have HBL := Lib.hid hBl
  clear h hc hb hE h0 hk he hh hst hen hmc hby hjn hd hl hL hN hN6 he16 hm16 hv8 hcn hn hBl hMl
  go_enter Tryd.func26, Tryd.ntmps26
  go_wp2_with fail
  refine HC.out.mono ?_
  rintro e w3 ⟨rfl, hb3⟩
  have hz3 := hb3.size
  rw [HZ.out] at hz3
  have m1 := ((alloc_below w3 (Obj.cells #[.int .i64 kc, .bool false, .bool kn, .bool kp] 77)).block _ (Nat.lt_of_lt_of_le (blk_lt HN1.out) hb3.size)).trans ((hb3.block _ (blk_lt HN1.out)).trans HN1.out)
  have m2 := ((alloc_below w3 (Obj.cells #[.int .i64 kc, .bool false, .bool kn, .bool kp] 77)).block _ (Nat.lt_of_lt_of_le (blk_lt HN2.out) hb3.size)).trans ((hb3.block _ (blk_lt HN2.out)).trans HN2.out)
  have HW5 : Hid (WW w (w3.alloc (Obj.cells #[.int .i64 kc, .bool false, .bool kn, .bool kp] 77)) w3.heap.size #[.int .i64 cla, .int .i64 ins, .int .i64 p1, .int .i64 p2, .slice A data.length k, .int .i64 le, .bool long] #[.int .i64 kc, .bool false, .bool kn, .bool kp]) :=
    ⟨(BP.mk (HB.out.trans (hb3.mono HB.out.size)) (by omega)).al _, m1, m2, heap_alloc_new _ _, by omega⟩
  have hx1 : w.heap.size + 1 ≠ w3.heap.size := by omega
  have hx2 : w3.heap.size ≠ w.heap.size + 1 := by omega
  have hx3 : w.heap.size ≠ w3.heap.size := by omega
  have hx4 : w3.heap.size ≠ w.heap.size := by omega
  have hy1 : w.heap.size + 1 ≠ w.heap.size := by omega
  have hy2 : w.heap.size ≠ w.heap.size + 1 := by omega
  clear m1 m2 hz3 hb3
  obtain ⟨⟨q0, q1, q2, q3, q4, q5, q6⟩, ⟨g0, g1, g2, g3, g4, g5, g6⟩⟩ := cells7 HW5.out.r1
  obtain ⟨⟨r0, r1, r2, r3, r4, r5, r6⟩, ⟨f0, f1, f2, f3, f4, f5, f6⟩⟩ := cells7 HW5.out.r2
  obtain ⟨⟨t0, t1, t2, t3⟩, ⟨l0, l1, l2, l3⟩⟩ := cells4 HW5.out.r3
  go_wp2_with fail
  refine (HH.out _ HW5.out.bp.b).mono ?_
  rintro e w5 ⟨rfl, rfl⟩
  go_wp2_with fail
  have hS6 : True := trivial
  go_region_held3 (fun W => W.cell? ⟨w.heap.size, 4, none⟩ = some (.slice A data.length k))
    (first | (with_reducible exact hS6) | (with_reducible exact HW5.out.dr.c4) | (with_reducible exact HW7.out.c4) | (go_keep; done))
    (first
      | (go_at_call 40; (with_reducible refine (HST.out _ HW5.out.dr.bp.b).mono ?_); rintro e w6 ⟨v6, rfl, hv6, hb6⟩; have HW6 := Lib.hid (HW5.out.dr.on hb6); have HV6 := Lib.hid hv6; have hS6 := HW6.out.c4)
      | (go_at_call 40; (with_reducible refine (HST.out _ HW5.out.bp.b).mono ?_); rintro e w6 ⟨v6, rfl, hv6, hb6⟩; have HW6 := Lib.hid (HW5.out.on hb6); have HV6 := Lib.hid hv6; have hS6 := HW6.out.c4)
      | (go_at_call 39; (with_reducible refine (HEN.out _ _ HW6.out.bp.b HV6.out).mono ?_); rintro e w7 ⟨v7, rfl, hv7, hb7⟩; have HW7 := Lib.hid (HW6.out.on hb7); have HV7 := Lib.hid hv7; obtain ⟨A7, c7, rfl, _, _, _⟩ := id hv7)
      | fail "none")
  have hi2 : ¬ (65535 < (B.length : Int) + 8) := by have := HBL.out; omega
  have hi3 : IntKind.wrap .i64 ((B.length : Int) + 8) = (B.length : Int) + 8 := by have := HBL.out; rw [IntWalk.i64_in _ (by omega)]
  clear hv6 hb6 hv7 hb7 hS6
  clear q0 q1 q2 q3 q4 q5 q6 g0 g1 g2 g3 g4 g5 g6 r0 r1 r2 r3 r4 r5 r6 f0 f1 f2 f3 f4 f5 f6 t0 t1 t2 t3 l0 l1 l2 l3
  obtain ⟨⟨q0, q1, q2, q3, q4, q5, q6⟩, ⟨g0, g1, g2, g3, g4, g5, g6⟩⟩ := cells7 HW7.out.r1
  obtain ⟨⟨r0, r1, r2, r3, r4, r5, r6⟩, ⟨f0, f1, f2, f3, f4, f5, f6⟩⟩ := cells7 HW7.out.r2
  obtain ⟨⟨t0, t1, t2, t3⟩, ⟨l0, l1, l2, l3⟩⟩ := cells4 HW7.out.r3
  go_wp2_with fail
  refine (HBY.out _).mono ?_
  rintro e w8 ⟨rfl, hb8⟩
  have HV8 := Lib.hid ((sl_set HW7.out.r3 (kl_cells _ _ _ _) HV7.out 1 (.bool true)).on hb8)
  have HW8 : Hid (WW w w8 w3.heap.size #[.int .i64 cla, .int .i64 ins, .int .i64 p1, .int .i64 p2, .slice A data.length k, .int .i64 le, .bool long] #[.int .i64 kc, .bool true, .bool kn, .bool kp]) := (HW7.out.setk 1 (.bool true)).on hb8
  clear hb8
  clear q0 q1 q2 q3 q4 q5 q6 g0 g1 g2 g3 g4 g5 g6 r0 r1 r2 r3 r4 r5 r6 f0 f1 f2 f3 f4 f5 f6 t0 t1 t2 t3 l0 l1 l2 l3
  obtain ⟨⟨q0, q1, q2, q3, q4, q5, q6⟩, ⟨g0, g1, g2, g3, g4, g5, g6⟩⟩ := cells7 HW8.out.r1
  obtain ⟨⟨r0, r1, r2, r3, r4, r5, r6⟩, ⟨f0, f1, f2, f3, f4, f5, f6⟩⟩ := cells7 HW8.out.r2
  obtain ⟨⟨t0, t1, t2, t3⟩, ⟨l0, l1, l2, l3⟩⟩ := cells4 HW8.out.r3
  go_wp2_with fail
  have HW8b : Hid (WW w (w8.setCell ⟨w.heap.size, 0, none⟩ (.int .i64 cl2)) w3.heap.size #[.int .i64 cl2, .int .i64 ins, .int .i64 p1, .int .i64 p2, .slice A data.length k, .int .i64 le, .bool long] #[.int .i64 kc, .bool true, .bool kn, .bool kp]) := HW8.out.setx 0 (.int .i64 cl2)
  have HV8b := Lib.hid (sl_set HW8.out.r1 (cm_cells _ _ _ _ _ _ _ _ _) HV8.out 0 (.int .i64 cl2))
  refine (HMC.out _ _ HW8b.out.bp.b HV8b.out).mono ?_
  rintro e w9 ⟨v9, rfl, hv9, hb9⟩
  have HW9 := Lib.hid (HW8b.out.on hb9)
  have HV9 := Lib.hid (HV8b.out.on hb9)
  have HM9 := Lib.hid hv9
  obtain ⟨A9, c9, rfl, _, _, _⟩ := id hv9
  clear hv9 hb9
  clear q0 q1 q2 q3 q4 q5 q6 g0 g1 g2 g3 g4 g5 g6 r0 r1 r2 r3 r4 r5 r6 f0 f1 f2 f3 f4 f5 f6 t0 t1 t2 t3 l0 l1 l2 l3
  obtain ⟨⟨q0, q1, q2, q3, q4, q5, q6⟩, ⟨g0, g1, g2, g3, g4, g5, g6⟩⟩ := cells7 HW9.out.r1
  obtain ⟨⟨r0, r1, r2, r3, r4, r5, r6⟩, ⟨f0, f1, f2, f3, f4, f5, f6⟩⟩ := cells7 HW9.out.r2
  obtain ⟨⟨t0, t1, t2, t3⟩, ⟨l0, l1, l2, l3⟩⟩ := cells4 HW9.out.r3
  go_wp2_with fail
  refine (HJN.out w9 _ _ HV9.out HM9.out _ (alloc_below _ _) (heap_alloc_new _ _)).mono ?_
  rintro e w10 ⟨v10, rfl, hv10, hb10⟩
  have HW10 := Lib.hid (HW9.out.on hb10)
  have HV10 := Lib.hid hv10
  obtain ⟨A10, c10, rfl, _, _, _⟩ := id hv10
  have HF := Lib.hid fun b => mac_fin b HW10.out HV10.out
  clear hv10 hb10
  clear q0 q1 q2 q3 q4 q5 q6 g0 g1 g2 g3 g4 g5 g6 r0 r1 r2 r3 r4 r5 r6 f0 f1 f2 f3 f4 f5 f6 t0 t1 t2 t3 l0 l1 l2 l3
  obtain ⟨⟨q0, q1, q2, q3, q4, q5, q6⟩, ⟨g0, g1, g2, g3, g4, g5, g6⟩⟩ := cells7 HW10.out.r1
  obtain ⟨⟨r0, r1, r2, r3, r4, r5, r6⟩, ⟨f0, f1, f2, f3, f4, f5, f6⟩⟩ := cells7 HW10.out.r2
  obtain ⟨⟨t0, t1, t2, t3⟩, ⟨l0, l1, l2, l3⟩⟩ := cells4 HW10.out.r3
  generalize B ++ M = D at *
  cases long with
  | true =>
    go_wp2_with fail
    exact bodyPost_ret (results_cell2 rfl _ _ (w.heap.size + 1) 30 _ (0, 0) _ rfl (HF.out _).2.1 Tryd.underlying30 rfl (by kernel_rfl)) rfl (HP.out _ _ _ rfl (HF.out _).2.2 (HF.out _).1.b)
  | false =>
    go_wp2_with fail
    exact bodyPost_ret (results_cell2 rfl _ _ (w.heap.size + 1) 30 _ (0, 0) _ rfl (HF.out _).2.1 Tryd.underlying30 rfl (by kernel_rfl)) rfl (HP.out _ _ _ rfl (HF.out _).2.2 (HF.out _).1.b)



theorem Kb.far {g b : Nat} {w W : World} (h : Kb g w W) (hb : w.heap.size ≤ b) (i : Nat) (u : Value) : Kb g w (W.setCell ⟨b, i, none⟩ u) :=
  ⟨h.os, h.tape, h.output, by simp [World.setCell]; exact h.size, fun k hk h1 => (Below.heap_setCell _ _ _ _ (by show k ≠ b; omega)).trans (h.block k hk h1)⟩
/-- A side is kept where a row without bytes is written. -/
theorem CH.keepb {w w' : World} {g b : Nat} {s : Ch} {cs : Array Value} {t : TypeId} (h : CH w g s) (hr : w.heap[b]? = some (.cells cs t (0, 0))) (hcs : ∀ (j : Nat) (z : Int), cs[j]? ≠ some (.int .u8 z)) (hne : g ≠ b) (hk : Kb b w w') : CH w' g s := by
  have hl := h.lt
  obtain ⟨A0, A1, A2, A3, A5, c0, c1, c2, c3, c5, hr', h0, h1, h2, h3, h5⟩ := h
  have key : ∀ {v : Value} {l : List UInt8}, FL g w v l → FL g w' v l := fun {v l} hf => by
    have h7 := (offC hr hcs hf.sl (Nat.le_refl _)).kb hk
    obtain ⟨A, c, hv, k1, k2, k3⟩ := hf
    obtain ⟨A', c', hv', k1', k2', k3'⟩ := h7
    rw [hv] at hv'
    injection hv' with e1 e2 e3
    subst e1 e3
    refine ⟨A, c, hv, k1, k2, fun hp => ?_⟩
    obtain ⟨b, o, hA, hb, hlt, hc⟩ := k3 hp
    obtain ⟨b', o', hA', hb', hlt', hc'⟩ := k3' hp
    rw [hA] at hA'
    injection hA' with hA'
    injection hA' with e1 e2
    subst e1 e2
    exact ⟨b, o, hA, hb, hlt', hc'⟩
  exact ⟨A0, A1, A2, A3, A5, c0, c1, c2, c3, c5, (hk.block g hl hne).trans hr', key h0, key h1, key h2, key h3, key h5⟩

/-- What Wrap gives where it gives a command. -/
def WRP (g : Nat) (s : Ch) (y : Cm) (w : World) (e : Ending) (w' : World) : Prop :=
  ∃ v, e = .returned (.tuple #[y.val v, .int .i64 0]) ∧ SL w' w'.heap.size v y.data ∧ CH w' g (s.next y.data) ∧ Kb g w w'
theorem wrap_fin {g : Nat} {s2 : Ch} {w w6 : World} {A4 : Option Addr} {c4 : Nat} {cla2 ins2 p12 p22 le2 : Int} {long2 : Bool} {dat2 : List UInt8} (hg : g < w.heap.size)
    (hk : Kb g w w6) (hr : w6.heap[w.heap.size + 1]? = some (.cells #[.int .i64 0, .int .i64 0, .int .i64 0, .int .i64 0, .slice none 0 0, .int .i64 0, .bool false] 30 (0, 0))) (hc : CH w6 g s2) (hv : SL w6 w6.heap.size (.slice A4 dat2.length c4) dat2) :
    (((((((w6.setCell ⟨w.heap.size + 1, 0, none⟩ (.int .i64 cla2)).setCell ⟨w.heap.size + 1, 1, none⟩ (.int .i64 ins2)).setCell ⟨w.heap.size + 1, 2, none⟩ (.int .i64 p12)).setCell ⟨w.heap.size + 1, 3, none⟩ (.int .i64 p22)).setCell ⟨w.heap.size + 1, 4, none⟩ (.slice A4 dat2.length c4)).setCell ⟨w.heap.size + 1, 5, none⟩ (.int .i64 le2)).setCell ⟨w.heap.size + 1, 6, none⟩ (.bool long2)).heap[w.heap.size + 1]? = some (.cells #[.int .i64 cla2, .int .i64 ins2, .int .i64 p12, .int .i64 p22, .slice A4 dat2.length c4, .int .i64 le2, .bool long2] 30 (0, 0)) ∧ SL (((((((w6.setCell ⟨w.heap.size + 1, 0, none⟩ (.int .i64 cla2)).setCell ⟨w.heap.size + 1, 1, none⟩ (.int .i64 ins2)).setCell ⟨w.heap.size + 1, 2, none⟩ (.int .i64 p12)).setCell ⟨w.heap.size + 1, 3, none⟩ (.int .i64 p22)).setCell ⟨w.heap.size + 1, 4, none⟩ (.slice A4 dat2.length c4)).setCell ⟨w.heap.size + 1, 5, none⟩ (.int .i64 le2)).setCell ⟨w.heap.size + 1, 6, none⟩ (.bool long2)) (((((((w6.setCell ⟨w.heap.size + 1, 0, none⟩ (.int .i64 cla2)).setCell ⟨w.heap.size + 1, 1, none⟩ (.int .i64 ins2)).setCell ⟨w.heap.size + 1, 2, none⟩ (.int .i64 p12)).setCell ⟨w.heap.size + 1, 3, none⟩ (.int .i64 p22)).setCell ⟨w.heap.size + 1, 4, none⟩ (.slice A4 dat2.length c4)).setCell ⟨w.heap.size + 1, 5, none⟩ (.int .i64 le2)).setCell ⟨w.heap.size + 1, 6, none⟩ (.bool long2)).heap.size (.slice A4 dat2.length c4) dat2 ∧ CH (((((((w6.setCell ⟨w.heap.size + 1, 0, none⟩ (.int .i64 cla2)).setCell ⟨w.heap.size + 1, 1, none⟩ (.int .i64 ins2)).setCell ⟨w.heap.size + 1, 2, none⟩ (.int .i64 p12)).setCell ⟨w.heap.size + 1, 3, none⟩ (.int .i64 p22)).setCell ⟨w.heap.size + 1, 4, none⟩ (.slice A4 dat2.length c4)).setCell ⟨w.heap.size + 1, 5, none⟩ (.int .i64 le2)).setCell ⟨w.heap.size + 1, 6, none⟩ (.bool long2)) g s2 ∧ Kb g w (((((((w6.setCell ⟨w.heap.size + 1, 0, none⟩ (.int .i64 cla2)).setCell ⟨w.heap.size + 1, 1, none⟩ (.int .i64 ins2)).setCell ⟨w.heap.size + 1, 2, none⟩ (.int .i64 p12)).setCell ⟨w.heap.size + 1, 3, none⟩ (.int .i64 p22)).setCell ⟨w.heap.size + 1, 4, none⟩ (.slice A4 dat2.length c4)).setCell ⟨w.heap.size + 1, 5, none⟩ (.int .i64 le2)).setCell ⟨w.heap.size + 1, 6, none⟩ (.bool long2)) := by
  have hkb := kb7 (W := w6) (b := w.heap.size + 1) (.int .i64 cla2) (.int .i64 ins2) (.int .i64 p12) (.int .i64 p22) (.slice A4 dat2.length c4) (.int .i64 le2) (.bool long2)
  refine ⟨row7st hr .., ((offC hr (cm_cells _ _ _ _ _ _ _ _ _) hv (Nat.le_refl _)).kb hkb).sl, hc.keepb hr (cm_cells _ _ _ _ _ _ _ _ _) (by omega) hkb, ?_⟩
  have h0 := hk.far (Nat.le_succ _) 0 (.int .i64 cla2)
  have h1 := h0.far (Nat.le_succ _) 1 (.int .i64 ins2)
  have h2 := h1.far (Nat.le_succ _) 2 (.int .i64 p12)
  have h3 := h2.far (Nat.le_succ _) 3 (.int .i64 p22)
  have h4 := h3.far (Nat.le_succ _) 4 (.slice A4 dat2.length c4)
  have h5 := h4.far (Nat.le_succ _) 5 (.int .i64 le2)
  have h6 := h5.far (Nat.le_succ _) 6 (.bool long2)
  exact h6
set_option maxRecDepth 100000 in
set_option maxHeartbeats 3200000 in
theorem pWrap_ok (g : Nat) (s : Ch) (x y : Cm) (A : Option Addr) (n k : Nat) (w : World) (h : CH w g s) (hv : s.cv.length = 8) (hcn : 0 ≤ s.cnt ∧ s.cnt ≤ 1000)
    (hw : ∀ W, Below w.heap.size w W → Calls Tryd.prog 26 #[.pointer (some ⟨g, 0, none⟩), x.val (.slice A n k)] W (WrP W y)) (hyl : y.data.length ≤ 2000) (hy8 : hasB s.lvl 1 = true → 8 ≤ y.data.length) :
    Calls Tryd.prog 10 #[.pointer (some ⟨g, 0, none⟩), x.val (.slice A n k)] w (WRP g s y w) := by
  have hlt := h.lt
  have hm := fun W (hW : Below w.heap.size w W) => pmade_any g s W (h.below hW)
  rw [hv, show decide (0 < 8) = true from rfl] at hm
  have hnx := fun W A4 c4 (hW : Below w.heap.size w W) (hd : SL W W.heap.size (.slice A4 y.data.length c4) y.data) => pnext_any g s y A4 c4 W (h.below hW) hd hyl hy8 hcn
  have hP : Hid (∀ e v w', e = .returned (.tuple #[y.val v, .int .i64 0]) → SL w' w'.heap.size v y.data → CH w' g (s.next y.data) → Kb g w w' → WRP g s y w e w') := fun e v w' he h1 h2 h3 => ⟨v, he, h1, h2, h3⟩
  have HOF : Hid (∀ (W : World) v l, Below w.heap.size w W → SL W W.heap.size v l → FL g W v l) := fun W v l hW hv => (h.below hW).off hv (Nat.le_refl _)
  generalize WRP g s y w = Q at *
  unfold WrP at hw
  generalize s.next y.data = s2 at *
  obtain ⟨cla, ins, p1, p2, data, le, long⟩ := x
  obtain ⟨cla2, ins2, p12, p22, dat2, le2, long2⟩ := y
  simp only [Cm.val] at *
  have hb := alloc2_below w (Obj.cells #[.int .i64 cla, .int .i64 ins, .int .i64 p1, .int .i64 p2, .slice A n k, .int .i64 le, .bool long] 30) (Obj.cells #[.int .i64 0, .int .i64 0, .int .i64 0, .int .i64 0, .slice none 0 0, .int .i64 0, .bool false] 30)
  have HB := Lib.hid hb
  have HM := Lib.hid (hm _ hb)
  have HW := Lib.hid (hw _ hb)
  have HN2 := Lib.hid (heap2_new w (Obj.cells #[.int .i64 cla, .int .i64 ins, .int .i64 p1, .int .i64 p2, .slice A n k, .int .i64 le, .bool long] 30) (Obj.cells #[.int .i64 0, .int .i64 0, .int .i64 0, .int .i64 0, .slice none 0 0, .int .i64 0, .bool false] 30))
  have HZ : Hid (((w.alloc (Obj.cells #[.int .i64 cla, .int .i64 ins, .int .i64 p1, .int .i64 p2, .slice A n k, .int .i64 le, .bool long] 30)).alloc (Obj.cells #[.int .i64 0, .int .i64 0, .int .i64 0, .int .i64 0, .slice none 0 0, .int .i64 0, .bool false] 30)).heap.size = w.heap.size + 2) := by show _ = _; rw [alloc_size, alloc_size]
  have HNX := Lib.hid hnx
  have HLT := Lib.hid hlt
  clear h hv hcn hw hyl hy8 hm hnx hb hlt
  go_enter Tryd.func10, Tryd.ntmps10
  go_wp2_with (go_at_call 25; refine HM.out.mono ?_; rintro e w' ⟨rfl, rfl⟩)
  refine HW.out.mono ?_
  rintro e w4 ⟨v4, rfl, hv4, hb4⟩
  obtain ⟨A4, c4, rfl, _, _, _⟩ := id hv4
  have hz4 := hb4.size
  rw [HZ.out] at hz4
  have HB4 := Lib.hid (HB.out.trans (hb4.mono HB.out.size))
  have HV4 := Lib.hid hv4
  have HN4 := Lib.hid ((hb4.block _ (blk_lt HN2.out)).trans HN2.out)
  clear hv4 hb4
  go_wp2_with fail
  refine (pcode_nil _).mono ?_
  rintro e w5 ⟨rfl, hb5⟩
  have HA := Lib.hid (alloc_below w4 (Obj.cells #[.int .i64 cla2, .int .i64 ins2, .int .i64 p12, .int .i64 p22, .slice A4 dat2.length c4, .int .i64 le2, .bool long2] 30))
  have HB5 := Lib.hid ((HB4.out.trans (HA.out.mono HB4.out.size)).trans (hb5.mono (Nat.le_trans HB4.out.size HA.out.size)))
  have HV5 := Lib.hid ((HV4.out.on HA.out).on hb5)
  have HN5 := Lib.hid (rowC hb5 (rowC HA.out HN4.out))
  have HK5 := Lib.hid (rowC hb5 (heap_alloc_new w4 (Obj.cells #[.int .i64 cla2, .int .i64 ins2, .int .i64 p12, .int .i64 p22, .slice A4 dat2.length c4, .int .i64 le2, .bool long2] 30)))
  obtain ⟨⟨q0, q1, q2, q3, q4, q5, q6⟩, ⟨g0, g1, g2, g3, g4, g5, g6⟩⟩ := cells7 HK5.out
  clear hb5
  go_wp2_with fail
  refine (HNX.out _ _ _ HB5.out HV5.out).mono ?_
  rintro e w6 ⟨⟨u6, rfl⟩, hc6, hk6⟩
  have HK6 := Lib.hid ((hk6.block _ (blk_lt HK5.out) (by have := HLT.out; omega)).trans HK5.out)
  have HN6 := Lib.hid ((hk6.block _ (blk_lt HN5.out) (by have := HLT.out; omega)).trans HN5.out)
  have HF := Lib.hid (wrap_fin (cla2 := cla2) (ins2 := ins2) (p12 := p12) (p22 := p22) (le2 := le2) (long2 := long2) HLT.out ((Kb.of_below HB5.out).trans hk6) HN6.out hc6 ((HOF.out _ _ _ HB5.out HV5.out).kb hk6).sl)
  clear q0 q1 q2 q3 q4 q5 q6 g0 g1 g2 g3 g4 g5 g6 hc6 hk6
  obtain ⟨⟨q0, q1, q2, q3, q4, q5, q6⟩, ⟨g0, g1, g2, g3, g4, g5, g6⟩⟩ := cells7 HK6.out
  obtain ⟨⟨r0, r1, r2, r3, r4, r5, r6⟩, ⟨f0, f1, f2, f3, f4, f5, f6⟩⟩ := cells7 HN6.out
  have hx1 : w.heap.size + 1 ≠ w4.heap.size := by omega
  have hx2 : w4.heap.size ≠ w.heap.size + 1 := by omega
  go_wp2_with fail
  exact bodyPost_ret (results_cell2 rfl _ _ (w.heap.size + 1) 30 _ (0, 0) _ rfl HF.out.1 Tryd.underlying30 rfl (by kernel_rfl)) rfl (hP.out _ _ _ rfl HF.out.2.1 HF.out.2.2.1 HF.out.2.2.2)



set_option maxRecDepth 100000 in
set_option maxHeartbeats 3200000 in
theorem pWrap_bad (g : Nat) (s : Ch) (x : Cm) (E : Int) (A : Option Addr) (n k : Nat) (w : World) (h : CH w g s) (hv : s.cv.length = 8) (ht : ET w) (hE : E ≠ 0)
    (hw : ∀ W, Below w.heap.size w W → Calls Tryd.prog 26 #[.pointer (some ⟨g, 0, none⟩), x.val (.slice A n k)] W fun e w' => e = .returned (.tuple #[Cm.zero.val (.slice none 0 0), errV E]) ∧ Below W.heap.size W w') :
    Calls Tryd.prog 10 #[.pointer (some ⟨g, 0, none⟩), x.val (.slice A n k)] w fun e w' => e = .returned (.tuple #[Cm.zero.val (.slice none 0 0), .int .i64 E]) ∧ Below w.heap.size w w' := by
  have hm := fun W (hW : Below w.heap.size w W) => pmade_any g s W (h.below hW)
  rw [hv, show decide (0 < 8) = true from rfl] at hm
  have hco := fun W (hW : Below w.heap.size w W) => pcode_any E W (ht.on hW)
  unfold errV Cm.zero at *
  obtain ⟨cla, ins, p1, p2, data, le, long⟩ := x
  simp only [Cm.val] at *
  have hb := alloc2_below w (Obj.cells #[.int .i64 cla, .int .i64 ins, .int .i64 p1, .int .i64 p2, .slice A n k, .int .i64 le, .bool long] 30) (Obj.cells #[.int .i64 0, .int .i64 0, .int .i64 0, .int .i64 0, .slice none 0 0, .int .i64 0, .bool false] 30)
  have HB := Lib.hid hb
  have HM := Lib.hid (hm _ hb)
  have HW := Lib.hid (hw _ hb)
  have HN2 := Lib.hid (heap2_new w (Obj.cells #[.int .i64 cla, .int .i64 ins, .int .i64 p1, .int .i64 p2, .slice A n k, .int .i64 le, .bool long] 30) (Obj.cells #[.int .i64 0, .int .i64 0, .int .i64 0, .int .i64 0, .slice none 0 0, .int .i64 0, .bool false] 30))
  have HZ : Hid (((w.alloc (Obj.cells #[.int .i64 cla, .int .i64 ins, .int .i64 p1, .int .i64 p2, .slice A n k, .int .i64 le, .bool long] 30)).alloc (Obj.cells #[.int .i64 0, .int .i64 0, .int .i64 0, .int .i64 0, .slice none 0 0, .int .i64 0, .bool false] 30)).heap.size = w.heap.size + 2) := by show _ = _; rw [alloc_size, alloc_size]
  have HCO := Lib.hid hco
  have hne : (E != 0) = true := by rw [bne_iff_ne]; exact hE
  clear h hv hw hm hb ht hco
  go_enter Tryd.func10, Tryd.ntmps10
  go_wp2_with (go_at_call 25; refine HM.out.mono ?_; rintro e w' ⟨rfl, rfl⟩)
  refine HW.out.mono ?_
  rintro e w4 ⟨rfl, hb4⟩
  have hz4 := hb4.size
  rw [HZ.out] at hz4
  have HB4 := Lib.hid (HB.out.trans (hb4.mono HB.out.size))
  have HN4 := Lib.hid ((hb4.block _ (blk_lt HN2.out)).trans HN2.out)
  clear hb4
  have HA := Lib.hid (alloc_below w4 (Obj.cells #[.int .i64 0, .int .i64 0, .int .i64 0, .int .i64 0, .slice none 0 0, .int .i64 0, .bool false] 30))
  have HBA := Lib.hid (HB4.out.trans (HA.out.mono HB4.out.size))
  go_wp2_with fail
  refine (HCO.out _ HBA.out).mono ?_
  rintro e w5 ⟨rfl, hb5⟩
  have HP5 : Hid (BP w.heap.size w w5) := (BP.mk HBA.out HBA.out.size).on hb5
  have HN5 := Lib.hid (rowC hb5 (rowC HA.out HN4.out))
  obtain ⟨⟨r0, r1, r2, r3, r4, r5, r6⟩, ⟨f0, f1, f2, f3, f4, f5, f6⟩⟩ := cells7 HN5.out
  clear hb5
  go_wp2_with fail
  exact bodyPost_ret (results_cell2 rfl _ _ (w.heap.size + 1) 30 #[.int .i64 0, .int .i64 0, .int .i64 0, .int .i64 0, .slice none 0 0, .int .i64 0, .bool false] (0, 0) _ rfl (row7st HN5.out ..) Tryd.underlying30 rfl (by kernel_rfl)) rfl ⟨rfl, (HP5.out.st7 (Nat.le_succ _) ..).b⟩

end Go.Proofs.YtdalcldilmmgmaaDoor
