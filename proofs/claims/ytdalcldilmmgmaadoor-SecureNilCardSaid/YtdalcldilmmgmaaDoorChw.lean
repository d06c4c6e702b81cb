/-
  The walk of wrap without a MAC.
-/
import Derived.Test.YtdalcldilmmgmaaDoorChv
namespace Go.Proofs.YtdalcldilmmgmaaDoor
set_option linter.unusedVariables false
set_option linter.unusedSimpArgs false
open Go.RowKit

/-- A byte slice never lies in a row without bytes. -/
theorem offC {w : World} {g B : Nat} {v : Value} {l : List UInt8} {cs : Array Value} {t : TypeId} (hr : w.heap[g]? = some (.cells cs t (0, 0))) (hcs : ∀ (j : Nat) (z : Int), cs[j]? ≠ some (.int .u8 z)) (hv : SL w B v l) (hB : B ≤ w.heap.size) : FL g w v l := by
  obtain ⟨A, c, hv, k1, k2, k3⟩ := hv
  refine ⟨A, c, hv, k1, k2, fun hp => ?_⟩
  obtain ⟨b, o, hA, hb, hc⟩ := k3 hp
  refine ⟨b, o, hA, fun e => ?_, by omega, hc⟩
  subst e
  have h0 := hc 0 hp
  rw [cell_of_row _ _ _ _ _ _ hr] at h0
  exact hcs _ _ h0
theorem cm_cells (a b c d : Int) (v : Option Addr) (n k : Nat) (e : Int) (f : Bool) : ∀ (j : Nat) (z : Int), (#[Value.int .i64 a, .int .i64 b, .int .i64 c, .int .i64 d, .slice v n k, .int .i64 e, .bool f] : Array Value)[j]? ≠ some (.int .u8 z) := by
  intro j z
  rcases Nat.lt_or_ge j 7 with hj | hj
  · have : j = 0 ∨ j = 1 ∨ j = 2 ∨ j = 3 ∨ j = 4 ∨ j = 5 ∨ j = 6 := by omega
    rcases this with rfl | rfl | rfl | rfl | rfl | rfl | rfl <;> simp
  · rw [Array.getElem?_eq_none (by simp; omega)]; simp
theorem kb7 {W : World} {b : Nat} (y0 y1 y2 y3 y4 y5 y6 : Value) : Kb b W (((((((W.setCell ⟨b, 0, none⟩ y0).setCell ⟨b, 1, none⟩ y1).setCell ⟨b, 2, none⟩ y2).setCell ⟨b, 3, none⟩ y3).setCell ⟨b, 4, none⟩ y4).setCell ⟨b, 5, none⟩ y5).setCell ⟨b, 6, none⟩ y6) := by
  have h0 := (Kb.refl b W).set 0 y0
  have h1 := h0.set 1 y1
  have h2 := h1.set 2 y2
  have h3 := h2.set 3 y3
  have h4 := h3.set 4 y4
  have h5 := h4.set 5 y5
  have h6 := h5.set 6 y6
  exact h6
/-- What wrap gives where it gives a command. -/
def WrP (w : World) (y : Cm) (e : Ending) (w' : World) : Prop := ∃ v, e = .returned (.tuple #[y.val v, .nilIface]) ∧ SL w' w'.heap.size v y.data ∧ Below w.heap.size w w'
/-- What the walk without a MAC leaves. -/
theorem plain_fin {w w6 : World} {A A6 : Option Addr} {k c6 : Nat} {cla ins p1 p2 le : Int} {long : Bool} {data : List UInt8}
    (hB : BP w.heap.size w w6) (r1 : w6.heap[w.heap.size]? = some (.cells #[.int .i64 cla, .int .i64 ins, .int .i64 p1, .int .i64 p2, .slice A data.length k, .int .i64 le, .bool long] 30 (0, 0))) (r2 : w6.heap[w.heap.size + 1]? = some (.cells #[.int .i64 0, .int .i64 0, .int .i64 0, .int .i64 0, .slice none 0 0, .int .i64 0, .bool false] 30 (0, 0))) (hv : SL w6 w6.heap.size (.slice A6 data.length c6) data) :
    BP w.heap.size w ((((((((w6.setCell ⟨w.heap.size, 4, none⟩ (.slice A6 data.length c6)).setCell ⟨w.heap.size + 1, 0, none⟩ (.int .i64 cla)).setCell ⟨w.heap.size + 1, 1, none⟩ (.int .i64 ins)).setCell ⟨w.heap.size + 1, 2, none⟩ (.int .i64 p1)).setCell ⟨w.heap.size + 1, 3, none⟩ (.int .i64 p2)).setCell ⟨w.heap.size + 1, 4, none⟩ (.slice A6 data.length c6)).setCell ⟨w.heap.size + 1, 5, none⟩ (.int .i64 le)).setCell ⟨w.heap.size + 1, 6, none⟩ (.bool long)) ∧ ((((((((w6.setCell ⟨w.heap.size, 4, none⟩ (.slice A6 data.length c6)).setCell ⟨w.heap.size + 1, 0, none⟩ (.int .i64 cla)).setCell ⟨w.heap.size + 1, 1, none⟩ (.int .i64 ins)).setCell ⟨w.heap.size + 1, 2, none⟩ (.int .i64 p1)).setCell ⟨w.heap.size + 1, 3, none⟩ (.int .i64 p2)).setCell ⟨w.heap.size + 1, 4, none⟩ (.slice A6 data.length c6)).setCell ⟨w.heap.size + 1, 5, none⟩ (.int .i64 le)).setCell ⟨w.heap.size + 1, 6, none⟩ (.bool long)).heap[w.heap.size + 1]? = some (.cells #[.int .i64 cla, .int .i64 ins, .int .i64 p1, .int .i64 p2, .slice A6 data.length c6, .int .i64 le, .bool long] 30 (0, 0)) ∧ SL ((((((((w6.setCell ⟨w.heap.size, 4, none⟩ (.slice A6 data.length c6)).setCell ⟨w.heap.size + 1, 0, none⟩ (.int .i64 cla)).setCell ⟨w.heap.size + 1, 1, none⟩ (.int .i64 ins)).setCell ⟨w.heap.size + 1, 2, none⟩ (.int .i64 p1)).setCell ⟨w.heap.size + 1, 3, none⟩ (.int .i64 p2)).setCell ⟨w.heap.size + 1, 4, none⟩ (.slice A6 data.length c6)).setCell ⟨w.heap.size + 1, 5, none⟩ (.int .i64 le)).setCell ⟨w.heap.size + 1, 6, none⟩ (.bool long)) ((((((((w6.setCell ⟨w.heap.size, 4, none⟩ (.slice A6 data.length c6)).setCell ⟨w.heap.size + 1, 0, none⟩ (.int .i64 cla)).setCell ⟨w.heap.size + 1, 1, none⟩ (.int .i64 ins)).setCell ⟨w.heap.size + 1, 2, none⟩ (.int .i64 p1)).setCell ⟨w.heap.size + 1, 3, none⟩ (.int .i64 p2)).setCell ⟨w.heap.size + 1, 4, none⟩ (.slice A6 data.length c6)).setCell ⟨w.heap.size + 1, 5, none⟩ (.int .i64 le)).setCell ⟨w.heap.size + 1, 6, none⟩ (.bool long)).heap.size (.slice A6 data.length c6) data := by
  have b1 := hB.st (Nat.le_refl _) 4 (.slice A6 data.length c6)
  have s1 := ((offC r1 (cm_cells _ _ _ _ _ _ _ _ _) hv (Nat.le_refl _)).kb ((Kb.refl _ _).set 4 (.slice A6 data.length c6))).sl
  have r3 : (w6.setCell ⟨w.heap.size, 4, none⟩ (.slice A6 data.length c6)).heap[w.heap.size + 1]? = some (.cells #[.int .i64 0, .int .i64 0, .int .i64 0, .int .i64 0, .slice none 0 0, .int .i64 0, .bool false] 30 (0, 0)) := (Below.heap_setCell _ _ _ _ (by show w.heap.size + 1 ≠ w.heap.size; omega)).trans r2
  generalize w6.setCell ⟨w.heap.size, 4, none⟩ (.slice A6 data.length c6) = W at *
  exact ⟨b1.st7 (Nat.le_succ _) .., row7st r3 .., ((offC r3 (cm_cells _ _ _ _ _ _ _ _ _) s1 (Nat.le_refl _)).kb (kb7 ..)).sl⟩

set_option maxRecDepth 100000 in
set_option maxHeartbeats 3200000 in
theorem pwrap_plain (g : Nat) (s : Ch) (x : Cm) (A : Option Addr) (k : Nat) (w : World) (h : CH w g s) (hle : -9223372036854775808 ≤ x.le ∧ x.le ≤ 9223372036854775807) (hE : wrE s x = 0) (hL : hasB s.lvl 1 = false)
    (hd : SL w w.heap.size (.slice A x.data.length k) x.data) (hl : x.data.length ≤ 2000) :
    Calls Tryd.prog 26 #[.pointer (some ⟨g, 0, none⟩), x.val (.slice A x.data.length k)] w (WrP w x) := by
  have hc := fun W (hW : Below w.heap.size w W) => pclass_any g s x A x.data.length k W (h.below hW) rfl hle
  have hh := fun W (hW : Below w.heap.size w W) => phas_any g 1 s W (h.below hW)
  have hcl := fun W (hW : Below w.heap.size w W) => clone_any x.data _ W (hd.on hW) (by omega)
  rw [hL] at hh
  have h0 : clE s x = 0 := by
    by_cases q : clE s x = 0
    · exact q
    · rw [wrE_cl q] at hE; exact absurd hE q
  have hs : (clsK x.cla).sec = false := by
    cases q : (clsK x.cla).sec with
    | false => rfl
    | true => rw [wrE_sec h0 q] at hE; cases hE
  have hk : clK s x = clsK x.cla := by rw [clK, if_pos h0]
  have he : erV (clE s x) = .nilIface := by rw [h0]; rfl
  rw [hk, he] at hc
  have HP : Hid (∀ e v w', e = .returned (.tuple #[x.val v, .nilIface]) → SL w' w'.heap.size v x.data → Below w.heap.size w w' → WrP w x e w') := fun e v w' he h1 h2 => ⟨v, he, h1, h2⟩
  generalize WrP w x = Q at *
  obtain ⟨cla, ins, p1, p2, data, le, long⟩ := x
  simp only [Cm.val] at *
  generalize clsK cla = K at *
  obtain ⟨kc, ks, kn, kp⟩ := K
  simp only at hs
  subst hs
  simp only [Kl.val] at hc
  have hb := alloc2_below w (Obj.cells #[.int .i64 cla, .int .i64 ins, .int .i64 p1, .int .i64 p2, .slice A data.length k, .int .i64 le, .bool long] 30) (Obj.cells #[.int .i64 0, .int .i64 0, .int .i64 0, .int .i64 0, .slice none 0 0, .int .i64 0, .bool false] 30)
  have HC := Lib.hid (hc _ hb)
  have HB := Lib.hid hb
  have HN1 := Lib.hid (heap_alloc2_old w (Obj.cells #[.int .i64 cla, .int .i64 ins, .int .i64 p1, .int .i64 p2, .slice A data.length k, .int .i64 le, .bool long] 30) (Obj.cells #[.int .i64 0, .int .i64 0, .int .i64 0, .int .i64 0, .slice none 0 0, .int .i64 0, .bool false] 30))
  have HN2 := Lib.hid (heap2_new w (Obj.cells #[.int .i64 cla, .int .i64 ins, .int .i64 p1, .int .i64 p2, .slice A data.length k, .int .i64 le, .bool long] 30) (Obj.cells #[.int .i64 0, .int .i64 0, .int .i64 0, .int .i64 0, .slice none 0 0, .int .i64 0, .bool false] 30))
  have HZ : Hid (((w.alloc (Obj.cells #[.int .i64 cla, .int .i64 ins, .int .i64 p1, .int .i64 p2, .slice A data.length k, .int .i64 le, .bool long] 30)).alloc (Obj.cells #[.int .i64 0, .int .i64 0, .int .i64 0, .int .i64 0, .slice none 0 0, .int .i64 0, .bool false] 30)).heap.size = w.heap.size + 2) := by show _ = _; rw [alloc_size, alloc_size]
  have HH := Lib.hid hh
  have HCL := Lib.hid hcl
  clear h hc hb hle hE h0 hk he hh hcl hd hl hL
  go_enter Tryd.func26, Tryd.ntmps26
  go_wp2_with fail
  refine HC.out.mono ?_
  rintro e w3 ⟨rfl, hb3⟩
  have hz3 := hb3.size
  rw [HZ.out] at hz3
  have HP3 : Hid (BP w.heap.size w w3) := ⟨HB.out.trans (hb3.mono HB.out.size), by omega⟩
  have hx1 : w.heap.size + 1 ≠ w3.heap.size := by omega
  have hx2 : w3.heap.size ≠ w.heap.size + 1 := by omega
  have hx3 : w.heap.size ≠ w3.heap.size := by omega
  have m1 := ((alloc_below w3 (Obj.cells #[.int .i64 kc, .bool false, .bool kn, .bool kp] 77)).block _ (Nat.lt_of_lt_of_le (blk_lt HN1.out) hb3.size)).trans ((hb3.block _ (blk_lt HN1.out)).trans HN1.out)
  have m2 := ((alloc_below w3 (Obj.cells #[.int .i64 kc, .bool false, .bool kn, .bool kp] 77)).block _ (Nat.lt_of_lt_of_le (blk_lt HN2.out) hb3.size)).trans ((hb3.block _ (blk_lt HN2.out)).trans HN2.out)
  have M1 := Lib.hid m1
  have M2 := Lib.hid m2
  have HA := Lib.hid (HP3.out.al (Obj.cells #[.int .i64 kc, .bool false, .bool kn, .bool kp] 77))
  have q0 := cell_of_row _ _ 0 _ _ _ m1
  have q1 := cell_of_row _ _ 1 _ _ _ m1
  have q2 := cell_of_row _ _ 2 _ _ _ m1
  have q3 := cell_of_row _ _ 3 _ _ _ m1
  have q4 := cell_of_row _ _ 4 _ _ _ m1
  have q5 := cell_of_row _ _ 5 _ _ _ m1
  have q6 := cell_of_row _ _ 6 _ _ _ m1
  have g0 := frozen_of_row _ _ 0 _ _ m1
  have g1 := frozen_of_row _ _ 1 _ _ m1
  have g2 := frozen_of_row _ _ 2 _ _ m1
  have g3 := frozen_of_row _ _ 3 _ _ m1
  have g4 := frozen_of_row _ _ 4 _ _ m1
  have g5 := frozen_of_row _ _ 5 _ _ m1
  have g6 := frozen_of_row _ _ 6 _ _ m1
  have r0 := cell_of_row _ _ 0 _ _ _ m2
  have r1 := cell_of_row _ _ 1 _ _ _ m2
  have r2 := cell_of_row _ _ 2 _ _ _ m2
  have r3 := cell_of_row _ _ 3 _ _ _ m2
  have r4 := cell_of_row _ _ 4 _ _ _ m2
  have r5 := cell_of_row _ _ 5 _ _ _ m2
  have r6 := cell_of_row _ _ 6 _ _ _ m2
  have f0 := frozen_of_row _ _ 0 _ _ m2
  have f1 := frozen_of_row _ _ 1 _ _ m2
  have f2 := frozen_of_row _ _ 2 _ _ m2
  have f3 := frozen_of_row _ _ 3 _ _ m2
  have f4 := frozen_of_row _ _ 4 _ _ m2
  have f5 := frozen_of_row _ _ 5 _ _ m2
  have f6 := frozen_of_row _ _ 6 _ _ m2
  clear m1 m2 hz3 hb3
  go_wp2_with fail
  refine (HH.out _ HA.out.b).mono ?_
  rintro e w5 ⟨rfl, rfl⟩
  go_wp2_with fail
  refine (HCL.out _ HA.out.b).mono ?_
  rintro e w6 ⟨v6, rfl, hv6, hb6⟩
  obtain ⟨A6, c6, rfl, _, _, _⟩ := id hv6
  have m1 := (hb6.block _ (blk_lt M1.out)).trans M1.out
  have m2 := (hb6.block _ (blk_lt M2.out)).trans M2.out
  have HFIN := Lib.hid (plain_fin (HA.out.on hb6) m1 m2 hv6)
  clear q0 q1 q2 q3 q4 q5 q6 g0 g1 g2 g3 g4 g5 g6 r0 r1 r2 r3 r4 r5 r6 f0 f1 f2 f3 f4 f5 f6
  have q0 := cell_of_row _ _ 0 _ _ _ m1
  have q1 := cell_of_row _ _ 1 _ _ _ m1
  have q2 := cell_of_row _ _ 2 _ _ _ m1
  have q3 := cell_of_row _ _ 3 _ _ _ m1
  have q4 := cell_of_row _ _ 4 _ _ _ m1
  have q5 := cell_of_row _ _ 5 _ _ _ m1
  have q6 := cell_of_row _ _ 6 _ _ _ m1
  have g0 := frozen_of_row _ _ 0 _ _ m1
  have g1 := frozen_of_row _ _ 1 _ _ m1
  have g2 := frozen_of_row _ _ 2 _ _ m1
  have g3 := frozen_of_row _ _ 3 _ _ m1
  have g4 := frozen_of_row _ _ 4 _ _ m1
  have g5 := frozen_of_row _ _ 5 _ _ m1
  have g6 := frozen_of_row _ _ 6 _ _ m1
  have r0 := cell_of_row _ _ 0 _ _ _ m2
  have r1 := cell_of_row _ _ 1 _ _ _ m2
  have r2 := cell_of_row _ _ 2 _ _ _ m2
  have r3 := cell_of_row _ _ 3 _ _ _ m2
  have r4 := cell_of_row _ _ 4 _ _ _ m2
  have r5 := cell_of_row _ _ 5 _ _ _ m2
  have r6 := cell_of_row _ _ 6 _ _ _ m2
  have f0 := frozen_of_row _ _ 0 _ _ m2
  have f1 := frozen_of_row _ _ 1 _ _ m2
  have f2 := frozen_of_row _ _ 2 _ _ m2
  have f3 := frozen_of_row _ _ 3 _ _ m2
  have f4 := frozen_of_row _ _ 4 _ _ m2
  have f5 := frozen_of_row _ _ 5 _ _ m2
  have f6 := frozen_of_row _ _ 6 _ _ m2
  have hy1 : w.heap.size + 1 ≠ w.heap.size := by omega
  have hy2 : w.heap.size ≠ w.heap.size + 1 := by omega
  clear m1 m2 hv6 hb6 hx1 hx2 hx3
  go_wp2_with fail
  exact bodyPost_ret (results_cell2 rfl _ _ (w.heap.size + 1) 30 _ (0, 0) _ rfl HFIN.out.2.1 Tryd.underlying30 rfl (by kernel_rfl)) rfl (HP.out _ _ _ rfl HFIN.out.2.2 HFIN.out.1.b)
end Go.Proofs.YtdalcldilmmgmaaDoor
