/-
  The walk of unwrap without a MAC.
-/
import Derived.Test.YtdalcldilmmgmaaDoorCua
namespace Go.Proofs.YtdalcldilmmgmaaDoor
set_option linter.unusedVariables false
set_option linter.unusedSimpArgs false
open Go.RowKit

set_option maxRecDepth 100000 in
set_option maxHeartbeats 3200000 in
theorem punwrap_plain (g : Nat) (s : Ch) (x : Cm) (A : Option Addr) (k : Nat) (w : World) (h : CH w g s) (hle : -9223372036854775808 ≤ x.le ∧ x.le ≤ 9223372036854775807) (hE : unE s x = 0) (hL : hasB s.lvl 1 = false)
    (hd : SL w w.heap.size (.slice A x.data.length k) x.data) (hl : x.data.length ≤ 2000) :
    Calls Tryd.prog 29 #[.pointer (some ⟨g, 0, none⟩), x.val (.slice A x.data.length k)] w (WrP w x) := by
  have hc := fun W (hW : Below w.heap.size w W) => pclass_any g s x A x.data.length k W (h.below hW) rfl hle
  have hh := fun W (hW : Below w.heap.size w W) => phas_any g 1 s W (h.below hW)
  have hcl := fun W (hW : Below w.heap.size w W) => clone_any x.data _ W (hd.on hW) (by omega)
  rw [hL] at hh
  have h0 : clE s x = 0 := by
    by_cases q : clE s x = 0
    · exact q
    · rw [unE_cl q] at hE; exact absurd hE q
  have hs : (clsK x.cla).sec = false := by
    cases q : (clsK x.cla).sec with
    | false => rfl
    | true => rw [unE_sec h0 hL q] at hE; cases hE
  have hk : clK s x = clsK x.cla := by rw [clK, if_pos h0]
  have he : erV (clE s x) = .nilIface := by rw [h0]; rfl
  rw [hk, he] at hc
  have HP : Hid (∀ e v w', e = .returned (.tuple #[x.val v, .nilIface]) → SL w' w'.heap.size v x.data → Below w.heap.size w w' → WrP w x e w') := fun e v w' he h1 h2 => ⟨v, he, h1, h2⟩
  generalize WrP w x = Q at *
  obtain ⟨cla, ins, p1, p2, data, le, long⟩ := x
  simp only [Cm.val] at *
  generalize clsK cla = K at *
  obtain ⟨kc, ks, kn, kp⟩ := K
  simp only at hs
  subst hs
  simp only [Kl.val] at hc
  have hb := alloc2_below w (Obj.cells #[.int .i64 cla, .int .i64 ins, .int .i64 p1, .int .i64 p2, .slice A data.length k, .int .i64 le, .bool long] 30) (Obj.cells #[.int .i64 0, .int .i64 0, .int .i64 0, .int .i64 0, .slice none 0 0, .int .i64 0, .bool false] 30)
  have HC := Lib.hid (hc _ hb)
  have HB := Lib.hid hb
  have HN1 := Lib.hid (heap_alloc2_old w (Obj.cells #[.int .i64 cla, .int .i64 ins, .int .i64 p1, .int .i64 p2, .slice A data.length k, .int .i64 le, .bool long] 30) (Obj.cells #[.int .i64 0, .int .i64 0, .int .i64 0, .int .i64 0, .slice none 0 0, .int .i64 0, .bool false] 30))
  have HN2 := Lib.hid (heap2_new w (Obj.cells #[.int .i64 cla, .int .i64 ins, .int .i64 p1, .int .i64 p2, .slice A data.length k, .int .i64 le, .bool long] 30) (Obj.cells #[.int .i64 0, .int .i64 0, .int .i64 0, .int .i64 0, .slice none 0 0, .int .i64 0, .bool false] 30))
  have HZ : Hid (((w.alloc (Obj.cells #[.int .i64 cla, .int .i64 ins, .int .i64 p1, .int .i64 p2, .slice A data.length k, .int .i64 le, .bool long] 30)).alloc (Obj.cells #[.int .i64 0, .int .i64 0, .int .i64 0, .int .i64 0, .slice none 0 0, .int .i64 0, .bool false] 30)).heap.size = w.heap.size + 2) := by show _ = _; rw [alloc_size, alloc_size]
  have HH := Lib.hid hh
  have HCL := Lib.hid hcl
  clear h hc hb hle hE h0 hk he hh hcl hd hl hL
  go_enter Tryd.func29, Tryd.ntmps29
  go_wp2_with fail
  refine HC.out.mono ?_
  rintro e w3 ⟨rfl, hb3⟩
  have hz3 := hb3.size
  rw [HZ.out] at hz3
  have HP3 : Hid (BP w.heap.size w w3) := ⟨HB.out.trans (hb3.mono HB.out.size), by omega⟩
  have hx1 : w.heap.size + 1 ≠ w3.heap.size := by omega
  have hx2 : w3.heap.size ≠ w.heap.size + 1 := by omega
  have hx3 : w.heap.size ≠ w3.heap.size := by omega
  have m1 := ((alloc_below w3 (Obj.cells #[.int .i64 kc, .bool false, .bool kn, .bool kp] 77)).block _ (Nat.lt_of_lt_of_le (blk_lt HN1.out) hb3.size)).trans ((hb3.block _ (blk_lt HN1.out)).trans HN1.out)
  have m2 := ((alloc_below w3 (Obj.cells #[.int .i64 kc, .bool false, .bool kn, .bool kp] 77)).block _ (Nat.lt_of_lt_of_le (blk_lt HN2.out) hb3.size)).trans ((hb3.block _ (blk_lt HN2.out)).trans HN2.out)
  have M1 := Lib.hid m1
  have M2 := Lib.hid m2
  have HA := Lib.hid (HP3.out.al (Obj.cells #[.int .i64 kc, .bool false, .bool kn, .bool kp] 77))
  have q0 := cell_of_row _ _ 0 _ _ _ m1
  have q1 := cell_of_row _ _ 1 _ _ _ m1
  have q2 := cell_of_row _ _ 2 _ _ _ m1
  have q3 := cell_of_row _ _ 3 _ _ _ m1
  have q4 := cell_of_row _ _ 4 _ _ _ m1
  have q5 := cell_of_row _ _ 5 _ _ _ m1
  have q6 := cell_of_row _ _ 6 _ _ _ m1
  have g0 := frozen_of_row _ _ 0 _ _ m1
  have g1 := frozen_of_row _ _ 1 _ _ m1
  have g2 := frozen_of_row _ _ 2 _ _ m1
  have g3 := frozen_of_row _ _ 3 _ _ m1
  have g4 := frozen_of_row _ _ 4 _ _ m1
  have g5 := frozen_of_row _ _ 5 _ _ m1
  have g6 := frozen_of_row _ _ 6 _ _ m1
  have r0 := cell_of_row _ _ 0 _ _ _ m2
  have r1 := cell_of_row _ _ 1 _ _ _ m2
  have r2 := cell_of_row _ _ 2 _ _ _ m2
  have r3 := cell_of_row _ _ 3 _ _ _ m2
  have r4 := cell_of_row _ _ 4 _ _ _ m2
  have r5 := cell_of_row _ _ 5 _ _ _ m2
  have r6 := cell_of_row _ _ 6 _ _ _ m2
  have f0 := frozen_of_row _ _ 0 _ _ m2
  have f1 := frozen_of_row _ _ 1 _ _ m2
  have f2 := frozen_of_row _ _ 2 _ _ m2
  have f3 := frozen_of_row _ _ 3 _ _ m2
  have f4 := frozen_of_row _ _ 4 _ _ m2
  have f5 := frozen_of_row _ _ 5 _ _ m2
  have f6 := frozen_of_row _ _ 6 _ _ m2
  clear m1 m2 hz3 hb3
  go_wp2_with fail
  refine (HH.out _ HA.out.b).mono ?_
  rintro e w5 ⟨rfl, rfl⟩
  go_wp2_with fail
  refine (HH.out _ HA.out.b).mono ?_
  rintro e w5 ⟨rfl, rfl⟩
  go_wp2_with fail
  refine (HCL.out _ HA.out.b).mono ?_
  rintro e w6 ⟨v6, rfl, hv6, hb6⟩
  obtain ⟨A6, c6, rfl, _, _, _⟩ := id hv6
  have m1 := (hb6.block _ (blk_lt M1.out)).trans M1.out
  have m2 := (hb6.block _ (blk_lt M2.out)).trans M2.out
  have HFIN := Lib.hid (plain_fin (HA.out.on hb6) m1 m2 hv6)
  clear q0 q1 q2 q3 q4 q5 q6 g0 g1 g2 g3 g4 g5 g6 r0 r1 r2 r3 r4 r5 r6 f0 f1 f2 f3 f4 f5 f6
  have q0 := cell_of_row _ _ 0 _ _ _ m1
  have q1 := cell_of_row _ _ 1 _ _ _ m1
  have q2 := cell_of_row _ _ 2 _ _ _ m1
  have q3 := cell_of_row _ _ 3 _ _ _ m1
  have q4 := cell_of_row _ _ 4 _ _ _ m1
  have q5 := cell_of_row _ _ 5 _ _ _ m1
  have q6 := cell_of_row _ _ 6 _ _ _ m1
  have g0 := frozen_of_row _ _ 0 _ _ m1
  have g1 := frozen_of_row _ _ 1 _ _ m1
  have g2 := frozen_of_row _ _ 2 _ _ m1
  have g3 := frozen_of_row _ _ 3 _ _ m1
  have g4 := frozen_of_row _ _ 4 _ _ m1
  have g5 := frozen_of_row _ _ 5 _ _ m1
  have g6 := frozen_of_row _ _ 6 _ _ m1
  have r0 := cell_of_row _ _ 0 _ _ _ m2
  have r1 := cell_of_row _ _ 1 _ _ _ m2
  have r2 := cell_of_row _ _ 2 _ _ _ m2
  have r3 := cell_of_row _ _ 3 _ _ _ m2
  have r4 := cell_of_row _ _ 4 _ _ _ m2
  have r5 := cell_of_row _ _ 5 _ _ _ m2
  have r6 := cell_of_row _ _ 6 _ _ _ m2
  have f0 := frozen_of_row _ _ 0 _ _ m2
  have f1 := frozen_of_row _ _ 1 _ _ m2
  have f2 := frozen_of_row _ _ 2 _ _ m2
  have f3 := frozen_of_row _ _ 3 _ _ m2
  have f4 := frozen_of_row _ _ 4 _ _ m2
  have f5 := frozen_of_row _ _ 5 _ _ m2
  have f6 := frozen_of_row _ _ 6 _ _ m2
  have hy1 : w.heap.size + 1 ≠ w.heap.size := by omega
  have hy2 : w.heap.size ≠ w.heap.size + 1 := by omega
  clear m1 m2 hv6 hb6 hx1 hx2 hx3
  go_wp2_with fail
  exact bodyPost_ret (results_cell2 rfl _ _ (w.heap.size + 1) 30 _ (0, 0) _ rfl HFIN.out.2.1 Tryd.underlying30 rfl (by kernel_rfl)) rfl (HP.out _ _ _ rfl HFIN.out.2.2 HFIN.out.1.b)
end Go.Proofs.YtdalcldilmmgmaaDoor
