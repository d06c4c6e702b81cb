/-
  The walk of unwrap where it ends early with an error.
-/
import Derived.Test.YtdalcldilmmgmaaDoorChz
namespace Go.Proofs.YtdalcldilmmgmaaDoor
set_option linter.unusedVariables false
set_option linter.unusedSimpArgs false
open Go.RowKit

/-- Why unwrap gives no command, before it looks at the data. -/
def unE (s : Ch) (x : Cm) : Int := if clE s x ≠ 0 then clE s x else if hasB s.lvl 1 = false ∧ (clsK x.cla).sec = true then 4 else 0
theorem unE_cl {s : Ch} {x : Cm} (h : clE s x ≠ 0) : unE s x = clE s x := by rw [unE, if_pos h]
theorem unE_sec {s : Ch} {x : Cm} (h : clE s x = 0) (hl : hasB s.lvl 1 = false) (hs : (clsK x.cla).sec = true) : unE s x = 4 := by rw [unE, if_neg (by rw [h]; simp), if_pos ⟨hl, hs⟩]
set_option maxRecDepth 100000 in
set_option maxHeartbeats 1600000 in
theorem punwrap_bad (g : Nat) (s : Ch) (x : Cm) (A : Option Addr) (k : Nat) (w : World) (h : CH w g s) (hle : -9223372036854775808 ≤ x.le ∧ x.le ≤ 9223372036854775807) (hE : unE s x ≠ 0) :
    Calls Tryd.prog 29 #[.pointer (some ⟨g, 0, none⟩), x.val (.slice A x.data.length k)] w fun e w' => e = .returned (.tuple #[Cm.zero.val (.slice none 0 0), errV (unE s x)]) ∧ Below w.heap.size w w' := by
  have hh := fun W (hW : Below w.heap.size w W) => phas_any g 1 s W (h.below hW)
  have hc := fun W (hW : Below w.heap.size w W) => pclass_any g s x A x.data.length k W (h.below hW) rfl hle
  obtain ⟨R, hR⟩ : ∃ R, R = clE s x := ⟨_, rfl⟩
  by_cases h0 : clE s x = 0
  · have hsl : hasB s.lvl 1 = false ∧ (clsK x.cla).sec = true := by
      by_cases hq : hasB s.lvl 1 = false ∧ (clsK x.cla).sec = true
      · exact hq
      · exact absurd (by rw [unE, if_neg (by rw [h0]; simp), if_neg hq]) hE
    obtain ⟨hlv, hs⟩ := hsl
    rw [hlv] at hh
    have HH := Lib.hid hh
    have HV : Hid (unE s x = 4) := unE_sec h0 hlv hs
    have hk : clK s x = clsK x.cla := by rw [clK, if_pos h0]
    have he : erV (clE s x) = .nilIface := by rw [h0]; rfl
    rw [hk, he] at hc
    obtain ⟨V, hV⟩ : ∃ V, V = errV (unE s x) := ⟨_, rfl⟩
    rw [← hV]
    rw [HV.out] at hV
    obtain ⟨cla, ins, p1, p2, data, le, long⟩ := x
    simp only [Cm.val] at *
    generalize clsK cla = K at *
    obtain ⟨kc, ks, kn, kp⟩ := K
    simp only at hs
    subst hs
    simp only [Kl.val] at hc
    have HVV := Lib.hid hV
    have hb := alloc2_below w (Obj.cells #[.int .i64 cla, .int .i64 ins, .int .i64 p1, .int .i64 p2, .slice A data.length k, .int .i64 le, .bool long] 30) (Obj.cells #[.int .i64 0, .int .i64 0, .int .i64 0, .int .i64 0, .slice none 0 0, .int .i64 0, .bool false] 30)
    have HC := Lib.hid (hc _ hb)
    have HB := Lib.hid hb
    have HN2 := Lib.hid (heap2_new w (Obj.cells #[.int .i64 cla, .int .i64 ins, .int .i64 p1, .int .i64 p2, .slice A data.length k, .int .i64 le, .bool long] 30) (Obj.cells #[.int .i64 0, .int .i64 0, .int .i64 0, .int .i64 0, .slice none 0 0, .int .i64 0, .bool false] 30))
    have HZ : Hid (((w.alloc (Obj.cells #[.int .i64 cla, .int .i64 ins, .int .i64 p1, .int .i64 p2, .slice A data.length k, .int .i64 le, .bool long] 30)).alloc (Obj.cells #[.int .i64 0, .int .i64 0, .int .i64 0, .int .i64 0, .slice none 0 0, .int .i64 0, .bool false] 30)).heap.size = w.heap.size + 2) := by show _ = _; rw [alloc_size, alloc_size]
    clear h hc hh hb hle hE hR h0 hk he HV hV hlv
    go_enter Tryd.func29, Tryd.ntmps29
    go_wp2_with fail
    refine HC.out.mono ?_
    rintro e w3 ⟨rfl, hb3⟩
    have hn3 := (hb3.block _ (blk_lt HN2.out)).trans HN2.out
    have hz3 := hb3.size
    rw [HZ.out] at hz3
    have HP3 : Hid (BP w.heap.size w w3) := ⟨HB.out.trans (hb3.mono HB.out.size), by omega⟩
    have HN3 := Lib.hid hn3
    have HF : Hid (∀ o : Obj, ∀ y0 y1 y2 y3 y4 y5 y6, BP w.heap.size w ((((((((w3.alloc o).setCell ⟨w.heap.size + 1, 0, none⟩ y0).setCell ⟨w.heap.size + 1, 1, none⟩ y1).setCell ⟨w.heap.size + 1, 2, none⟩ y2).setCell ⟨w.heap.size + 1, 3, none⟩ y3).setCell ⟨w.heap.size + 1, 4, none⟩ y4).setCell ⟨w.heap.size + 1, 5, none⟩ y5).setCell ⟨w.heap.size + 1, 6, none⟩ y6) ∧ ((((((((w3.alloc o).setCell ⟨w.heap.size + 1, 0, none⟩ y0).setCell ⟨w.heap.size + 1, 1, none⟩ y1).setCell ⟨w.heap.size + 1, 2, none⟩ y2).setCell ⟨w.heap.size + 1, 3, none⟩ y3).setCell ⟨w.heap.size + 1, 4, none⟩ y4).setCell ⟨w.heap.size + 1, 5, none⟩ y5).setCell ⟨w.heap.size + 1, 6, none⟩ y6).heap[w.heap.size + 1]? = some (.cells #[y0, y1, y2, y3, y4, y5, y6] 30 (0, 0))) := fun o y0 y1 y2 y3 y4 y5 y6 =>
      ⟨(HP3.out.al o).st7 (Nat.le_succ _) .., row7st (((alloc_below w3 o).block _ (blk_lt HN3.out)).trans HN3.out) ..⟩
    have hn4 := ((alloc_below w3 (Obj.cells #[.int .i64 kc, .bool true, .bool kn, .bool kp] 77)).block _ (blk_lt hn3)).trans hn3
    have r0 := cell_of_row _ _ 0 _ _ _ hn4
    have r1 := cell_of_row _ _ 1 _ _ _ hn4
    have r2 := cell_of_row _ _ 2 _ _ _ hn4
    have r3 := cell_of_row _ _ 3 _ _ _ hn4
    have r4 := cell_of_row _ _ 4 _ _ _ hn4
    have r5 := cell_of_row _ _ 5 _ _ _ hn4
    have r6 := cell_of_row _ _ 6 _ _ _ hn4
    have f0 := frozen_of_row _ _ 0 _ _ hn4
    have f1 := frozen_of_row _ _ 1 _ _ hn4
    have f2 := frozen_of_row _ _ 2 _ _ hn4
    have f3 := frozen_of_row _ _ 3 _ _ hn4
    have f4 := frozen_of_row _ _ 4 _ _ hn4
    have f5 := frozen_of_row _ _ 5 _ _ hn4
    have f6 := frozen_of_row _ _ 6 _ _ hn4
    have hx1 : w.heap.size + 1 ≠ w3.heap.size := by omega
    have hx2 : w3.heap.size ≠ w.heap.size + 1 := by omega
    clear hb3 hn3 hn4 hz3
    have hk1 := cell_of_row _ _ 1 _ _ _ (heap_alloc_new w3 (Obj.cells #[.int .i64 kc, .bool true, .bool kn, .bool kp] 77))
    go_wp2_with fail
    refine (HH.out _ (HP3.out.al _).b).mono ?_
    rintro e w5 ⟨rfl, rfl⟩
    go_wp2_with fail
    exact bodyPost_ret (results_cell2 rfl _ _ (w.heap.size + 1) 30 #[.int .i64 0, .int .i64 0, .int .i64 0, .int .i64 0, .slice none 0 0, .int .i64 0, .bool false] (0, 0) _ rfl (HF.out _ _ _ _ _ _ _ _).2 Tryd.underlying30 rfl (by kernel_rfl)) rfl ⟨by rw [HVV.out]; rfl, (HF.out _ _ _ _ _ _ _ _).1.b⟩
  · have HV : Hid (unE s x = clE s x) := unE_cl h0
    have hk : clK s x = ⟨0, false, false, false⟩ := by rw [clK, if_neg h0]
    have he : erV (clE s x) = errV (clE s x) := by rw [erV, if_neg h0]
    rw [hk, he] at hc
    obtain ⟨V, hV⟩ : ∃ V, V = errV (unE s x) := ⟨_, rfl⟩
    rw [← hV]
    rw [HV.out] at hV
    generalize clE s x = R2 at *
    obtain ⟨cla, ins, p1, p2, data, le, long⟩ := x
    simp only [Cm.val] at *
    simp only [Kl.val] at hc
    have HVV := Lib.hid hV
    unfold errV at hc
    have hb := alloc2_below w (Obj.cells #[.int .i64 cla, .int .i64 ins, .int .i64 p1, .int .i64 p2, .slice A data.length k, .int .i64 le, .bool long] 30) (Obj.cells #[.int .i64 0, .int .i64 0, .int .i64 0, .int .i64 0, .slice none 0 0, .int .i64 0, .bool false] 30)
    have HC := Lib.hid (hc _ hb)
    have HB := Lib.hid hb
    have HN2 := Lib.hid (heap2_new w (Obj.cells #[.int .i64 cla, .int .i64 ins, .int .i64 p1, .int .i64 p2, .slice A data.length k, .int .i64 le, .bool long] 30) (Obj.cells #[.int .i64 0, .int .i64 0, .int .i64 0, .int .i64 0, .slice none 0 0, .int .i64 0, .bool false] 30))
    have HZ : Hid (((w.alloc (Obj.cells #[.int .i64 cla, .int .i64 ins, .int .i64 p1, .int .i64 p2, .slice A data.length k, .int .i64 le, .bool long] 30)).alloc (Obj.cells #[.int .i64 0, .int .i64 0, .int .i64 0, .int .i64 0, .slice none 0 0, .int .i64 0, .bool false] 30)).heap.size = w.heap.size + 2) := by show _ = _; rw [alloc_size, alloc_size]
    clear h hc hh hb hle hE hR h0 hk he HV hV
    go_enter Tryd.func29, Tryd.ntmps29
    go_wp2_with fail
    refine HC.out.mono ?_
    rintro e w3 ⟨rfl, hb3⟩
    have hn3 := (hb3.block _ (blk_lt HN2.out)).trans HN2.out
    have hz3 := hb3.size
    rw [HZ.out] at hz3
    have HP3 : Hid (BP w.heap.size w w3) := ⟨HB.out.trans (hb3.mono HB.out.size), by omega⟩
    have HN3 := Lib.hid hn3
    have HF : Hid (∀ o : Obj, ∀ y0 y1 y2 y3 y4 y5 y6, BP w.heap.size w ((((((((w3.alloc o).setCell ⟨w.heap.size + 1, 0, none⟩ y0).setCell ⟨w.heap.size + 1, 1, none⟩ y1).setCell ⟨w.heap.size + 1, 2, none⟩ y2).setCell ⟨w.heap.size + 1, 3, none⟩ y3).setCell ⟨w.heap.size + 1, 4, none⟩ y4).setCell ⟨w.heap.size + 1, 5, none⟩ y5).setCell ⟨w.heap.size + 1, 6, none⟩ y6) ∧ ((((((((w3.alloc o).setCell ⟨w.heap.size + 1, 0, none⟩ y0).setCell ⟨w.heap.size + 1, 1, none⟩ y1).setCell ⟨w.heap.size + 1, 2, none⟩ y2).setCell ⟨w.heap.size + 1, 3, none⟩ y3).setCell ⟨w.heap.size + 1, 4, none⟩ y4).setCell ⟨w.heap.size + 1, 5, none⟩ y5).setCell ⟨w.heap.size + 1, 6, none⟩ y6).heap[w.heap.size + 1]? = some (.cells #[y0, y1, y2, y3, y4, y5, y6] 30 (0, 0))) := fun o y0 y1 y2 y3 y4 y5 y6 =>
      ⟨(HP3.out.al o).st7 (Nat.le_succ _) .., row7st (((alloc_below w3 o).block _ (blk_lt HN3.out)).trans HN3.out) ..⟩
    have hn4 := ((alloc_below w3 (Obj.cells #[.int .i64 0, .bool false, .bool false, .bool false] 77)).block _ (blk_lt hn3)).trans hn3
    have r0 := cell_of_row _ _ 0 _ _ _ hn4
    have r1 := cell_of_row _ _ 1 _ _ _ hn4
    have r2 := cell_of_row _ _ 2 _ _ _ hn4
    have r3 := cell_of_row _ _ 3 _ _ _ hn4
    have r4 := cell_of_row _ _ 4 _ _ _ hn4
    have r5 := cell_of_row _ _ 5 _ _ _ hn4
    have r6 := cell_of_row _ _ 6 _ _ _ hn4
    have f0 := frozen_of_row _ _ 0 _ _ hn4
    have f1 := frozen_of_row _ _ 1 _ _ hn4
    have f2 := frozen_of_row _ _ 2 _ _ hn4
    have f3 := frozen_of_row _ _ 3 _ _ hn4
    have f4 := frozen_of_row _ _ 4 _ _ hn4
    have f5 := frozen_of_row _ _ 5 _ _ hn4
    have f6 := frozen_of_row _ _ 6 _ _ hn4
    have hx1 : w.heap.size + 1 ≠ w3.heap.size := by omega
    have hx2 : w3.heap.size ≠ w.heap.size + 1 := by omega
    clear hb3 hn3 hn4 hz3
    go_wp2_with fail
    exact bodyPost_ret (results_cell2 rfl _ _ (w.heap.size + 1) 30 #[.int .i64 0, .int .i64 0, .int .i64 0, .int .i64 0, .slice none 0 0, .int .i64 0, .bool false] (0, 0) _ rfl (HF.out _ _ _ _ _ _ _ _).2 Tryd.underlying30 rfl (by kernel_rfl)) rfl ⟨by rw [HVV.out]; rfl, (HF.out _ _ _ _ _ _ _ _).1.b⟩
end Go.Proofs.YtdalcldilmmgmaaDoor
