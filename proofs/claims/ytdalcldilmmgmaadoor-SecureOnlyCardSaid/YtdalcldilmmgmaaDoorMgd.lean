/-
  The walk of unwrap where it ends early with an error.
  The walk of unwrap without a MAC.
  The walk of unwrap where there is no MAC to look at.
  The walk of unwrap where the MAC is wrong.
  The walk of unwrap with the right MAC.
  The walk of Unwrap.
-/
import Derived.Test.YtdalcldilmmgmaaDoorMgc
namespace Go.Proofs.YtdalcldilmmgmaaDoor
set_option linter.unusedVariables false
set_option linter.unusedSimpArgs false
open Go.RowKit


/-- Why unwrap gives no command, before it looks at the data. -/
def unE (s : Ch) (x : Cm) : Int := if clE s x ≠ 0 then clE s x else if hasB s.lvl 1 = false ∧ (clsK x.cla).sec = true then 4 else 0
theorem unE_cl {s : Ch} {x : Cm} (h : clE s x ≠ 0) : unE s x = clE s x := by rw [unE, if_pos h]
theorem unE_sec {s : Ch} {x : Cm} (h : clE s x = 0) (hl : hasB s.lvl 1 = false) (hs : (clsK x.cla).sec = true) : unE s x = 4 := by rw [unE, if_neg (by rw [h]; simp), if_pos ⟨hl, hs⟩]
set_option maxRecDepth 100000 in
set_option maxHeartbeats 1600000 in
theorem punwrap_bad (g : Nat) (s : Ch) (x : Cm) (A : Option Addr) (k : Nat) (w : World) (h : CH w g s) (hle : -9223372036854775808 ≤ x.le ∧ x.le ≤ 9223372036854775807) (hE : unE s x ≠ 0) :
    Calls Tryd.prog 29 #[.pointer (some ⟨g, 0, none⟩), x.val (.slice A x.data.length k)] w fun e w' => e = .returned (.tuple #[Cm.zero.val (.slice none 0 0), errV (unE s x)]) ∧ Below w.heap.size w w' := by
  have hh := fun W (hW : Below w.heap.size w W) => phas_any g 1 s W (h.below hW)
  have hc := fun W (hW : Below w.heap.size w W) => pclass_any g s x A x.data.length k W (h.below hW) rfl hle
  obtain ⟨R, hR⟩ : ∃ R, R = clE s x := ⟨_, rfl⟩
  by_cases h0 : clE s x = 0
  · have hsl : hasB s.lvl 1 = false ∧ (clsK x.cla).sec = true := by
      by_cases hq : hasB s.lvl 1 = false ∧ (clsK x.cla).sec = true
      · exact hq
      · exact absurd (by rw [unE, if_neg (by rw [h0]; simp), if_neg hq]) hE
    obtain ⟨hlv, hs⟩ := hsl
    rw [hlv] at hh
    have HH := Lib.hid hh
    have HV : Hid (unE s x = 4) := unE_sec h0 hlv hs
    have hk : clK s x = clsK x.cla := by rw [clK, if_pos h0]
    have he : erV (clE s x) = .nilIface := by rw [h0]; rfl
    rw [hk, he] at hc
    obtain ⟨V, hV⟩ : ∃ V, V = errV (unE s x) := ⟨_, rfl⟩
    rw [← hV]
    rw [HV.out] at hV
    obtain ⟨cla, ins, p1, p2, data, le, long⟩ := x
    simp only [Cm.val] at *
    generalize clsK cla = K at *
    obtain ⟨kc, ks, kn, kp⟩ := K
    simp only at hs
    subst hs
    simp only [Kl.val] at hc
    have HVV := Lib.hid hV
    have hb := alloc2_below w (Obj.cells #[.int .i64 cla, .int .i64 ins, .int .i64 p1, .int .i64 p2, .slice A data.length k, .int .i64 le, .bool long] 30) (Obj.cells #[.int .i64 0, .int .i64 0, .int .i64 0, .int .i64 0, .slice none 0 0, .int .i64 0, .bool false] 30)
    have HC := Lib.hid (hc _ hb)
    have HB := Lib.hid hb
    have HN2 := Lib.hid (heap2_new w (Obj.cells #[.int .i64 cla, .int .i64 ins, .int .i64 p1, .int .i64 p2, .slice A data.length k, .int .i64 le, .bool long] 30) (Obj.cells #[.int .i64 0, .int .i64 0, .int .i64 0, .int .i64 0, .slice none 0 0, .int .i64 0, .bool false] 30))
    have HZ : Hid (((w.alloc (Obj.cells #[.int .i64 cla, .int .i64 ins, .int .i64 p1, .int .i64 p2, .slice A data.length k, .int .i64 le, .bool long] 30)).alloc (Obj.cells #[.int .i64 0, .int .i64 0, .int .i64 0, .int .i64 0, .slice none 0 0, .int .i64 0, .bool false] 30)).heap.size = w.heap.size + 2) := by show _ = _; rw [alloc_size, alloc_size]
    clear h hc hh hb hle hE hR h0 hk he HV hV hlv
    go_enter Tryd.func29, Tryd.ntmps29
    go_wp2_with fail
    refine HC.out.mono ?_
    rintro e w3 ⟨rfl, hb3⟩
    have hn3 := (hb3.block _ (blk_lt HN2.out)).trans HN2.out
    have hz3 := hb3.size
    rw [HZ.out] at hz3
    have HP3 : Hid (BP w.heap.size w w3) := ⟨HB.out.trans (hb3.mono HB.out.size), by omega⟩
    have HN3 := Lib.hid hn3
    have HF : Hid (∀ o : Obj, ∀ y0 y1 y2 y3 y4 y5 y6, BP w.heap.size w ((((((((w3.alloc o).setCell ⟨w.heap.size + 1, 0, none⟩ y0).setCell ⟨w.heap.size + 1, 1, none⟩ y1).setCell ⟨w.heap.size + 1, 2, none⟩ y2).setCell ⟨w.heap.size + 1, 3, none⟩ y3).setCell ⟨w.heap.size + 1, 4, none⟩ y4).setCell ⟨w.heap.size + 1, 5, none⟩ y5).setCell ⟨w.heap.size + 1, 6, none⟩ y6) ∧ ((((((((w3.alloc o).setCell ⟨w.heap.size + 1, 0, none⟩ y0).setCell ⟨w.heap.size + 1, 1, none⟩ y1).setCell ⟨w.heap.size + 1, 2, none⟩ y2).setCell ⟨w.heap.size + 1, 3, none⟩ y3).setCell ⟨w.heap.size + 1, 4, none⟩ y4).setCell ⟨w.heap.size + 1, 5, none⟩ y5).setCell ⟨w.heap.size + 1, 6, none⟩ y6).heap[w.heap.size + 1]? = some (.cells #[y0, y1, y2, y3, y4, y5, y6] 30 (0, 0))) := fun o y0 y1 y2 y3 y4 y5 y6 =>
      ⟨(HP3.out.al o).st7 (Nat.le_succ _) .., row7st (((alloc_below w3 o).block _ (blk_lt HN3.out)).trans HN3.out) ..⟩
    have hn4 := ((alloc_below w3 (Obj.cells #[.int .i64 kc, .bool true, .bool kn, .bool kp] 77)).block _ (blk_lt hn3)).trans hn3
    have r0 := cell_of_row _ _ 0 _ _ _ hn4
    have r1 := cell_of_row _ _ 1 _ _ _ hn4
    have r2 := cell_of_row _ _ 2 _ _ _ hn4
    have r3 := cell_of_row _ _ 3 _ _ _ hn4
    have r4 := cell_of_row _ _ 4 _ _ _ hn4
    have r5 := cell_of_row _ _ 5 _ _ _ hn4
    have r6 := cell_of_row _ _ 6 _ _ _ hn4
    have f0 := frozen_of_row _ _ 0 _ _ hn4
    have f1 := frozen_of_row _ _ 1 _ _ hn4
    have f2 := frozen_of_row _ _ 2 _ _ hn4
    have f3 := frozen_of_row _ _ 3 _ _ hn4
    have f4 := frozen_of_row _ _ 4 _ _ hn4
    have f5 := frozen_of_row _ _ 5 _ _ hn4
    have f6 := frozen_of_row _ _ 6 _ _ hn4
    have hx1 : w.heap.size + 1 ≠ w3.heap.size := by omega
    have hx2 : w3.heap.size ≠ w.heap.size + 1 := by omega
    clear hb3 hn3 hn4 hz3
    have hk1 := cell_of_row _ _ 1 _ _ _ (heap_alloc_new w3 (Obj.cells #[.int .i64 kc, .bool true, .bool kn, .bool kp] 77))
    go_wp2_with fail
    refine (HH.out _ (HP3.out.al _).b).mono ?_
    rintro e w5 ⟨rfl, rfl⟩
    go_wp2_with fail
    exact bodyPost_ret (results_cell2 rfl _ _ (w.heap.size + 1) 30 #[.int .i64 0, .int .i64 0, .int .i64 0, .int .i64 0, .slice none 0 0, .int .i64 0, .bool false] (0, 0) _ rfl (HF.out _ _ _ _ _ _ _ _).2 Tryd.underlying30 rfl (by kernel_rfl)) rfl ⟨by rw [HVV.out]; rfl, (HF.out _ _ _ _ _ _ _ _).1.b⟩
  · have HV : Hid (unE s x = clE s x) := unE_cl h0
    have hk : clK s x = ⟨0, false, false, false⟩ := by rw [clK, if_neg h0]
    have he : erV (clE s x) = errV (clE s x) := by rw [erV, if_neg h0]
    rw [hk, he] at hc
    obtain ⟨V, hV⟩ : ∃ V, V = errV (unE s x) := ⟨_, rfl⟩
    rw [← hV]
    rw [HV.out] at hV
    generalize clE s x = R2 at *
    obtain ⟨cla, ins, p1, p2, data, le, long⟩ := x
    simp only [Cm.val] at *
    simp only [Kl.val] at hc
    have HVV := Lib.hid hV
    unfold errV at hc
    have hb := alloc2_below w (Obj.cells #[.int .i64 cla, .int .i64 ins, .int .i64 p1, .int .i64 p2, .slice A data.length k, .int .i64 le, .bool long] 30) (Obj.cells #[.int .i64 0, .int .i64 0, .int .i64 0, .int .i64 0, .slice none 0 0, .int .i64 0, .bool false] 30)
    have HC := Lib.hid (hc _ hb)
    have HB := Lib.hid hb
    have HN2 := Lib.hid (heap2_new w (Obj.cells #[.int .i64 cla, .int .i64 ins, .int .i64 p1, .int .i64 p2, .slice A data.length k, .int .i64 le, .bool long] 30) (Obj.cells #[.int .i64 0, .int .i64 0, .int .i64 0, .int .i64 0, .slice none 0 0, .int .i64 0, .bool false] 30))
    have HZ : Hid (((w.alloc (Obj.cells #[.int .i64 cla, .int .i64 ins, .int .i64 p1, .int .i64 p2, .slice A data.length k, .int .i64 le, .bool long] 30)).alloc (Obj.cells #[.int .i64 0, .int .i64 0, .int .i64 0, .int .i64 0, .slice none 0 0, .int .i64 0, .bool false] 30)).heap.size = w.heap.size + 2) := by show _ = _; rw [alloc_size, alloc_size]
    clear h hc hh hb hle hE hR h0 hk he HV hV
    go_enter Tryd.func29, Tryd.ntmps29
    go_wp2_with fail
    refine HC.out.mono ?_
    rintro e w3 ⟨rfl, hb3⟩
    have hn3 := (hb3.block _ (blk_lt HN2.out)).trans HN2.out
    have hz3 := hb3.size
    rw [HZ.out] at hz3
    have HP3 : Hid (BP w.heap.size w w3) := ⟨HB.out.trans (hb3.mono HB.out.size), by omega⟩
    have HN3 := Lib.hid hn3
    have HF : Hid (∀ o : Obj, ∀ y0 y1 y2 y3 y4 y5 y6, BP w.heap.size w ((((((((w3.alloc o).setCell ⟨w.heap.size + 1, 0, none⟩ y0).setCell ⟨w.heap.size + 1, 1, none⟩ y1).setCell ⟨w.heap.size + 1, 2, none⟩ y2).setCell ⟨w.heap.size + 1, 3, none⟩ y3).setCell ⟨w.heap.size + 1, 4, none⟩ y4).setCell ⟨w.heap.size + 1, 5, none⟩ y5).setCell ⟨w.heap.size + 1, 6, none⟩ y6) ∧ ((((((((w3.alloc o).setCell ⟨w.heap.size + 1, 0, none⟩ y0).setCell ⟨w.heap.size + 1, 1, none⟩ y1).setCell ⟨w.heap.size + 1, 2, none⟩ y2).setCell ⟨w.heap.size + 1, 3, none⟩ y3).setCell ⟨w.heap.size + 1, 4, none⟩ y4).setCell ⟨w.heap.size + 1, 5, none⟩ y5).setCell ⟨w.heap.size + 1, 6, none⟩ y6).heap[w.heap.size + 1]? = some (.cells #[y0, y1, y2, y3, y4, y5, y6] 30 (0, 0))) := fun o y0 y1 y2 y3 y4 y5 y6 =>
      ⟨(HP3.out.al o).st7 (Nat.le_succ _) .., row7st (((alloc_below w3 o).block _ (blk_lt HN3.out)).trans HN3.out) ..⟩
    have hn4 := ((alloc_below w3 (Obj.cells #[.int .i64 0, .bool false, .bool false, .bool false] 77)).block _ (blk_lt hn3)).trans hn3
    have r0 := cell_of_row _ _ 0 _ _ _ hn4
    have r1 := cell_of_row _ _ 1 _ _ _ hn4
    have r2 := cell_of_row _ _ 2 _ _ _ hn4
    have r3 := cell_of_row _ _ 3 _ _ _ hn4
    have r4 := cell_of_row _ _ 4 _ _ _ hn4
    have r5 := cell_of_row _ _ 5 _ _ _ hn4
    have r6 := cell_of_row _ _ 6 _ _ _ hn4
    have f0 := frozen_of_row _ _ 0 _ _ hn4
    have f1 := frozen_of_row _ _ 1 _ _ hn4
    have f2 := frozen_of_row _ _ 2 _ _ hn4
    have f3 := frozen_of_row _ _ 3 _ _ hn4
    have f4 := frozen_of_row _ _ 4 _ _ hn4
    have f5 := frozen_of_row _ _ 5 _ _ hn4
    have f6 := frozen_of_row _ _ 6 _ _ hn4
    have hx1 : w.heap.size + 1 ≠ w3.heap.size := by omega
    have hx2 : w3.heap.size ≠ w.heap.size + 1 := by omega
    clear hb3 hn3 hn4 hz3
    go_wp2_with fail
    exact bodyPost_ret (results_cell2 rfl _ _ (w.heap.size + 1) 30 #[.int .i64 0, .int .i64 0, .int .i64 0, .int .i64 0, .slice none 0 0, .int .i64 0, .bool false] (0, 0) _ rfl (HF.out _ _ _ _ _ _ _ _).2 Tryd.underlying30 rfl (by kernel_rfl)) rfl ⟨by rw [HVV.out]; rfl, (HF.out _ _ _ _ _ _ _ _).1.b⟩



set_option maxRecDepth 100000 in
set_option maxHeartbeats 3200000 in
theorem punwrap_plain (g : Nat) (s : Ch) (x : Cm) (A : Option Addr) (k : Nat) (w : World) (h : CH w g s) (hle : -9223372036854775808 ≤ x.le ∧ x.le ≤ 9223372036854775807) (hE : unE s x = 0) (hL : hasB s.lvl 1 = false)
    (hd : SL w w.heap.size (.slice A x.data.length k) x.data) (hl : x.data.length ≤ 2000) :
    Calls Tryd.prog 29 #[.pointer (some ⟨g, 0, none⟩), x.val (.slice A x.data.length k)] w (WrP w x) := by
  have hc := fun W (hW : Below w.heap.size w W) => pclass_any g s x A x.data.length k W (h.below hW) rfl hle
  have hh := fun W (hW : Below w.heap.size w W) => phas_any g 1 s W (h.below hW)
  have hcl := fun W (hW : Below w.heap.size w W) => clone_any x.data _ W (hd.on hW) (by omega)
  rw [hL] at hh
  have h0 : clE s x = 0 := by
    by_cases q : clE s x = 0
    · exact q
    · rw [unE_cl q] at hE; exact absurd hE q
  have hs : (clsK x.cla).sec = false := by
    cases q : (clsK x.cla).sec with
    | false => rfl
    | true => rw [unE_sec h0 hL q] at hE; cases hE
  have hk : clK s x = clsK x.cla := by rw [clK, if_pos h0]
  have he : erV (clE s x) = .nilIface := by rw [h0]; rfl
  rw [hk, he] at hc
  have HP : Hid (∀ e v w', e = .returned (.tuple #[x.val v, .nilIface]) → SL w' w'.heap.size v x.data → Below w.heap.size w w' → WrP w x e w') := fun e v w' he h1 h2 => ⟨v, he, h1, h2⟩
  generalize WrP w x = Q at *
  obtain ⟨cla, ins, p1, p2, data, le, long⟩ := x
  simp only [Cm.val] at *
  generalize clsK cla = K at *
  obtain ⟨kc, ks, kn, kp⟩ := K
  simp only at hs
  subst hs
  simp only [Kl.val] at hc
  have hb := alloc2_below w (Obj.cells #[.int .i64 cla, .int .i64 ins, .int .i64 p1, .int .i64 p2, .slice A data.length k, .int .i64 le, .bool long] 30) (Obj.cells #[.int .i64 0, .int .i64 0, .int .i64 0, .int .i64 0, .slice none 0 0, .int .i64 0, .bool false] 30)
  have HC := Lib.hid (hc _ hb)
  have HB := Lib.hid hb
  have HN1 := Lib.hid (heap_alloc2_old w (Obj.cells #[.int .i64 cla, .int .i64 ins, .int .i64 p1, .int .i64 p2, .slice A data.length k, .int .i64 le, .bool long] 30) (Obj.cells #[.int .i64 0, .int .i64 0, .int .i64 0, .int .i64 0, .slice none 0 0, .int .i64 0, .bool false] 30))
  have HN2 := Lib.hid (heap2_new w (Obj.cells #[.int .i64 cla, .int .i64 ins, .int .i64 p1, .int .i64 p2, .slice A data.length k, .int .i64 le, .bool long] 30) (Obj.cells #[.int .i64 0, .int .i64 0, .int .i64 0, .int .i64 0, .slice none 0 0, .int .i64 0, .bool false] 30))
  have HZ : Hid (((w.alloc (Obj.cells #[.int .i64 cla, .int .i64 ins, .int .i64 p1, .int .i64 p2, .slice A data.length k, .int .i64 le, .bool long] 30)).alloc (Obj.cells #[.int .i64 0, .int .i64 0, .int .i64 0, .int .i64 0, .slice none 0 0, .int .i64 0, .bool false] 30)).heap.size = w.heap.size + 2) := by show _ = _; rw [alloc_size, alloc_size]
  have HH := Lib.hid hh
  have HCL := Lib.hid hcl
  clear h hc hb hle hE h0 hk he hh hcl hd hl hL
  go_enter Tryd.func29, Tryd.ntmps29
  go_wp2_with fail
  refine HC.out.mono ?_
  rintro e w3 ⟨rfl, hb3⟩
  have hz3 := hb3.size
  rw [HZ.out] at hz3
  have HP3 : Hid (BP w.heap.size w w3) := ⟨HB.out.trans (hb3.mono HB.out.size), by omega⟩
  have hx1 : w.heap.size + 1 ≠ w3.heap.size := by omega
  have hx2 : w3.heap.size ≠ w.heap.size + 1 := by omega
  have hx3 : w.heap.size ≠ w3.heap.size := by omega
  have m1 := ((alloc_below w3 (Obj.cells #[.int .i64 kc, .bool false, .bool kn, .bool kp] 77)).block _ (Nat.lt_of_lt_of_le (blk_lt HN1.out) hb3.size)).trans ((hb3.block _ (blk_lt HN1.out)).trans HN1.out)
  have m2 := ((alloc_below w3 (Obj.cells #[.int .i64 kc, .bool false, .bool kn, .bool kp] 77)).block _ (Nat.lt_of_lt_of_le (blk_lt HN2.out) hb3.size)).trans ((hb3.block _ (blk_lt HN2.out)).trans HN2.out)
  have M1 := Lib.hid m1
  have M2 := Lib.hid m2
  have HA := Lib.hid (HP3.out.al (Obj.cells #[.int .i64 kc, .bool false, .bool kn, .bool kp] 77))
  have q0 := cell_of_row _ _ 0 _ _ _ m1
  have q1 := cell_of_row _ _ 1 _ _ _ m1
  have q2 := cell_of_row _ _ 2 _ _ _ m1
  have q3 := cell_of_row _ _ 3 _ _ _ m1
  have q4 := cell_of_row _ _ 4 _ _ _ m1
  have q5 := cell_of_row _ _ 5 _ _ _ m1
  have q6 := cell_of_row _ _ 6 _ _ _ m1
  have g0 := frozen_of_row _ _ 0 _ _ m1
  have g1 := frozen_of_row _ _ 1 _ _ m1
  have g2 := frozen_of_row _ _ 2 _ _ m1
  have g3 := frozen_of_row _ _ 3 _ _ m1
  have g4 := frozen_of_row _ _ 4 _ _ m1
  have g5 := frozen_of_row _ _ 5 _ _ m1
  have g6 := frozen_of_row _ _ 6 _ _ m1
  have r0 := cell_of_row _ _ 0 _ _ _ m2
  have r1 := cell_of_row _ _ 1 _ _ _ m2
  have r2 := cell_of_row _ _ 2 _ _ _ m2
  have r3 := cell_of_row _ _ 3 _ _ _ m2
  have r4 := cell_of_row _ _ 4 _ _ _ m2
  have r5 := cell_of_row _ _ 5 _ _ _ m2
  have r6 := cell_of_row _ _ 6 _ _ _ m2
  have f0 := frozen_of_row _ _ 0 _ _ m2
  have f1 := frozen_of_row _ _ 1 _ _ m2
  have f2 := frozen_of_row _ _ 2 _ _ m2
  have f3 := frozen_of_row _ _ 3 _ _ m2
  have f4 := frozen_of_row _ _ 4 _ _ m2
  have f5 := frozen_of_row _ _ 5 _ _ m2
  have f6 := frozen_of_row _ _ 6 _ _ m2
  clear m1 m2 hz3 hb3
  go_wp2_with fail
  refine (HH.out _ HA.out.b).mono ?_
  rintro e w5 ⟨rfl, rfl⟩
  go_wp2_with fail
  refine (HH.out _ HA.out.b).mono ?_
  rintro e w5 ⟨rfl, rfl⟩
  go_wp2_with fail
  refine (HCL.out _ HA.out.b).mono ?_
  rintro e w6 ⟨v6, rfl, hv6, hb6⟩
  obtain ⟨A6, c6, rfl, _, _, _⟩ := id hv6
  have m1 := (hb6.block _ (blk_lt M1.out)).trans M1.out
  have m2 := (hb6.block _ (blk_lt M2.out)).trans M2.out
  have HFIN := Lib.hid (plain_fin (HA.out.on hb6) m1 m2 hv6)
  clear q0 q1 q2 q3 q4 q5 q6 g0 g1 g2 g3 g4 g5 g6 r0 r1 r2 r3 r4 r5 r6 f0 f1 f2 f3 f4 f5 f6
  have q0 := cell_of_row _ _ 0 _ _ _ m1
  have q1 := cell_of_row _ _ 1 _ _ _ m1
  have q2 := cell_of_row _ _ 2 _ _ _ m1
  have q3 := cell_of_row _ _ 3 _ _ _ m1
  have q4 := cell_of_row _ _ 4 _ _ _ m1
  have q5 := cell_of_row _ _ 5 _ _ _ m1
  have q6 := cell_of_row _ _ 6 _ _ _ m1
  have g0 := frozen_of_row _ _ 0 _ _ m1
  have g1 := frozen_of_row _ _ 1 _ _ m1
  have g2 := frozen_of_row _ _ 2 _ _ m1
  have g3 := frozen_of_row _ _ 3 _ _ m1
  have g4 := frozen_of_row _ _ 4 _ _ m1
  have g5 := frozen_of_row _ _ 5 _ _ m1
  have g6 := frozen_of_row _ _ 6 _ _ m1
  have r0 := cell_of_row _ _ 0 _ _ _ m2
  have r1 := cell_of_row _ _ 1 _ _ _ m2
  have r2 := cell_of_row _ _ 2 _ _ _ m2
  have r3 := cell_of_row _ _ 3 _ _ _ m2
  have r4 := cell_of_row _ _ 4 _ _ _ m2
  have r5 := cell_of_row _ _ 5 _ _ _ m2
  have r6 := cell_of_row _ _ 6 _ _ _ m2
  have f0 := frozen_of_row _ _ 0 _ _ m2
  have f1 := frozen_of_row _ _ 1 _ _ m2
  have f2 := frozen_of_row _ _ 2 _ _ m2
  have f3 := frozen_of_row _ _ 3 _ _ m2
  have f4 := frozen_of_row _ _ 4 _ _ m2
  have f5 := frozen_of_row _ _ 5 _ _ m2
  have f6 := frozen_of_row _ _ 6 _ _ m2
  have hy1 : w.heap.size + 1 ≠ w.heap.size := by omega
  have hy2 : w.heap.size ≠ w.heap.size + 1 := by omega
  clear m1 m2 hv6 hb6 hx1 hx2 hx3
  go_wp2_with fail
  exact bodyPost_ret (results_cell2 rfl _ _ (w.heap.size + 1) 30 _ (0, 0) _ rfl HFIN.out.2.1 Tryd.underlying30 rfl (by kernel_rfl)) rfl (HP.out _ _ _ rfl HFIN.out.2.2 HFIN.out.1.b)



set_option maxRecDepth 100000 in
set_option maxHeartbeats 3200000 in
theorem punwrap_short (g : Nat) (s : Ch) (x : Cm) (A : Option Addr) (k : Nat) (w : World) (h : CH w g s) (hle : -9223372036854775808 ≤ x.le ∧ x.le ≤ 9223372036854775807) (h0 : clE s x = 0) (hL : hasB s.lvl 1 = true)
    (hS : (clsK x.cla).sec = false ∨ x.data.length < 8) (hd : SL w w.heap.size (.slice A x.data.length k) x.data) (hl : x.data.length ≤ 2000) :
    Calls Tryd.prog 29 #[.pointer (some ⟨g, 0, none⟩), x.val (.slice A x.data.length k)] w fun e w' => e = .returned (.tuple #[Cm.zero.val (.slice none 0 0), errV 5]) ∧ Below w.heap.size w w' := by
  have hc := fun W (hW : Below w.heap.size w W) => pclass_any g s x A x.data.length k W (h.below hW) rfl hle
  have hh := fun W (hW : Below w.heap.size w W) => phas_any g 1 s W (h.below hW)
  have hpa := fun W (hW : Below w.heap.size w W) => pparts_any x.data _ W (hd.on hW) hl
  rw [hL] at hh
  have hk : clK s x = clsK x.cla := by rw [clK, if_pos h0]
  have he : erV (clE s x) = .nilIface := by rw [h0]; rfl
  rw [hk, he] at hc
  unfold errV Cm.zero
  obtain ⟨cla, ins, p1, p2, data, le, long⟩ := x
  simp only [Cm.val] at *
  generalize clsK cla = K at *
  obtain ⟨kc, ks, kn, kp⟩ := K
  simp only at hS
  simp only [Kl.val] at hc
  have hb := alloc2_below w (Obj.cells #[.int .i64 cla, .int .i64 ins, .int .i64 p1, .int .i64 p2, .slice A data.length k, .int .i64 le, .bool long] 30) (Obj.cells #[.int .i64 0, .int .i64 0, .int .i64 0, .int .i64 0, .slice none 0 0, .int .i64 0, .bool false] 30)
  have HC := Lib.hid (hc _ hb)
  have HB := Lib.hid hb
  have HN1 := Lib.hid (heap_alloc2_old w (Obj.cells #[.int .i64 cla, .int .i64 ins, .int .i64 p1, .int .i64 p2, .slice A data.length k, .int .i64 le, .bool long] 30) (Obj.cells #[.int .i64 0, .int .i64 0, .int .i64 0, .int .i64 0, .slice none 0 0, .int .i64 0, .bool false] 30))
  have HN2 := Lib.hid (heap2_new w (Obj.cells #[.int .i64 cla, .int .i64 ins, .int .i64 p1, .int .i64 p2, .slice A data.length k, .int .i64 le, .bool long] 30) (Obj.cells #[.int .i64 0, .int .i64 0, .int .i64 0, .int .i64 0, .slice none 0 0, .int .i64 0, .bool false] 30))
  have HZ : Hid (((w.alloc (Obj.cells #[.int .i64 cla, .int .i64 ins, .int .i64 p1, .int .i64 p2, .slice A data.length k, .int .i64 le, .bool long] 30)).alloc (Obj.cells #[.int .i64 0, .int .i64 0, .int .i64 0, .int .i64 0, .slice none 0 0, .int .i64 0, .bool false] 30)).heap.size = w.heap.size + 2) := by show _ = _; rw [alloc_size, alloc_size]
  have HH := Lib.hid hh
  have HPA := Lib.hid hpa
  have HSS := Lib.hid hS
  clear h hc hb h0 hk he hh hpa hd hl hL hle hS
  go_enter Tryd.func29, Tryd.ntmps29
  go_wp2_with fail
  refine HC.out.mono ?_
  rintro e w3 ⟨rfl, hb3⟩
  have hz3 := hb3.size
  rw [HZ.out] at hz3
  have m1 := ((alloc_below w3 (Obj.cells #[.int .i64 kc, .bool ks, .bool kn, .bool kp] 77)).block _ (Nat.lt_of_lt_of_le (blk_lt HN1.out) hb3.size)).trans ((hb3.block _ (blk_lt HN1.out)).trans HN1.out)
  have m2 := ((alloc_below w3 (Obj.cells #[.int .i64 kc, .bool ks, .bool kn, .bool kp] 77)).block _ (Nat.lt_of_lt_of_le (blk_lt HN2.out) hb3.size)).trans ((hb3.block _ (blk_lt HN2.out)).trans HN2.out)
  have HW5 : Hid (WW w (w3.alloc (Obj.cells #[.int .i64 kc, .bool ks, .bool kn, .bool kp] 77)) w3.heap.size #[.int .i64 cla, .int .i64 ins, .int .i64 p1, .int .i64 p2, .slice A data.length k, .int .i64 le, .bool long] #[.int .i64 kc, .bool ks, .bool kn, .bool kp]) :=
    ⟨(BP.mk (HB.out.trans (hb3.mono HB.out.size)) (by omega)).al _, m1, m2, heap_alloc_new _ _, by omega⟩
  have hx1 : w.heap.size + 1 ≠ w3.heap.size := by omega
  have hx2 : w3.heap.size ≠ w.heap.size + 1 := by omega
  have hx3 : w.heap.size ≠ w3.heap.size := by omega
  have hx4 : w3.heap.size ≠ w.heap.size := by omega
  clear m1 m2 hz3 hb3
  obtain ⟨⟨q0, q1, q2, q3, q4, q5, q6⟩, ⟨g0, g1, g2, g3, g4, g5, g6⟩⟩ := cells7 HW5.out.r1
  obtain ⟨⟨r0, r1, r2, r3, r4, r5, r6⟩, ⟨f0, f1, f2, f3, f4, f5, f6⟩⟩ := cells7 HW5.out.r2
  obtain ⟨⟨t0, t1, t2, t3⟩, ⟨l0, l1, l2, l3⟩⟩ := cells4 HW5.out.r3
  go_wp2_with fail
  refine (HH.out _ HW5.out.bp.b).mono ?_
  rintro e w5 ⟨rfl, rfl⟩
  go_wp2_with fail
  refine (HH.out _ HW5.out.bp.b).mono ?_
  rintro e w5 ⟨rfl, rfl⟩
  go_wp2_with fail
  refine (HPA.out _ HW5.out.bp.b).mono ?_
  rintro e w6 ⟨hb6, hp⟩
  have HW6 := Lib.hid (HW5.out.on hb6)
  have HF : Hid (∀ y0 y1 y2 y3 y4 y5 y6, BP w.heap.size w (((((((w6.setCell ⟨w.heap.size + 1, 0, none⟩ y0).setCell ⟨w.heap.size + 1, 1, none⟩ y1).setCell ⟨w.heap.size + 1, 2, none⟩ y2).setCell ⟨w.heap.size + 1, 3, none⟩ y3).setCell ⟨w.heap.size + 1, 4, none⟩ y4).setCell ⟨w.heap.size + 1, 5, none⟩ y5).setCell ⟨w.heap.size + 1, 6, none⟩ y6) ∧ (((((((w6.setCell ⟨w.heap.size + 1, 0, none⟩ y0).setCell ⟨w.heap.size + 1, 1, none⟩ y1).setCell ⟨w.heap.size + 1, 2, none⟩ y2).setCell ⟨w.heap.size + 1, 3, none⟩ y3).setCell ⟨w.heap.size + 1, 4, none⟩ y4).setCell ⟨w.heap.size + 1, 5, none⟩ y5).setCell ⟨w.heap.size + 1, 6, none⟩ y6).heap[w.heap.size + 1]? = some (.cells #[y0, y1, y2, y3, y4, y5, y6] 30 (0, 0))) := fun y0 y1 y2 y3 y4 y5 y6 =>
    ⟨HW6.out.bp.st7 (Nat.le_succ _) .., row7st HW6.out.r2 ..⟩
  clear q0 q1 q2 q3 q4 q5 q6 g0 g1 g2 g3 g4 g5 g6 r0 r1 r2 r3 r4 r5 r6 f0 f1 f2 f3 f4 f5 f6 t0 t1 t2 t3 l0 l1 l2 l3 hb6
  obtain ⟨⟨q0, q1, q2, q3, q4, q5, q6⟩, ⟨g0, g1, g2, g3, g4, g5, g6⟩⟩ := cells7 HW6.out.r1
  obtain ⟨⟨r0, r1, r2, r3, r4, r5, r6⟩, ⟨f0, f1, f2, f3, f4, f5, f6⟩⟩ := cells7 HW6.out.r2
  obtain ⟨⟨t0, t1, t2, t3⟩, ⟨l0, l1, l2, l3⟩⟩ := cells4 HW6.out.r3
  by_cases h8 : data.length < 8
  · rw [if_pos h8] at hp
    subst hp
    clear h8
    cases ks with
    | false =>
      go_wp2_with fail
      exact bodyPost_ret (results_cell2 rfl _ _ (w.heap.size + 1) 30 #[.int .i64 0, .int .i64 0, .int .i64 0, .int .i64 0, .slice none 0 0, .int .i64 0, .bool false] (0, 0) _ rfl (HF.out ..).2 Tryd.underlying30 rfl (by kernel_rfl)) rfl ⟨rfl, (HF.out ..).1.b⟩
    | true =>
      go_wp2_with fail
      exact bodyPost_ret (results_cell2 rfl _ _ (w.heap.size + 1) 30 #[.int .i64 0, .int .i64 0, .int .i64 0, .int .i64 0, .slice none 0 0, .int .i64 0, .bool false] (0, 0) _ rfl (HF.out ..).2 Tryd.underlying30 rfl (by kernel_rfl)) rfl ⟨rfl, (HF.out ..).1.b⟩
  · rw [if_neg h8] at hp
    obtain ⟨v, u, rfl, _, _⟩ := hp
    have hks : ks = false := by
      rcases HSS.out with h | h
      · exact h
      · exact absurd h h8
    subst hks
    clear h8
    go_wp2_with fail
    exact bodyPost_ret (results_cell2 rfl _ _ (w.heap.size + 1) 30 #[.int .i64 0, .int .i64 0, .int .i64 0, .int .i64 0, .slice none 0 0, .int .i64 0, .bool false] (0, 0) _ rfl (HF.out ..).2 Tryd.underlying30 rfl (by kernel_rfl)) rfl ⟨rfl, (HF.out ..).1.b⟩



theorem beq_own (a b : List UInt8) (v u : Value) (w : World) (B : Nat) (ha : SL w B v a) (hb : SL w B u b) :
    Calls Tryd.prog 46 #[v, u] w fun e w' => e = .returned (.bool (a == b)) ∧ w = w' := by
  obtain ⟨A1, c1, rfl, h11, h12, h13⟩ := ha
  obtain ⟨A2, c2, rfl, h21, h22, h23⟩ := hb
  have hc := Tryd.bytes_Equal_all A1 A2 a.length c1 b.length c2 _ _ w (by simp) (by simp) (SL.bytesIn h13) (SL.bytesIn h23)
  rw [bytesOf_map, bytesOf_map] at hc
  exact hc.mono fun e w' ⟨h1, h2⟩ => ⟨h1, h2.symm⟩

set_option maxRecDepth 100000 in
set_option maxHeartbeats 3200000 in
theorem punwrap_wrong (g : Nat) (s : Ch) (x : Cm) (A : Option Addr) (k : Nat) (w : World) (h : CH w g s) (N : Nat) (hN : x.le = (N : Int)) (hN6 : N ≤ 65536) (hm16 : s.mac.length = 16) (hv8 : s.cv.length = 8) (h0 : clE s x = 0) (hL : hasB s.lvl 1 = true)
    (hS : (clsK x.cla).sec = true) (h8 : 8 ≤ x.data.length) (hM : x.data.drop (x.data.length - 8) ≠ cmF s x (x.data.take (x.data.length - 8))) (hd : SL w w.heap.size (.slice A x.data.length k) x.data) (hl : x.data.length ≤ 2000) :
    Calls Tryd.prog 29 #[.pointer (some ⟨g, 0, none⟩), x.val (.slice A x.data.length k)] w fun e w' => e = .returned (.tuple #[Cm.zero.val (.slice none 0 0), errV 17]) ∧ Below w.heap.size w w' := by
  have hc := fun W (hW : Below w.heap.size w W) => pclass_any g s x A x.data.length k W (h.below hW) rfl (by omega)
  have hmc := fun W vb (hW : Below w.heap.size w W) (hb : SL W W.heap.size vb (x.data.take (x.data.length - 8))) => pcmac_any g s x A x.data.length k _ vb N W (h.below hW) hm16 hv8 hN hN6 hb (by rw [List.length_take]; omega)
  have hMl : (cmF s x (x.data.take (x.data.length - 8))).length = 8 := macL_len _ _ _
  have hh := fun W (hW : Below w.heap.size w W) => phas_any g 1 s W (h.below hW)
  have hpa := fun W (hW : Below w.heap.size w W) => pparts_any x.data _ W (hd.on hW) hl
  rw [hL] at hh
  have hk : clK s x = clsK x.cla := by rw [clK, if_pos h0]
  have he : erV (clE s x) = .nilIface := by rw [h0]; rfl
  rw [hk, he] at hc
  unfold errV Cm.zero
  generalize cmF s x (x.data.take (x.data.length - 8)) = M at *
  obtain ⟨cla, ins, p1, p2, data, le, long⟩ := x
  simp only [Cm.val] at *
  generalize clsK cla = K at *
  obtain ⟨kc, ks, kn, kp⟩ := K
  simp only at hS hM hmc h8
  subst hS
  simp only [Kl.val] at hc
  have hb := alloc2_below w (Obj.cells #[.int .i64 cla, .int .i64 ins, .int .i64 p1, .int .i64 p2, .slice A data.length k, .int .i64 le, .bool long] 30) (Obj.cells #[.int .i64 0, .int .i64 0, .int .i64 0, .int .i64 0, .slice none 0 0, .int .i64 0, .bool false] 30)
  have HC := Lib.hid (hc _ hb)
  have HB := Lib.hid hb
  have HN1 := Lib.hid (heap_alloc2_old w (Obj.cells #[.int .i64 cla, .int .i64 ins, .int .i64 p1, .int .i64 p2, .slice A data.length k, .int .i64 le, .bool long] 30) (Obj.cells #[.int .i64 0, .int .i64 0, .int .i64 0, .int .i64 0, .slice none 0 0, .int .i64 0, .bool false] 30))
  have HN2 := Lib.hid (heap2_new w (Obj.cells #[.int .i64 cla, .int .i64 ins, .int .i64 p1, .int .i64 p2, .slice A data.length k, .int .i64 le, .bool long] 30) (Obj.cells #[.int .i64 0, .int .i64 0, .int .i64 0, .int .i64 0, .slice none 0 0, .int .i64 0, .bool false] 30))
  have HZ : Hid (((w.alloc (Obj.cells #[.int .i64 cla, .int .i64 ins, .int .i64 p1, .int .i64 p2, .slice A data.length k, .int .i64 le, .bool long] 30)).alloc (Obj.cells #[.int .i64 0, .int .i64 0, .int .i64 0, .int .i64 0, .slice none 0 0, .int .i64 0, .bool false] 30)).heap.size = w.heap.size + 2) := by show _ = _; rw [alloc_size, alloc_size]
  have HH := Lib.hid hh
  have HPA := Lib.hid hpa
  have HMC := Lib.hid hmc
  have HMM := Lib.hid hM
  have HML := Lib.hid hMl
  have H8 := Lib.hid h8
  clear h hc hb h0 hk he hh hpa hd hl hL hN hN6 hm16 hv8 hmc hM hMl h8
  go_enter Tryd.func29, Tryd.ntmps29
  go_wp2_with fail
  refine HC.out.mono ?_
  rintro e w3 ⟨rfl, hb3⟩
  have hz3 := hb3.size
  rw [HZ.out] at hz3
  have m1 := ((alloc_below w3 (Obj.cells #[.int .i64 kc, .bool true, .bool kn, .bool kp] 77)).block _ (Nat.lt_of_lt_of_le (blk_lt HN1.out) hb3.size)).trans ((hb3.block _ (blk_lt HN1.out)).trans HN1.out)
  have m2 := ((alloc_below w3 (Obj.cells #[.int .i64 kc, .bool true, .bool kn, .bool kp] 77)).block _ (Nat.lt_of_lt_of_le (blk_lt HN2.out) hb3.size)).trans ((hb3.block _ (blk_lt HN2.out)).trans HN2.out)
  have HW5 : Hid (WW w (w3.alloc (Obj.cells #[.int .i64 kc, .bool true, .bool kn, .bool kp] 77)) w3.heap.size #[.int .i64 cla, .int .i64 ins, .int .i64 p1, .int .i64 p2, .slice A data.length k, .int .i64 le, .bool long] #[.int .i64 kc, .bool true, .bool kn, .bool kp]) :=
    ⟨(BP.mk (HB.out.trans (hb3.mono HB.out.size)) (by omega)).al _, m1, m2, heap_alloc_new _ _, by omega⟩
  have hx1 : w.heap.size + 1 ≠ w3.heap.size := by omega
  have hx2 : w3.heap.size ≠ w.heap.size + 1 := by omega
  have hx3 : w.heap.size ≠ w3.heap.size := by omega
  have hx4 : w3.heap.size ≠ w.heap.size := by omega
  clear m1 m2 hz3 hb3
  obtain ⟨⟨q0, q1, q2, q3, q4, q5, q6⟩, ⟨g0, g1, g2, g3, g4, g5, g6⟩⟩ := cells7 HW5.out.r1
  obtain ⟨⟨r0, r1, r2, r3, r4, r5, r6⟩, ⟨f0, f1, f2, f3, f4, f5, f6⟩⟩ := cells7 HW5.out.r2
  obtain ⟨⟨t0, t1, t2, t3⟩, ⟨l0, l1, l2, l3⟩⟩ := cells4 HW5.out.r3
  go_wp2_with fail
  refine (HH.out _ HW5.out.bp.b).mono ?_
  rintro e w5 ⟨rfl, rfl⟩
  go_wp2_with fail
  refine (HH.out _ HW5.out.bp.b).mono ?_
  rintro e w5 ⟨rfl, rfl⟩
  go_wp2_with fail
  refine (HPA.out _ HW5.out.bp.b).mono ?_
  rintro e w6 ⟨hb6, hp⟩
  have HW6 := Lib.hid (HW5.out.on hb6)
  have HF : Hid (∀ y0 y1 y2 y3 y4 y5 y6, BP w.heap.size w (((((((w6.setCell ⟨w.heap.size + 1, 0, none⟩ y0).setCell ⟨w.heap.size + 1, 1, none⟩ y1).setCell ⟨w.heap.size + 1, 2, none⟩ y2).setCell ⟨w.heap.size + 1, 3, none⟩ y3).setCell ⟨w.heap.size + 1, 4, none⟩ y4).setCell ⟨w.heap.size + 1, 5, none⟩ y5).setCell ⟨w.heap.size + 1, 6, none⟩ y6) ∧ (((((((w6.setCell ⟨w.heap.size + 1, 0, none⟩ y0).setCell ⟨w.heap.size + 1, 1, none⟩ y1).setCell ⟨w.heap.size + 1, 2, none⟩ y2).setCell ⟨w.heap.size + 1, 3, none⟩ y3).setCell ⟨w.heap.size + 1, 4, none⟩ y4).setCell ⟨w.heap.size + 1, 5, none⟩ y5).setCell ⟨w.heap.size + 1, 6, none⟩ y6).heap[w.heap.size + 1]? = some (.cells #[y0, y1, y2, y3, y4, y5, y6] 30 (0, 0))) := fun y0 y1 y2 y3 y4 y5 y6 =>
    ⟨HW6.out.bp.st7 (Nat.le_succ _) .., row7st HW6.out.r2 ..⟩
  clear q0 q1 q2 q3 q4 q5 q6 g0 g1 g2 g3 g4 g5 g6 r0 r1 r2 r3 r4 r5 r6 f0 f1 f2 f3 f4 f5 f6 t0 t1 t2 t3 l0 l1 l2 l3 hb6
  obtain ⟨⟨q0, q1, q2, q3, q4, q5, q6⟩, ⟨g0, g1, g2, g3, g4, g5, g6⟩⟩ := cells7 HW6.out.r1
  obtain ⟨⟨r0, r1, r2, r3, r4, r5, r6⟩, ⟨f0, f1, f2, f3, f4, f5, f6⟩⟩ := cells7 HW6.out.r2
  obtain ⟨⟨t0, t1, t2, t3⟩, ⟨l0, l1, l2, l3⟩⟩ := cells4 HW6.out.r3
  rw [if_neg (by have := H8.out; omega)] at hp
  obtain ⟨v, u, rfl, hv, hu⟩ := hp
  have HV := Lib.hid hv
  have HU := Lib.hid hu
  clear hv hu
  go_wp2_with fail
  refine (HMC.out _ _ HW6.out.bp.b HV.out).mono ?_
  rintro e w7 ⟨v7, rfl, hv7, hb7⟩
  have HW7 := Lib.hid (HW6.out.on hb7)
  have HEQ := Lib.hid (beq_own _ _ u v7 w7 _ (HU.out.on hb7) hv7)
  rw [show (data.drop (data.length - 8) == M) = false from by rw [beq_eq_false_iff_ne]; exact HMM.out] at HEQ
  have HF7 : Hid (∀ y0 y1 y2 y3 y4 y5 y6, BP w.heap.size w (((((((w7.setCell ⟨w.heap.size + 1, 0, none⟩ y0).setCell ⟨w.heap.size + 1, 1, none⟩ y1).setCell ⟨w.heap.size + 1, 2, none⟩ y2).setCell ⟨w.heap.size + 1, 3, none⟩ y3).setCell ⟨w.heap.size + 1, 4, none⟩ y4).setCell ⟨w.heap.size + 1, 5, none⟩ y5).setCell ⟨w.heap.size + 1, 6, none⟩ y6) ∧ (((((((w7.setCell ⟨w.heap.size + 1, 0, none⟩ y0).setCell ⟨w.heap.size + 1, 1, none⟩ y1).setCell ⟨w.heap.size + 1, 2, none⟩ y2).setCell ⟨w.heap.size + 1, 3, none⟩ y3).setCell ⟨w.heap.size + 1, 4, none⟩ y4).setCell ⟨w.heap.size + 1, 5, none⟩ y5).setCell ⟨w.heap.size + 1, 6, none⟩ y6).heap[w.heap.size + 1]? = some (.cells #[y0, y1, y2, y3, y4, y5, y6] 30 (0, 0))) := fun y0 y1 y2 y3 y4 y5 y6 =>
    ⟨HW7.out.bp.st7 (Nat.le_succ _) .., row7st HW7.out.r2 ..⟩
  clear q0 q1 q2 q3 q4 q5 q6 g0 g1 g2 g3 g4 g5 g6 r0 r1 r2 r3 r4 r5 r6 f0 f1 f2 f3 f4 f5 f6 t0 t1 t2 t3 l0 l1 l2 l3 hb7 hv7
  obtain ⟨⟨q0, q1, q2, q3, q4, q5, q6⟩, ⟨g0, g1, g2, g3, g4, g5, g6⟩⟩ := cells7 HW7.out.r1
  obtain ⟨⟨r0, r1, r2, r3, r4, r5, r6⟩, ⟨f0, f1, f2, f3, f4, f5, f6⟩⟩ := cells7 HW7.out.r2
  obtain ⟨⟨t0, t1, t2, t3⟩, ⟨l0, l1, l2, l3⟩⟩ := cells4 HW7.out.r3
  go_wp2_with fail
  refine HEQ.out.mono ?_
  rintro e w8 ⟨rfl, rfl⟩
  go_wp2_with fail
  exact bodyPost_ret (results_cell2 rfl _ _ (w.heap.size + 1) 30 #[.int .i64 0, .int .i64 0, .int .i64 0, .int .i64 0, .slice none 0 0, .int .i64 0, .bool false] (0, 0) _ rfl (HF7.out ..).2 Tryd.underlying30 rfl (by kernel_rfl)) rfl ⟨rfl, (HF7.out ..).1.b⟩



/-- What the walk of unwrap leaves. -/
theorem un_fin {w w10 : World} {K : Nat} {A A6 : Option Addr} {n k c6 : Nat} {cla ins p1 p2 le : Int} {long : Bool} {D : List UInt8} {ks : Array Value}
    (hW : WW w w10 K #[.int .i64 cla, .int .i64 ins, .int .i64 p1, .int .i64 p2, .slice A n k, .int .i64 le, .bool long] ks) (hv : SL w10 w10.heap.size (.slice A6 D.length c6) D) :
    BP w.heap.size w ((((((((w10.setCell ⟨w.heap.size, 4, none⟩ (.slice A6 D.length c6)).setCell ⟨w.heap.size + 1, 0, none⟩ (.int .i64 cla)).setCell ⟨w.heap.size + 1, 1, none⟩ (.int .i64 ins)).setCell ⟨w.heap.size + 1, 2, none⟩ (.int .i64 p1)).setCell ⟨w.heap.size + 1, 3, none⟩ (.int .i64 p2)).setCell ⟨w.heap.size + 1, 4, none⟩ (.slice A6 D.length c6)).setCell ⟨w.heap.size + 1, 5, none⟩ (.int .i64 le)).setCell ⟨w.heap.size + 1, 6, none⟩ (.bool long)) ∧ ((((((((w10.setCell ⟨w.heap.size, 4, none⟩ (.slice A6 D.length c6)).setCell ⟨w.heap.size + 1, 0, none⟩ (.int .i64 cla)).setCell ⟨w.heap.size + 1, 1, none⟩ (.int .i64 ins)).setCell ⟨w.heap.size + 1, 2, none⟩ (.int .i64 p1)).setCell ⟨w.heap.size + 1, 3, none⟩ (.int .i64 p2)).setCell ⟨w.heap.size + 1, 4, none⟩ (.slice A6 D.length c6)).setCell ⟨w.heap.size + 1, 5, none⟩ (.int .i64 le)).setCell ⟨w.heap.size + 1, 6, none⟩ (.bool long)).heap[w.heap.size + 1]? = some (.cells #[.int .i64 cla, .int .i64 ins, .int .i64 p1, .int .i64 p2, .slice A6 D.length c6, .int .i64 le, .bool long] 30 (0, 0)) ∧ SL ((((((((w10.setCell ⟨w.heap.size, 4, none⟩ (.slice A6 D.length c6)).setCell ⟨w.heap.size + 1, 0, none⟩ (.int .i64 cla)).setCell ⟨w.heap.size + 1, 1, none⟩ (.int .i64 ins)).setCell ⟨w.heap.size + 1, 2, none⟩ (.int .i64 p1)).setCell ⟨w.heap.size + 1, 3, none⟩ (.int .i64 p2)).setCell ⟨w.heap.size + 1, 4, none⟩ (.slice A6 D.length c6)).setCell ⟨w.heap.size + 1, 5, none⟩ (.int .i64 le)).setCell ⟨w.heap.size + 1, 6, none⟩ (.bool long)) ((((((((w10.setCell ⟨w.heap.size, 4, none⟩ (.slice A6 D.length c6)).setCell ⟨w.heap.size + 1, 0, none⟩ (.int .i64 cla)).setCell ⟨w.heap.size + 1, 1, none⟩ (.int .i64 ins)).setCell ⟨w.heap.size + 1, 2, none⟩ (.int .i64 p1)).setCell ⟨w.heap.size + 1, 3, none⟩ (.int .i64 p2)).setCell ⟨w.heap.size + 1, 4, none⟩ (.slice A6 D.length c6)).setCell ⟨w.heap.size + 1, 5, none⟩ (.int .i64 le)).setCell ⟨w.heap.size + 1, 6, none⟩ (.bool long)).heap.size (.slice A6 D.length c6) D := by
  have hW1 : WW w (w10.setCell ⟨w.heap.size, 4, none⟩ (.slice A6 D.length c6)) K #[.int .i64 cla, .int .i64 ins, .int .i64 p1, .int .i64 p2, .slice A6 D.length c6, .int .i64 le, .bool long] ks := hW.setx 4 _
  have s1 := sl_set hW.r1 (cm_cells _ _ _ _ _ _ _ _ _) hv 4 (.slice A6 D.length c6)
  generalize (w10.setCell ⟨w.heap.size, 4, none⟩ (.slice A6 D.length c6)) = W at *
  exact ⟨hW1.bp.st7 (Nat.le_succ _) .., row7st hW1.r2 .., ((offC hW1.r2 (cm_cells _ _ _ _ _ _ _ _ _) s1 (Nat.le_refl _)).kb (kb7 ..)).sl⟩
/-- The command that was protected, with its data. -/
def unY (x : Cm) (D : List UInt8) : Cm := ⟨bytN ⟨(clsK x.cla).ch, false, (clsK x.cla).chn, (clsK x.cla).prp⟩, x.ins, x.p1, x.p2, D, x.le, x.long⟩
set_option maxRecDepth 100000 in
set_option maxHeartbeats 3200000 in
theorem punwrap_ok (g : Nat) (s : Ch) (x : Cm) (A : Option Addr) (k n : Nat) (w : World) (h : CH w g s) (N : Nat) (hN : x.le = (N : Int)) (hN6 : N ≤ 65536) (hm16 : s.mac.length = 16) (hv8 : s.cv.length = 8) (he16 : s.enc.length = 16) (hcn : s.cnt = (n : Int)) (hn : n ≤ 10000) (h0 : clE s x = 0) (hL : hasB s.lvl 1 = true)
    (hS : (clsK x.cla).sec = true) (h8 : 8 ≤ x.data.length) (hM : x.data.drop (x.data.length - 8) = cmF s x (x.data.take (x.data.length - 8))) (D : List UInt8) (hD : decF s 2 (ivF s.enc (n + 1) 0) (x.data.take (x.data.length - 8)) = some D) (hd : SL w w.heap.size (.slice A x.data.length k) x.data) (hl : x.data.length ≤ 2000) :
    Calls Tryd.prog 29 #[.pointer (some ⟨g, 0, none⟩), x.val (.slice A x.data.length k)] w (WrP w (unY x D)) := by
  have hc := fun W (hW : Below w.heap.size w W) => pclass_any g s x A x.data.length k W (h.below hW) rfl (by omega)
  have hmc := fun W vb (hW : Below w.heap.size w W) (hb : SL W W.heap.size vb (x.data.take (x.data.length - 8))) => pcmac_any g s x A x.data.length k _ vb N W (h.below hW) hm16 hv8 hN hN6 hb (by rw [List.length_take]; omega)
  have hst := fun W (hW : Below w.heap.size w W) => pcst_any g s n W (h.below hW) he16 hcn hn
  have hde := fun W vi vd (hW : Below w.heap.size w W) (hi : SL W W.heap.size vi (ivF s.enc (n + 1) 0)) (hb : SL W W.heap.size vd (x.data.take (x.data.length - 8))) => pdecr_any g s 2 _ _ vi vd W (h.below hW) hi hb (by rw [List.length_take]; omega)
  rw [hD] at hde
  have hMl : (cmF s x (x.data.take (x.data.length - 8))).length = 8 := macL_len _ _ _
  have hh := fun W (hW : Below w.heap.size w W) => phas_any g 1 s W (h.below hW)
  have hpa := fun W (hW : Below w.heap.size w W) => pparts_any x.data _ W (hd.on hW) hl
  rw [hL] at hh
  have hk : clK s x = clsK x.cla := by rw [clK, if_pos h0]
  have he : erV (clE s x) = .nilIface := by rw [h0]; rfl
  rw [hk, he] at hc
  unfold unY
  generalize ivF s.enc (n + 1) 0 = I at *
  generalize cmF s x (x.data.take (x.data.length - 8)) = M at *
  obtain ⟨cla, ins, p1, p2, data, le, long⟩ := x
  simp only [Cm.val] at *
  generalize clsK cla = K at *
  obtain ⟨kc, ks, kn, kp⟩ := K
  simp only at hS hM hmc h8 hde ⊢
  subst hS
  simp only [Kl.val] at hc
  have hby := fun W => pbyt_any ⟨kc, false, kn, kp⟩ W
  simp only [Kl.val] at hby
  generalize bytN ⟨kc, false, kn, kp⟩ = cl2 at *
  generalize bytE ⟨kc, false, kn, kp⟩ = ce2 at *
  have HP : Hid (∀ e v w', e = .returned (.tuple #[.agg #[.int .i64 cl2, .int .i64 ins, .int .i64 p1, .int .i64 p2, v, .int .i64 le, .bool long], .nilIface]) → SL w' w'.heap.size v D → Below w.heap.size w w' → WrP w ⟨cl2, ins, p1, p2, D, le, long⟩ e w') := fun e v w' he h1 h2 => ⟨v, he, h1, h2⟩
  generalize WrP w ⟨cl2, ins, p1, p2, D, le, long⟩ = Q at *
  have hb := alloc2_below w (Obj.cells #[.int .i64 cla, .int .i64 ins, .int .i64 p1, .int .i64 p2, .slice A data.length k, .int .i64 le, .bool long] 30) (Obj.cells #[.int .i64 0, .int .i64 0, .int .i64 0, .int .i64 0, .slice none 0 0, .int .i64 0, .bool false] 30)
  have HC := Lib.hid (hc _ hb)
  have HB := Lib.hid hb
  have HN1 := Lib.hid (heap_alloc2_old w (Obj.cells #[.int .i64 cla, .int .i64 ins, .int .i64 p1, .int .i64 p2, .slice A data.length k, .int .i64 le, .bool long] 30) (Obj.cells #[.int .i64 0, .int .i64 0, .int .i64 0, .int .i64 0, .slice none 0 0, .int .i64 0, .bool false] 30))
  have HN2 := Lib.hid (heap2_new w (Obj.cells #[.int .i64 cla, .int .i64 ins, .int .i64 p1, .int .i64 p2, .slice A data.length k, .int .i64 le, .bool long] 30) (Obj.cells #[.int .i64 0, .int .i64 0, .int .i64 0, .int .i64 0, .slice none 0 0, .int .i64 0, .bool false] 30))
  have HZ : Hid (((w.alloc (Obj.cells #[.int .i64 cla, .int .i64 ins, .int .i64 p1, .int .i64 p2, .slice A data.length k, .int .i64 le, .bool long] 30)).alloc (Obj.cells #[.int .i64 0, .int .i64 0, .int .i64 0, .int .i64 0, .slice none 0 0, .int .i64 0, .bool false] 30)).heap.size = w.heap.size + 2) := by show _ = _; rw [alloc_size, alloc_size]
  have HH := Lib.hid hh
  have HPA := Lib.hid hpa
  have HMC := Lib.hid hmc
  have HST := Lib.hid hst
  have HDE := Lib.hid hde
  have HBY := Lib.hid hby
  have HMM := Lib.hid hM
  have HML := Lib.hid hMl
  have H8 := Lib.hid h8
  clear h hc hb h0 hk he hh hpa hd hl hL hN hN6 hm16 hv8 hmc hM hMl h8 hst hde hby hD he16 hcn hn
  go_enter Tryd.func29, Tryd.ntmps29
  go_wp2_with fail
  refine HC.out.mono ?_
  rintro e w3 ⟨rfl, hb3⟩
  have hz3 := hb3.size
  rw [HZ.out] at hz3
  have m1 := ((alloc_below w3 (Obj.cells #[.int .i64 kc, .bool true, .bool kn, .bool kp] 77)).block _ (Nat.lt_of_lt_of_le (blk_lt HN1.out) hb3.size)).trans ((hb3.block _ (blk_lt HN1.out)).trans HN1.out)
  have m2 := ((alloc_below w3 (Obj.cells #[.int .i64 kc, .bool true, .bool kn, .bool kp] 77)).block _ (Nat.lt_of_lt_of_le (blk_lt HN2.out) hb3.size)).trans ((hb3.block _ (blk_lt HN2.out)).trans HN2.out)
  have HW5 : Hid (WW w (w3.alloc (Obj.cells #[.int .i64 kc, .bool true, .bool kn, .bool kp] 77)) w3.heap.size #[.int .i64 cla, .int .i64 ins, .int .i64 p1, .int .i64 p2, .slice A data.length k, .int .i64 le, .bool long] #[.int .i64 kc, .bool true, .bool kn, .bool kp]) :=
    ⟨(BP.mk (HB.out.trans (hb3.mono HB.out.size)) (by omega)).al _, m1, m2, heap_alloc_new _ _, by omega⟩
  have hx1 : w.heap.size + 1 ≠ w3.heap.size := by omega
  have hx2 : w3.heap.size ≠ w.heap.size + 1 := by omega
  have hx3 : w.heap.size ≠ w3.heap.size := by omega
  have hx4 : w3.heap.size ≠ w.heap.size := by omega
  clear m1 m2 hz3 hb3
  obtain ⟨⟨q0, q1, q2, q3, q4, q5, q6⟩, ⟨g0, g1, g2, g3, g4, g5, g6⟩⟩ := cells7 HW5.out.r1
  obtain ⟨⟨r0, r1, r2, r3, r4, r5, r6⟩, ⟨f0, f1, f2, f3, f4, f5, f6⟩⟩ := cells7 HW5.out.r2
  obtain ⟨⟨t0, t1, t2, t3⟩, ⟨l0, l1, l2, l3⟩⟩ := cells4 HW5.out.r3
  go_wp2_with fail
  refine (HH.out _ HW5.out.bp.b).mono ?_
  rintro e w5 ⟨rfl, rfl⟩
  go_wp2_with fail
  refine (HH.out _ HW5.out.bp.b).mono ?_
  rintro e w5 ⟨rfl, rfl⟩
  go_wp2_with fail
  refine (HPA.out _ HW5.out.bp.b).mono ?_
  rintro e w6 ⟨hb6, hp⟩
  have HW6 := Lib.hid (HW5.out.on hb6)
  clear q0 q1 q2 q3 q4 q5 q6 g0 g1 g2 g3 g4 g5 g6 r0 r1 r2 r3 r4 r5 r6 f0 f1 f2 f3 f4 f5 f6 t0 t1 t2 t3 l0 l1 l2 l3 hb6
  obtain ⟨⟨q0, q1, q2, q3, q4, q5, q6⟩, ⟨g0, g1, g2, g3, g4, g5, g6⟩⟩ := cells7 HW6.out.r1
  obtain ⟨⟨r0, r1, r2, r3, r4, r5, r6⟩, ⟨f0, f1, f2, f3, f4, f5, f6⟩⟩ := cells7 HW6.out.r2
  obtain ⟨⟨t0, t1, t2, t3⟩, ⟨l0, l1, l2, l3⟩⟩ := cells4 HW6.out.r3
  rw [if_neg (by have := H8.out; omega)] at hp
  obtain ⟨v, u, rfl, hv, hu⟩ := hp
  have HV := Lib.hid hv
  have HU := Lib.hid hu
  clear hv hu
  go_wp2_with fail
  refine (HMC.out _ _ HW6.out.bp.b HV.out).mono ?_
  rintro e w7 ⟨v7, rfl, hv7, hb7⟩
  have HW7 := Lib.hid (HW6.out.on hb7)
  have HEQ := Lib.hid (beq_own _ _ u v7 w7 _ (HU.out.on hb7) hv7)
  rw [show (data.drop (data.length - 8) == M) = true from by rw [beq_iff_eq]; exact HMM.out] at HEQ
  have HV7 := Lib.hid (HV.out.on hb7)
  clear q0 q1 q2 q3 q4 q5 q6 g0 g1 g2 g3 g4 g5 g6 r0 r1 r2 r3 r4 r5 r6 f0 f1 f2 f3 f4 f5 f6 t0 t1 t2 t3 l0 l1 l2 l3
  clear hb7 hv7
  obtain ⟨⟨q0, q1, q2, q3, q4, q5, q6⟩, ⟨g0, g1, g2, g3, g4, g5, g6⟩⟩ := cells7 HW7.out.r1
  obtain ⟨⟨r0, r1, r2, r3, r4, r5, r6⟩, ⟨f0, f1, f2, f3, f4, f5, f6⟩⟩ := cells7 HW7.out.r2
  obtain ⟨⟨t0, t1, t2, t3⟩, ⟨l0, l1, l2, l3⟩⟩ := cells4 HW7.out.r3
  go_wp2_with fail
  refine HEQ.out.mono ?_
  rintro e w8 ⟨rfl, rfl⟩
  go_wp2_with fail
  refine (HBY.out _).mono ?_
  rintro e w8 ⟨rfl, hb8⟩
  have HV8 := Lib.hid ((sl_set HW7.out.r3 (kl_cells _ _ _ _) HV7.out 1 (.bool false)).on hb8)
  have HW8 : Hid (WW w w8 w3.heap.size #[.int .i64 cla, .int .i64 ins, .int .i64 p1, .int .i64 p2, .slice A data.length k, .int .i64 le, .bool long] #[.int .i64 kc, .bool false, .bool kn, .bool kp]) := (HW7.out.setk 1 (.bool false)).on hb8
  clear hb8
  clear q0 q1 q2 q3 q4 q5 q6 g0 g1 g2 g3 g4 g5 g6 r0 r1 r2 r3 r4 r5 r6 f0 f1 f2 f3 f4 f5 f6 t0 t1 t2 t3 l0 l1 l2 l3
  obtain ⟨⟨q0, q1, q2, q3, q4, q5, q6⟩, ⟨g0, g1, g2, g3, g4, g5, g6⟩⟩ := cells7 HW8.out.r1
  obtain ⟨⟨r0, r1, r2, r3, r4, r5, r6⟩, ⟨f0, f1, f2, f3, f4, f5, f6⟩⟩ := cells7 HW8.out.r2
  obtain ⟨⟨t0, t1, t2, t3⟩, ⟨l0, l1, l2, l3⟩⟩ := cells4 HW8.out.r3
  go_wp2_with fail
  have HW8b : Hid (WW w (w8.setCell ⟨w.heap.size, 0, none⟩ (.int .i64 cl2)) w3.heap.size #[.int .i64 cl2, .int .i64 ins, .int .i64 p1, .int .i64 p2, .slice A data.length k, .int .i64 le, .bool long] #[.int .i64 kc, .bool false, .bool kn, .bool kp]) := HW8.out.setx 0 (.int .i64 cl2)
  have HV8b := Lib.hid (sl_set HW8.out.r1 (cm_cells _ _ _ _ _ _ _ _ _) HV8.out 0 (.int .i64 cl2))
  refine (HST.out _ HW8b.out.bp.b).mono ?_
  rintro e w9 ⟨v9, rfl, hv9, hb9⟩
  have HW9 := Lib.hid (HW8b.out.on hb9)
  have HV9 := Lib.hid (HV8b.out.on hb9)
  have HI9 := Lib.hid hv9
  clear hv9 hb9
  go_wp2_with fail
  refine (HDE.out _ _ _ HW9.out.bp.b HI9.out HV9.out).mono ?_
  rintro e w10 ⟨hb10, hr⟩
  rcases hr with ⟨hr, _⟩ | ⟨m, v10, hr, rfl, hv10⟩
  · cases hr
  injection hr with hr
  subst hr
  have HW10 := Lib.hid (HW9.out.on hb10)
  have HV10 := Lib.hid hv10
  obtain ⟨A10, c10, rfl, _, _, _⟩ := id hv10
  have HF := Lib.hid (un_fin HW10.out HV10.out)
  clear hv10 hb10
  clear q0 q1 q2 q3 q4 q5 q6 g0 g1 g2 g3 g4 g5 g6 r0 r1 r2 r3 r4 r5 r6 f0 f1 f2 f3 f4 f5 f6 t0 t1 t2 t3 l0 l1 l2 l3
  obtain ⟨⟨q0, q1, q2, q3, q4, q5, q6⟩, ⟨g0, g1, g2, g3, g4, g5, g6⟩⟩ := cells7 HW10.out.r1
  obtain ⟨⟨r0, r1, r2, r3, r4, r5, r6⟩, ⟨f0, f1, f2, f3, f4, f5, f6⟩⟩ := cells7 HW10.out.r2
  obtain ⟨⟨t0, t1, t2, t3⟩, ⟨l0, l1, l2, l3⟩⟩ := cells4 HW10.out.r3
  go_wp2_with fail
  exact bodyPost_ret (results_cell2 rfl _ _ (w.heap.size + 1) 30 _ (0, 0) _ rfl HF.out.2.1 Tryd.underlying30 rfl (by kernel_rfl)) rfl (HP.out _ _ _ rfl HF.out.2.2 HF.out.1.b)



/-- What Unwrap gives where it gives a command. -/
def UWP (g : Nat) (s : Ch) (x y : Cm) (w : World) (e : Ending) (w' : World) : Prop :=
  ∃ v, e = .returned (.tuple #[y.val v, .int .i64 0]) ∧ SL w' w'.heap.size v y.data ∧ CH w' g (s.next x.data) ∧ Kb g w w'
set_option maxRecDepth 100000 in
set_option maxHeartbeats 3200000 in
theorem pUnwrap_ok (g : Nat) (s : Ch) (x y : Cm) (A : Option Addr) (k : Nat) (w : World) (h : CH w g s) (hv : s.cv.length = 8) (hcn : 0 ≤ s.cnt ∧ s.cnt ≤ 1000)
    (hw : ∀ W, Below w.heap.size w W → Calls Tryd.prog 29 #[.pointer (some ⟨g, 0, none⟩), x.val (.slice A x.data.length k)] W (WrP W y)) (hd : SL w w.heap.size (.slice A x.data.length k) x.data) (hyl : x.data.length ≤ 2000) (hy8 : hasB s.lvl 1 = true → 8 ≤ x.data.length) :
    Calls Tryd.prog 11 #[.pointer (some ⟨g, 0, none⟩), x.val (.slice A x.data.length k)] w (UWP g s x y w) := by
  have hlt := h.lt
  have hm := fun W (hW : Below w.heap.size w W) => pmade_any g s W (h.below hW)
  rw [hv, show decide (0 < 8) = true from rfl] at hm
  have hnx := fun W (hW : Below w.heap.size w W) => pnext_any g s x A k W (h.below hW) (hd.on hW) hyl hy8 hcn
  have hP : Hid (∀ e v w', e = .returned (.tuple #[y.val v, .int .i64 0]) → SL w' w'.heap.size v y.data → CH w' g (s.next x.data) → Kb g w w' → UWP g s x y w e w') := fun e v w' he h1 h2 h3 => ⟨v, he, h1, h2, h3⟩
  have HOF : Hid (∀ (W : World) v l, Below w.heap.size w W → SL W W.heap.size v l → FL g W v l) := fun W v l hW hv => (h.below hW).off hv (Nat.le_refl _)
  generalize UWP g s x y w = Q at *
  unfold WrP at hw
  generalize s.next x.data = s2 at *
  obtain ⟨cla, ins, p1, p2, data, le, long⟩ := x
  obtain ⟨cla2, ins2, p12, p22, dat2, le2, long2⟩ := y
  simp only [Cm.val] at *
  have hb := alloc2_below w (Obj.cells #[.int .i64 cla, .int .i64 ins, .int .i64 p1, .int .i64 p2, .slice A data.length k, .int .i64 le, .bool long] 30) (Obj.cells #[.int .i64 0, .int .i64 0, .int .i64 0, .int .i64 0, .slice none 0 0, .int .i64 0, .bool false] 30)
  have HB := Lib.hid hb
  have HM := Lib.hid (hm _ hb)
  have HW := Lib.hid (hw _ hb)
  have HN1 := Lib.hid (heap_alloc2_old w (Obj.cells #[.int .i64 cla, .int .i64 ins, .int .i64 p1, .int .i64 p2, .slice A data.length k, .int .i64 le, .bool long] 30) (Obj.cells #[.int .i64 0, .int .i64 0, .int .i64 0, .int .i64 0, .slice none 0 0, .int .i64 0, .bool false] 30))
  have HN2 := Lib.hid (heap2_new w (Obj.cells #[.int .i64 cla, .int .i64 ins, .int .i64 p1, .int .i64 p2, .slice A data.length k, .int .i64 le, .bool long] 30) (Obj.cells #[.int .i64 0, .int .i64 0, .int .i64 0, .int .i64 0, .slice none 0 0, .int .i64 0, .bool false] 30))
  have HZ : Hid (((w.alloc (Obj.cells #[.int .i64 cla, .int .i64 ins, .int .i64 p1, .int .i64 p2, .slice A data.length k, .int .i64 le, .bool long] 30)).alloc (Obj.cells #[.int .i64 0, .int .i64 0, .int .i64 0, .int .i64 0, .slice none 0 0, .int .i64 0, .bool false] 30)).heap.size = w.heap.size + 2) := by show _ = _; rw [alloc_size, alloc_size]
  have HNX := Lib.hid hnx
  have HLT := Lib.hid hlt
  clear h hv hcn hw hyl hy8 hm hnx hb hlt hd
  go_enter Tryd.func11, Tryd.ntmps11
  go_wp2_with (go_at_call 25; refine HM.out.mono ?_; rintro e w' ⟨rfl, rfl⟩)
  refine HW.out.mono ?_
  rintro e w4 ⟨v4, rfl, hv4, hb4⟩
  obtain ⟨A4, c4, rfl, _, _, _⟩ := id hv4
  have hz4 := hb4.size
  rw [HZ.out] at hz4
  have HB4 := Lib.hid (HB.out.trans (hb4.mono HB.out.size))
  have HV4 := Lib.hid hv4
  have HN4 := Lib.hid ((hb4.block _ (blk_lt HN2.out)).trans HN2.out)
  have HX4 := Lib.hid ((hb4.block _ (blk_lt HN1.out)).trans HN1.out)
  clear hv4 hb4
  go_wp2_with fail
  refine (pcode_nil _).mono ?_
  rintro e w5 ⟨rfl, hb5⟩
  have HA := Lib.hid (alloc_below w4 (Obj.cells #[.int .i64 cla2, .int .i64 ins2, .int .i64 p12, .int .i64 p22, .slice A4 dat2.length c4, .int .i64 le2, .bool long2] 30))
  have HB5 := Lib.hid ((HB4.out.trans (HA.out.mono HB4.out.size)).trans (hb5.mono (Nat.le_trans HB4.out.size HA.out.size)))
  have HV5 := Lib.hid ((HV4.out.on HA.out).on hb5)
  have HN5 := Lib.hid (rowC hb5 (rowC HA.out HN4.out))
  have HX5 := Lib.hid (rowC hb5 (rowC HA.out HX4.out))
  have HK5 := Lib.hid (rowC hb5 (heap_alloc_new w4 (Obj.cells #[.int .i64 cla2, .int .i64 ins2, .int .i64 p12, .int .i64 p22, .slice A4 dat2.length c4, .int .i64 le2, .bool long2] 30)))
  obtain ⟨⟨q0, q1, q2, q3, q4, q5, q6⟩, ⟨g0, g1, g2, g3, g4, g5, g6⟩⟩ := cells7 HX5.out
  clear hb5
  go_wp2_with fail
  refine (HNX.out _ HB5.out).mono ?_
  rintro e w6 ⟨⟨u6, rfl⟩, hc6, hk6⟩
  have HK6 := Lib.hid ((hk6.block _ (blk_lt HK5.out) (by have := HLT.out; omega)).trans HK5.out)
  have HN6 := Lib.hid ((hk6.block _ (blk_lt HN5.out) (by have := HLT.out; omega)).trans HN5.out)
  have HF := Lib.hid (wrap_fin (cla2 := cla2) (ins2 := ins2) (p12 := p12) (p22 := p22) (le2 := le2) (long2 := long2) HLT.out ((Kb.of_below HB5.out).trans hk6) HN6.out hc6 ((HOF.out _ _ _ HB5.out HV5.out).kb hk6).sl)
  clear q0 q1 q2 q3 q4 q5 q6 g0 g1 g2 g3 g4 g5 g6 hc6 hk6
  obtain ⟨⟨q0, q1, q2, q3, q4, q5, q6⟩, ⟨g0, g1, g2, g3, g4, g5, g6⟩⟩ := cells7 HK6.out
  obtain ⟨⟨r0, r1, r2, r3, r4, r5, r6⟩, ⟨f0, f1, f2, f3, f4, f5, f6⟩⟩ := cells7 HN6.out
  have hx1 : w.heap.size + 1 ≠ w4.heap.size := by omega
  have hx2 : w4.heap.size ≠ w.heap.size + 1 := by omega
  go_wp2_with fail
  exact bodyPost_ret (results_cell2 rfl _ _ (w.heap.size + 1) 30 _ (0, 0) _ rfl HF.out.1 Tryd.underlying30 rfl (by kernel_rfl)) rfl (hP.out _ _ _ rfl HF.out.2.1 HF.out.2.2.1 HF.out.2.2.2)
set_option maxRecDepth 100000 in
set_option maxHeartbeats 3200000 in
theorem pUnwrap_bad (g : Nat) (s : Ch) (x : Cm) (E : Int) (A : Option Addr) (n k : Nat) (w : World) (h : CH w g s) (hv : s.cv.length = 8) (ht : ET w) (hE : E ≠ 0)
    (hw : ∀ W, Below w.heap.size w W → Calls Tryd.prog 29 #[.pointer (some ⟨g, 0, none⟩), x.val (.slice A n k)] W fun e w' => e = .returned (.tuple #[Cm.zero.val (.slice none 0 0), errV E]) ∧ Below W.heap.size W w') :
    Calls Tryd.prog 11 #[.pointer (some ⟨g, 0, none⟩), x.val (.slice A n k)] w fun e w' => e = .returned (.tuple #[Cm.zero.val (.slice none 0 0), .int .i64 E]) ∧ CH w' g s.shut ∧ Kb g w w' := by
  have hm := fun W (hW : Below w.heap.size w W) => pmade_any g s W (h.below hW)
  rw [hv, show decide (0 < 8) = true from rfl] at hm
  have hcl := fun W (hW : Below w.heap.size w W) => pclose_any g s W (h.below hW)
  have HLT := Lib.hid h.lt
  have hco := fun W (hW : Below w.heap.size w W) => pcode_any E W (ht.on hW)
  unfold errV Cm.zero at *
  obtain ⟨cla, ins, p1, p2, data, le, long⟩ := x
  simp only [Cm.val] at *
  have hb := alloc2_below w (Obj.cells #[.int .i64 cla, .int .i64 ins, .int .i64 p1, .int .i64 p2, .slice A n k, .int .i64 le, .bool long] 30) (Obj.cells #[.int .i64 0, .int .i64 0, .int .i64 0, .int .i64 0, .slice none 0 0, .int .i64 0, .bool false] 30)
  have HB := Lib.hid hb
  have HM := Lib.hid (hm _ hb)
  have HW := Lib.hid (hw _ hb)
  have HN2 := Lib.hid (heap2_new w (Obj.cells #[.int .i64 cla, .int .i64 ins, .int .i64 p1, .int .i64 p2, .slice A n k, .int .i64 le, .bool long] 30) (Obj.cells #[.int .i64 0, .int .i64 0, .int .i64 0, .int .i64 0, .slice none 0 0, .int .i64 0, .bool false] 30))
  have HZ : Hid (((w.alloc (Obj.cells #[.int .i64 cla, .int .i64 ins, .int .i64 p1, .int .i64 p2, .slice A n k, .int .i64 le, .bool long] 30)).alloc (Obj.cells #[.int .i64 0, .int .i64 0, .int .i64 0, .int .i64 0, .slice none 0 0, .int .i64 0, .bool false] 30)).heap.size = w.heap.size + 2) := by show _ = _; rw [alloc_size, alloc_size]
  have HCO := Lib.hid hco
  have HCL := Lib.hid hcl
  have hne : (E != 0) = true := by rw [bne_iff_ne]; exact hE
  clear h hv hw hm hb ht hco hcl
  go_enter Tryd.func11, Tryd.ntmps11
  go_wp2_with (go_at_call 25; refine HM.out.mono ?_; rintro e w' ⟨rfl, rfl⟩)
  refine HW.out.mono ?_
  rintro e w4 ⟨rfl, hb4⟩
  have hz4 := hb4.size
  rw [HZ.out] at hz4
  have HB4 := Lib.hid (HB.out.trans (hb4.mono HB.out.size))
  have HN4 := Lib.hid ((hb4.block _ (blk_lt HN2.out)).trans HN2.out)
  clear hb4
  have HA := Lib.hid (alloc_below w4 (Obj.cells #[.int .i64 0, .int .i64 0, .int .i64 0, .int .i64 0, .slice none 0 0, .int .i64 0, .bool false] 30))
  have HBA := Lib.hid (HB4.out.trans (HA.out.mono HB4.out.size))
  go_wp2_with fail
  refine (HCO.out _ HBA.out).mono ?_
  rintro e w5 ⟨rfl, hb5⟩
  have HB5 := Lib.hid (HBA.out.trans (hb5.mono HBA.out.size))
  have HN5 := Lib.hid (rowC hb5 (rowC HA.out HN4.out))
  clear hb5
  go_wp2_with fail
  refine (HCL.out _ HB5.out).mono ?_
  rintro e w6 ⟨⟨u6, rfl⟩, hc6, hk6⟩
  have HN6 := Lib.hid ((hk6.block _ (blk_lt HN5.out) (by have := HLT.out; omega)).trans HN5.out)
  have HF := Lib.hid (wrap_fin (cla2 := 0) (ins2 := 0) (p12 := 0) (p22 := 0) (le2 := 0) (long2 := false) (A4 := none) (c4 := 0) (dat2 := []) HLT.out ((Kb.of_below HB5.out).trans hk6) HN6.out hc6 (FL.nil g w6).sl)
  obtain ⟨⟨r0, r1, r2, r3, r4, r5, r6⟩, ⟨f0, f1, f2, f3, f4, f5, f6⟩⟩ := cells7 HN6.out
  clear hc6 hk6
  go_wp2_with fail
  exact bodyPost_ret (results_cell2 rfl _ _ (w.heap.size + 1) 30 _ (0, 0) _ rfl HF.out.1 Tryd.underlying30 rfl (by kernel_rfl)) rfl ⟨rfl, HF.out.2.2.1, HF.out.2.2.2⟩

end Go.Proofs.YtdalcldilmmgmaaDoor
