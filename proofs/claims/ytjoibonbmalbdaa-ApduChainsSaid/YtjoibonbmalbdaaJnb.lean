/-
  checkPart of the program.
-/
import Derived.Test.YtjoibonbmalbdaaEqs
import Derived.Deep.RegionHeld3
namespace Go.Proofs.Ytjoibonbmalbdaa
set_option linter.unusedVariables false
set_option linter.unusedSimpArgs false
open Go.RowKit

theorem hdV_ne (c f : Cm) : (hdV c = hdV f) ↔ hdB c f = true := by
  simp [hdV, hdB, and_assoc]

set_option maxRecDepth 100000 in
set_option maxHeartbeats 3200000 in
theorem pprt_any (c f : Cm) (last : Bool) (u v : Value) (w : World) (hu : SL w w.heap.size u c.data) (hv : SL w w.heap.size v f.data) (hle : -9223372036854775808 ≤ c.le ∧ c.le ≤ 9223372036854775807) :
    Calls Try.prog 56 #[c.val u, f.val v, .bool last] w fun e w' => e = .returned (.int .i64 (prtE c f last)) ∧ Below w.heap.size w w' := by
  obtain ⟨A, k, rfl, _, _, _⟩ := hu
  obtain ⟨A2, k2, rfl, _, _, _⟩ := hv
  have HC := Lib.hid (fun (W : World) => pchk_any c A c.data.length k W rfl hle)
  have HK := Lib.hid (fun (W : World) => pcls_any c.cla W)
  have HH := Lib.hid (fun (W : World) => phead_any c A c.data.length k W)
  have HH2 := Lib.hid (fun (W : World) => phead_any f A2 f.data.length k2 W)
  have HE : Hid (prtE c f last = if chkC c = 0 then (if clsB c.cla = false ∨ (clsK c.cla).chn = last then 4 else if hdB c f = false then 4 else if last = false ∧ (c.data.length = 0 ∨ c.le ≠ 0) then 4 else 0) else chkC c) := rfl
  obtain ⟨cla, ins, p1, p2, d, le, lg⟩ := c
  obtain ⟨cla', ins', p1', p2', d', le', lg'⟩ := f
  simp only [Cm.val, Kl.val] at *
  clear hle
  generalize hE0 : prtE _ _ _ = R at *
  clear hE0
  generalize chkC ⟨cla, ins, p1, p2, d, le, lg⟩ = E at *
  generalize clsB cla = ok at *
  have hb0 := alloc_below w (.cells #[.int .i64 cla, .int .i64 ins, .int .i64 p1, .int .i64 p2, .slice A d.length k, .int .i64 le, .bool lg] 24)
  have hr0 := heap_alloc_new w (.cells #[.int .i64 cla, .int .i64 ins, .int .i64 p1, .int .i64 p2, .slice A d.length k, .int .i64 le, .bool lg] 24)
  have hb1 := alloc_below (w.alloc (.cells #[.int .i64 cla, .int .i64 ins, .int .i64 p1, .int .i64 p2, .slice A d.length k, .int .i64 le, .bool lg] 24)) (.cells #[.int .i64 cla', .int .i64 ins', .int .i64 p1', .int .i64 p2', .slice A2 d'.length k2, .int .i64 le', .bool lg'] 24)
  have hr1 := heap_alloc_new (w.alloc (.cells #[.int .i64 cla, .int .i64 ins, .int .i64 p1, .int .i64 p2, .slice A d.length k, .int .i64 le, .bool lg] 24)) (.cells #[.int .i64 cla', .int .i64 ins', .int .i64 p1', .int .i64 p2', .slice A2 d'.length k2, .int .i64 le', .bool lg'] 24)
  rw [alloc_size] at hr1
  have hal := Lib.hid (hb0.trans (hb1.mono hb0.size))
  have hrow := Lib.hid ((hb1.block _ (lt_row hr0)).trans hr0)
  have hrow2 := Lib.hid hr1
  clear hb0 hb1 hr0 hr1
  by_cases x0 : E = 0
  case neg =>
    have hn : (E != 0) = true := by rw [bne_iff_ne]; exact x0
    have HR : Hid (R = E) := by show _ = _; rw [HE.out, if_neg x0]
    go_enter Try.func56, Try.ntmps56
    go_wp2_with fail
    refine (HC.out _).mono ?_
    rintro e w1 ⟨rfl, hb1⟩
    go_wp2_with fail
    go_ret
    exact ⟨by rw [HR.out]; rfl, hal.out.trans (hb1.mono hal.out.size)⟩
  subst x0
  have HE1 : Hid (R = if ok = false ∨ (clsK cla).chn = last then 4 else if hdB ⟨cla, ins, p1, p2, d, le, lg⟩ ⟨cla', ins', p1', p2', d', le', lg'⟩ = false then 4 else if last = false ∧ (d.length = 0 ∨ le ≠ 0) then 4 else 0) := by show _ = _; rw [HE.out, if_pos rfl]
  have HHE : Hid ((hdV ⟨cla, ins, p1, p2, d, le, lg⟩ = hdV ⟨cla', ins', p1', p2', d', le', lg'⟩) ↔ hdB ⟨cla, ins, p1, p2, d, le, lg⟩ ⟨cla', ins', p1', p2', d', le', lg'⟩ = true) := hdV_ne _ _
  clear HE
  have hx1 : Hid (∃ a0 a1 a3, hdV ⟨cla, ins, p1, p2, d, le, lg⟩ = .agg #[.int .i64 a0, .bool a1, .bool false, .bool a3, .int .i64 ins, .int .i64 p1, .int .i64 p2]) := ⟨_, _, _, rfl⟩
  have hx2 : Hid (∃ a0 a1 a3, hdV ⟨cla', ins', p1', p2', d', le', lg'⟩ = .agg #[.int .i64 a0, .bool a1, .bool false, .bool a3, .int .i64 ins', .int .i64 p1', .int .i64 p2']) := ⟨_, _, _, rfl⟩
  generalize hdB ⟨cla, ins, p1, p2, d, le, lg⟩ ⟨cla', ins', p1', p2', d', le', lg'⟩ = HB at *
  generalize hdV ⟨cla, ins, p1, p2, d, le, lg⟩ = V1 at *
  generalize hdV ⟨cla', ins', p1', p2', d', le', lg'⟩ = V2 at *
  obtain ⟨a0, a1, a3, rfl⟩ := hx1.out
  obtain ⟨b0, b1, b3, rfl⟩ := hx2.out
  clear hx1 hx2
  generalize clsK cla = kk at *
  obtain ⟨k0, k1, kc, k3⟩ := kk
  simp only at HK HE1
  by_cases x1 : ok = false ∨ kc = last
  case pos =>
    have HR : Hid (R = 4) := by show _ = _; rw [HE1.out, if_pos x1]
    have hcc : ok = false ∨ (ok = true ∧ (kc == last) = true) := by
      cases ok
      · exact .inl rfl
      · rcases x1 with h | h
        · cases h
        · exact .inr ⟨rfl, by simp [h]⟩
    clear HE1 x1
    rcases hcc with rfl | ⟨rfl, hkl⟩
    all_goals
      go_enter Try.func56, Try.ntmps56
      go_wp2_with fail
      refine (HC.out _).mono ?_
      rintro e w1 ⟨rfl, hb1⟩
      have HB1 := Lib.hid (hal.out.trans (hb1.mono hal.out.size))
      have HR1 := Lib.hid ((hb1.block _ (lt_row hrow.out)).trans hrow.out)
      have HR2 := Lib.hid ((hb1.block _ (lt_row hrow2.out)).trans hrow2.out)
      clear hb1
      obtain ⟨r0, r1, r2, r3, r4, r5, r6⟩ := box7 (w' := w1) HR1.out
      go_wp2_with fail
      refine (HK.out _).mono ?_
      rintro e w2 ⟨rfl, hb2⟩
      have HB2 := Lib.hid (HB1.out.trans (hb2.mono HB1.out.size))
      clear hb2 r0 r1 r2 r3 r4 r5 r6
      go_wp2_with fail
      go_ret
      first
        | exact ⟨by rw [HR.out]; rfl, HB2.out⟩
        | exact ⟨by rw [HR.out]; rfl, HB2.out.trans ((alloc_below _ _).mono HB2.out.size)⟩
  obtain rfl : ok = true := by
    cases ok
    · exact absurd (.inl rfl) x1
    · rfl
  have hkl : (kc == last) = false := by
    rw [beq_eq_false_iff_ne]; exact fun h => x1 (.inr h)
  have HE2 : Hid (R = if HB = false then 4 else if last = false ∧ (d.length = 0 ∨ le ≠ 0) then 4 else 0) := by show _ = _; rw [HE1.out, if_neg x1]
  clear HE1 x1
  go_enter Try.func56, Try.ntmps56
  go_wp2_with fail
  refine (HC.out _).mono ?_
  rintro e w1 ⟨rfl, hb1⟩
  have HB1 := Lib.hid (hal.out.trans (hb1.mono hal.out.size))
  have HR1 := Lib.hid ((hb1.block _ (lt_row hrow.out)).trans hrow.out)
  have HR2 := Lib.hid ((hb1.block _ (lt_row hrow2.out)).trans hrow2.out)
  clear hb1
  obtain ⟨r0, r1, r2, r3, r4, r5, r6⟩ := box7 (w' := w1) HR1.out
  go_wp2_with fail
  refine (HK.out _).mono ?_
  rintro e w2 ⟨rfl, hb2⟩
  have HB2 := Lib.hid (HB1.out.trans (hb2.mono HB1.out.size))
  have HR3 := Lib.hid ((hb2.block _ (lt_row HR1.out)).trans HR1.out)
  have HR4 := Lib.hid ((hb2.block _ (lt_row HR2.out)).trans HR2.out)
  clear hb2 r0 r1 r2 r3 r4 r5 r6
  have hb3 := alloc_below w2 (.cells #[.int .i64 k0, .bool k1, .bool kc, .bool k3] 47)
  have HB3 := Lib.hid (HB2.out.trans (hb3.mono HB2.out.size))
  have HR5 := Lib.hid ((hb3.block _ (lt_row HR3.out)).trans HR3.out)
  have HR6 := Lib.hid ((hb3.block _ (lt_row HR4.out)).trans HR4.out)
  clear hb3
  obtain ⟨r0, r1, r2, r3, r4, r5, r6⟩ := box7 (w' := w1) HR5.out
  obtain ⟨s0, s1, s2, s3, s4, s5, s6⟩ := box7 (w' := w1) HR6.out
  have hq : ((decide (a0 = b0) && decide (a1 = b1) && decide (false = false) && decide (a3 = b3)) && decide (ins = ins') && decide (p1 = p1') && decide (p2 = p2')) = HB := by
    rw [Bool.eq_iff_iff, ← HHE.out]; simp [and_assoc]
  have hEQ : ∀ W : World, Sem.run Try.prog (binOp .neq 83 (.agg #[.int .i64 a0, .bool a1, .bool false, .bool a3, .int .i64 ins, .int .i64 p1, .int .i64 p2]) (.agg #[.int .i64 b0, .bool b1, .bool false, .bool b3, .int .i64 ins', .int .i64 p1', .int .i64 p2'])) W = .ok (.bool (!HB)) W := fun W => by rw [neq83_run, hq]
  have hEG := eqG83
  clear hq HHE
  go_wp2_with fail
  generalize w2.alloc (.cells #[.int .i64 k0, .bool k1, .bool kc, .bool k3] 47) = w3 at *
  have HCC : Hid (∀ W w', Below w3.heap.size w3 W → Below W.heap.size W w' → Below w3.heap.size w3 w') := fun W w' h h' => h.trans (h'.mono h.size)
  have HS : Hid (∀ W, Below w3.heap.size w3 W → W.cell? ⟨w.heap.size, 0, none⟩ = some (.int .i64 cla) ∧ W.cell? ⟨w.heap.size, 1, none⟩ = some (.int .i64 ins) ∧ W.cell? ⟨w.heap.size, 2, none⟩ = some (.int .i64 p1) ∧ W.cell? ⟨w.heap.size, 3, none⟩ = some (.int .i64 p2) ∧ W.cell? ⟨w.heap.size, 4, none⟩ = some (.slice A d.length k) ∧ W.cell? ⟨w.heap.size, 5, none⟩ = some (.int .i64 le) ∧ W.cell? ⟨w.heap.size, 6, none⟩ = some (.bool lg) ∧ W.cell? ⟨w.heap.size + 1, 0, none⟩ = some (.int .i64 cla') ∧ W.cell? ⟨w.heap.size + 1, 1, none⟩ = some (.int .i64 ins') ∧ W.cell? ⟨w.heap.size + 1, 2, none⟩ = some (.int .i64 p1') ∧ W.cell? ⟨w.heap.size + 1, 3, none⟩ = some (.int .i64 p2') ∧ W.cell? ⟨w.heap.size + 1, 4, none⟩ = some (.slice A2 d'.length k2) ∧ W.cell? ⟨w.heap.size + 1, 5, none⟩ = some (.int .i64 le') ∧ W.cell? ⟨w.heap.size + 1, 6, none⟩ = some (.bool lg')) := fun W hW => by
    obtain ⟨r0, r1, r2, r3, r4, r5, r6⟩ := box7 (w' := w3) ((hW.block _ (lt_row HR5.out)).trans HR5.out)
    obtain ⟨s0, s1, s2, s3, s4, s5, s6⟩ := box7 (w' := w3) ((hW.block _ (lt_row HR6.out)).trans HR6.out)
    exact ⟨r0, r1, r2, r3, r4, r5, r6, s0, s1, s2, s3, s4, s5, s6⟩
  have hb3d := (Below.refl w3.heap.size w3).drew
  clear r0 r1 r2 r3 r4 r5 r6 s0 s1 s2 s3 s4 s5 s6
  obtain ⟨r0, r1, r2, r3, r4, r5, r6, s0, s1, s2, s3, s4, s5, s6⟩ := HS.out _ (Below.refl _ _)
  cases HB with
  | false =>
    have HR : Hid (R = 4) := by show _ = _; rw [HE2.out, if_pos rfl]
    go_region_held3 (fun w' => w'.cell? ⟨w.heap.size, 0, none⟩ = some (.int .i64 cla) ∧ w'.cell? ⟨w.heap.size, 1, none⟩ = some (.int .i64 ins) ∧ w'.cell? ⟨w.heap.size, 2, none⟩ = some (.int .i64 p1) ∧ w'.cell? ⟨w.heap.size, 3, none⟩ = some (.int .i64 p2) ∧ w'.cell? ⟨w.heap.size, 4, none⟩ = some (.slice A d.length k) ∧ w'.cell? ⟨w.heap.size, 5, none⟩ = some (.int .i64 le) ∧ w'.cell? ⟨w.heap.size, 6, none⟩ = some (.bool lg) ∧ w'.cell? ⟨w.heap.size + 1, 0, none⟩ = some (.int .i64 cla') ∧ w'.cell? ⟨w.heap.size + 1, 1, none⟩ = some (.int .i64 ins') ∧ w'.cell? ⟨w.heap.size + 1, 2, none⟩ = some (.int .i64 p1') ∧ w'.cell? ⟨w.heap.size + 1, 3, none⟩ = some (.int .i64 p2') ∧ w'.cell? ⟨w.heap.size + 1, 4, none⟩ = some (.slice A2 d'.length k2) ∧ w'.cell? ⟨w.heap.size + 1, 5, none⟩ = some (.int .i64 le') ∧ w'.cell? ⟨w.heap.size + 1, 6, none⟩ = some (.bool lg'))
      (first
        | (go_keep; done)
        | exact HS.out _ hb3d
        | exact HS.out _ hb5
        | exact HS.out _ hb6)
      (first
        | (go_at_call 62; (with_reducible refine (HH.out _).mono ?_); rintro e w5 ⟨rfl, hb5'⟩; have hb5 := HCC.out _ _ hb3d hb5'; clear hb5')
        | (go_at_call 62; (with_reducible refine (HH2.out _).mono ?_); rintro e w6 ⟨rfl, hb6'⟩; have hb6 := HCC.out _ _ hb5 hb6'; clear hb6'))
    go_wp2_with fail
    go_ret
    exact ⟨by rw [HR.out]; rfl, HB3.out.trans (hb6.mono HB3.out.size)⟩
  | true =>
    have HE3 : Hid (R = if last = false ∧ (d.length = 0 ∨ le ≠ 0) then 4 else 0) := by show _ = _; rw [HE2.out, if_neg (by simp)]
    go_region_held3 (fun w' => w'.cell? ⟨w.heap.size, 0, none⟩ = some (.int .i64 cla) ∧ w'.cell? ⟨w.heap.size, 1, none⟩ = some (.int .i64 ins) ∧ w'.cell? ⟨w.heap.size, 2, none⟩ = some (.int .i64 p1) ∧ w'.cell? ⟨w.heap.size, 3, none⟩ = some (.int .i64 p2) ∧ w'.cell? ⟨w.heap.size, 4, none⟩ = some (.slice A d.length k) ∧ w'.cell? ⟨w.heap.size, 5, none⟩ = some (.int .i64 le) ∧ w'.cell? ⟨w.heap.size, 6, none⟩ = some (.bool lg) ∧ w'.cell? ⟨w.heap.size + 1, 0, none⟩ = some (.int .i64 cla') ∧ w'.cell? ⟨w.heap.size + 1, 1, none⟩ = some (.int .i64 ins') ∧ w'.cell? ⟨w.heap.size + 1, 2, none⟩ = some (.int .i64 p1') ∧ w'.cell? ⟨w.heap.size + 1, 3, none⟩ = some (.int .i64 p2') ∧ w'.cell? ⟨w.heap.size + 1, 4, none⟩ = some (.slice A2 d'.length k2) ∧ w'.cell? ⟨w.heap.size + 1, 5, none⟩ = some (.int .i64 le') ∧ w'.cell? ⟨w.heap.size + 1, 6, none⟩ = some (.bool lg'))
      (first
        | (go_keep; done)
        | exact HS.out _ hb3d
        | exact HS.out _ hb5
        | exact HS.out _ hb6)
      (first
        | (go_at_call 62; (with_reducible refine (HH.out _).mono ?_); rintro e w5 ⟨rfl, hb5'⟩; have hb5 := HCC.out _ _ hb3d hb5'; clear hb5')
        | (go_at_call 62; (with_reducible refine (HH2.out _).mono ?_); rintro e w6 ⟨rfl, hb6'⟩; have hb6 := HCC.out _ _ hb5 hb6'; clear hb6'))
    obtain ⟨r0, r1, r2, r3, r4, r5, r6, s0, s1, s2, s3, s4, s5, s6⟩ := HS.out _ hb6
    cases last with
    | true =>
      have HR : Hid (R = 0) := by show _ = _; rw [HE3.out, if_neg (by simp)]
      go_wp2_with fail
      go_ret
      exact ⟨by rw [HR.out]; rfl, HB3.out.trans (hb6.mono HB3.out.size)⟩
    | false =>
      by_cases hd0 : d.length = 0
      · have HR : Hid (R = 4) := by show _ = _; rw [HE3.out, if_pos ⟨rfl, .inl hd0⟩]
        have hd1 : ((d.length : Int) == 0) = true := by rw [hd0]; rfl
        go_wp2_with fail
        go_ret
        exact ⟨by rw [HR.out]; rfl, HB3.out.trans (hb6.mono HB3.out.size)⟩
      · have hd1 : ((d.length : Int) == 0) = false := by rw [beq_eq_false_iff_ne]; omega
        by_cases hl0 : le = 0
        · have HR : Hid (R = 0) := by show _ = _; rw [HE3.out, if_neg (by rintro ⟨_, h | h⟩; exact hd0 h; exact h hl0)]
          have hl1 : (le != 0) = false := by rw [hl0]; rfl
          clear hl0
          go_wp2_with fail
          go_ret
          exact ⟨by rw [HR.out]; rfl, HB3.out.trans (hb6.mono HB3.out.size)⟩
        · have HR : Hid (R = 4) := by show _ = _; rw [HE3.out, if_pos ⟨rfl, .inr hl0⟩]
          have hl1 : (le != 0) = true := by rw [bne_iff_ne]; exact hl0
          go_wp2_with fail
          go_ret
          exact ⟨by rw [HR.out]; rfl, HB3.out.trans (hb6.mono HB3.out.size)⟩
end Go.Proofs.Ytjoibonbmalbdaa
