/-
  Chain of the reference where it is refused, and both whatever the command.
-/
import Derived.Test.YtjoibonbmalbdaaRch
import Derived.Test.YtjoibonbmalbdaaChc
namespace Go.Proofs.Ytjoibonbmalbdaa
set_option linter.unusedVariables false
set_option linter.unusedSimpArgs false
open Go.RowKit

set_option maxRecDepth 100000 in
set_option maxHeartbeats 3200000 in
theorem rchn_err (c : Cm) (n : Int) (u : Value) (w : World) (h : SL w w.heap.size u c.data) (hle : -9223372036854775808 ≤ c.le ∧ c.le ≤ 9223372036854775807) (h0 : chnE c n ≠ 0) :
    Calls Try.prog 35 #[c.val u, .int .i64 n] w (ChnR c n w) := by
  obtain ⟨A, k, rfl, _, _, _⟩ := h
  have HC := Lib.hid (fun (W : World) => rchk_any c A c.data.length k W rfl hle)
  have HK := Lib.hid (fun (W : World) => rcls_any c.cla W)
  have HE : Hid (chnE c n = if chkC c = 0 then (if n < 1 ∨ 255 < n then 1 else if clsB c.cla = false ∨ (clsK c.cla).chn = true then 4 else 0) else chkC c) := rfl
  have H0 := Lib.hid h0
  clear h0
  obtain ⟨cla, ins, p1, p2, d, le, lg⟩ := c
  simp only [Cm.val, Kl.val] at *
  have hal := Lib.hid (alloc_below w (.cells #[.int .i64 cla, .int .i64 ins, .int .i64 p1, .int .i64 p2, .slice A d.length k, .int .i64 le, .bool lg] 24))
  have hrow := Lib.hid (heap_alloc_new w (.cells #[.int .i64 cla, .int .i64 ins, .int .i64 p1, .int .i64 p2, .slice A d.length k, .int .i64 le, .bool lg] 24))
  generalize chkC ⟨cla, ins, p1, p2, d, le, lg⟩ = E at *
  by_cases x0 : E = 0
  case neg =>
    have HB := Lib.hid (fun (w' : World) (e : Ending) => chn_bad (c := ⟨cla, ins, p1, p2, d, le, lg⟩) (n := n) (w := w) (w' := w') (e := e) E (by rw [HE.out, if_neg x0]) x0)
    have hn : (E != 0) = true := by rw [bne_iff_ne]; exact x0
    go_enter Try.func35, Try.ntmps35
    go_wp2_with fail
    refine (HC.out _).mono ?_
    rintro e w1 ⟨rfl, hb1⟩
    go_wp2_with fail
    go_ret2
    exact HB.out _ _ rfl (hal.out.trans (hb1.mono hal.out.size))
  subst x0
  by_cases x1 : n < 1
  case pos =>
    have HB := Lib.hid (fun (w' : World) (e : Ending) => chn_bad (c := ⟨cla, ins, p1, p2, d, le, lg⟩) (n := n) (w := w) (w' := w') (e := e) 1 (by rw [HE.out, if_pos rfl, if_pos (.inl x1)]) (by decide))
    go_enter Try.func35, Try.ntmps35
    go_wp2_with fail
    refine (HC.out _).mono ?_
    rintro e w1 ⟨rfl, hb1⟩
    go_wp2_with fail
    go_ret2
    exact HB.out _ _ rfl (hal.out.trans (hb1.mono hal.out.size))
  by_cases x2 : 255 < n
  case pos =>
    have HB := Lib.hid (fun (w' : World) (e : Ending) => chn_bad (c := ⟨cla, ins, p1, p2, d, le, lg⟩) (n := n) (w := w) (w' := w') (e := e) 1 (by rw [HE.out, if_pos rfl, if_pos (.inr x2)]) (by decide))
    go_enter Try.func35, Try.ntmps35
    go_wp2_with fail
    refine (HC.out _).mono ?_
    rintro e w1 ⟨rfl, hb1⟩
    go_wp2_with fail
    go_ret2
    exact HB.out _ _ rfl (hal.out.trans (hb1.mono hal.out.size))
  have HE2 : Hid (chnE ⟨cla, ins, p1, p2, d, le, lg⟩ n = if clsB cla = false ∨ (clsK cla).chn = true then 4 else 0) := by show _ = _; rw [HE.out, if_pos rfl, if_neg (by omega)]
  have HE3 : Hid (clsB cla = false ∨ (clsK cla).chn = true) := by
    show _ ∨ _
    apply Classical.byContradiction
    intro hx
    exact H0.out (by rw [HE2.out, if_neg hx])
  have HB := Lib.hid (fun (w' : World) (e : Ending) => chn_bad (c := ⟨cla, ins, p1, p2, d, le, lg⟩) (n := n) (w := w) (w' := w') (e := e) 4 (by rw [HE2.out, if_pos HE3.out]) (by decide))
  clear HE H0 HE2
  generalize clsB cla = ok at *
  generalize clsK cla = kk at *
  obtain ⟨k0, k1, k2, k3⟩ := kk
  simp only at HK HE3
  have hcc : ok = false ∨ (ok = true ∧ k2 = true) := by
    cases ok
    · exact .inl rfl
    · rcases HE3.out with h | h
      · cases h
      · exact .inr ⟨rfl, h⟩
  clear HE3
  rcases hcc with rfl | ⟨rfl, rfl⟩
  all_goals
    go_enter Try.func35, Try.ntmps35
    go_wp2_with fail
    refine (HC.out _).mono ?_
    rintro e w1 ⟨rfl, hb1⟩
    have HB1 := Lib.hid (hal.out.trans (hb1.mono hal.out.size))
    have HR1 := Lib.hid ((hb1.block _ (lt_row hrow.out)).trans hrow.out)
    clear hb1
    obtain ⟨r0, r1, r2, r3, r4, r5, r6⟩ := box7 (w' := w1) HR1.out
    go_wp2_with fail
    refine (HK.out _).mono ?_
    rintro e w2 ⟨rfl, hb2⟩
    have HB2 := Lib.hid (HB1.out.trans (hb2.mono HB1.out.size))
    clear hb2 r0 r1 r2 r3 r4 r5 r6
    go_wp2_with fail
    go_ret2
    first
      | exact HB.out _ _ rfl HB2.out
      | exact HB.out _ _ rfl (HB2.out.trans ((alloc_below _ _).mono HB2.out.size))
/-- Chain of the program, whatever the command. -/
theorem pchn_any (c : Cm) (n : Int) (u : Value) (w : World) (h : SL w w.heap.size u c.data) (hle : -9223372036854775808 ≤ c.le ∧ c.le ≤ 9223372036854775807) (hd : c.data.length ≤ 5000) :
    Calls Try.prog 34 #[c.val u, .int .i64 n] w (ChnR c n w) := by
  by_cases h0 : chnE c n = 0
  · by_cases h1 : (c.data.length : Int) ≤ n
    · exact pchn_one c n u w h hle hd h0 h1
    · exact pchn_many c n u w h hle hd h0 (by omega)
  · exact pchn_err c n u w h hle h0
/-- Chain of the reference, whatever the command. -/
theorem rchn_any (c : Cm) (n : Int) (u : Value) (w : World) (h : SL w w.heap.size u c.data) (hle : -9223372036854775808 ≤ c.le ∧ c.le ≤ 9223372036854775807) (hd : c.data.length ≤ 5000) :
    Calls Try.prog 35 #[c.val u, .int .i64 n] w (ChnR c n w) := by
  by_cases h0 : chnE c n = 0
  · exact rchn_ok c n u w h hle hd h0
  · exact rchn_err c n u w h hle h0
end Go.Proofs.Ytjoibonbmalbdaa
