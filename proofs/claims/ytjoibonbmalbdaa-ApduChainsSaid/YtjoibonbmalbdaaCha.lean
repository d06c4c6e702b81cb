/-
  Chain of the program, for any command.
-/
import Derived.Test.YtjoibonbmalbdaaJnm
import Derived.Test.YtjoibonbmalbdaaChx
namespace Go.Proofs.Ytjoibonbmalbdaa
set_option linter.unusedVariables false
set_option linter.unusedSimpArgs false
open Go.RowKit

/-- What Chain gives. -/
def ChnR (c : Cm) (n : Int) (w : World) (e : Ending) (w' : World) : Prop :=
  ∃ v, e = .returned (.tuple #[v, .int .i64 (chnE c n)]) ∧ ML w' w'.heap.size v (if chnE c n = 0 then chnL c n.toNat else []) ∧ Below w.heap.size w w'
theorem chn_bad {c : Cm} {n : Int} {w w' : World} {e : Ending} (E : Int) (hE : chnE c n = E) (h0 : E ≠ 0) (he : e = .returned (.tuple #[.slice none 0 0, .int .i64 E])) (hB : Below w.heap.size w w') : ChnR c n w e w' := by
  subst he
  exact ⟨_, by rw [hE], by rw [hE, if_neg h0]; exact ML.nil _ _ _ _ (Nat.zero_le _), hB⟩
/-- The seven cells of a command's box, in a later world. -/
theorem box7 {W w' : World} {g : Nat} {x0 x1 x2 x3 x4 x5 x6 : Value} (h : W.heap[g]? = some (.cells #[x0, x1, x2, x3, x4, x5, x6] 24 (0, 0))) :
    W.cell? ⟨g, 0, none⟩ = some x0 ∧ W.cell? ⟨g, 1, none⟩ = some x1 ∧ W.cell? ⟨g, 2, none⟩ = some x2 ∧ W.cell? ⟨g, 3, none⟩ = some x3 ∧ W.cell? ⟨g, 4, none⟩ = some x4 ∧ W.cell? ⟨g, 5, none⟩ = some x5 ∧ W.cell? ⟨g, 6, none⟩ = some x6 :=
  ⟨cell_of_row _ _ 0 _ _ _ h, cell_of_row _ _ 1 _ _ _ h, cell_of_row _ _ 2 _ _ _ h, cell_of_row _ _ 3 _ _ _ h, cell_of_row _ _ 4 _ _ _ h, cell_of_row _ _ 5 _ _ _ h, cell_of_row _ _ 6 _ _ _ h⟩
theorem lt_row {W : World} {g : Nat} {o : Obj} (h : W.heap[g]? = some o) : g < W.heap.size := (Array.getElem?_eq_some_iff.1 h).1

set_option maxRecDepth 100000 in
set_option maxHeartbeats 3200000 in
theorem pchn_err (c : Cm) (n : Int) (u : Value) (w : World) (h : SL w w.heap.size u c.data) (hle : -9223372036854775808 ≤ c.le ∧ c.le ≤ 9223372036854775807) (h0 : chnE c n ≠ 0) :
    Calls Try.prog 34 #[c.val u, .int .i64 n] w (ChnR c n w) := by
  obtain ⟨A, k, rfl, _, _, _⟩ := h
  have HC := Lib.hid (fun (W : World) => pchk_any c A c.data.length k W rfl hle)
  have HK := Lib.hid (fun (W : World) => pcls_any c.cla W)
  have HE : Hid (chnE c n = if chkC c = 0 then (if n < 1 ∨ 255 < n then 1 else if clsB c.cla = false ∨ (clsK c.cla).chn = true then 4 else 0) else chkC c) := rfl
  have H0 := Lib.hid h0
  clear h0
  obtain ⟨cla, ins, p1, p2, d, le, lg⟩ := c
  simp only [Cm.val, Kl.val] at *
  have hal := Lib.hid (alloc_below w (.cells #[.int .i64 cla, .int .i64 ins, .int .i64 p1, .int .i64 p2, .slice A d.length k, .int .i64 le, .bool lg] 24))
  have hrow := Lib.hid (heap_alloc_new w (.cells #[.int .i64 cla, .int .i64 ins, .int .i64 p1, .int .i64 p2, .slice A d.length k, .int .i64 le, .bool lg] 24))
  generalize chkC ⟨cla, ins, p1, p2, d, le, lg⟩ = E at *
  by_cases x0 : E = 0
  case neg =>
    have HB := Lib.hid (fun (w' : World) (e : Ending) => chn_bad (c := ⟨cla, ins, p1, p2, d, le, lg⟩) (n := n) (w := w) (w' := w') (e := e) E (by rw [HE.out, if_neg x0]) x0)
    have hn : (E != 0) = true := by rw [bne_iff_ne]; exact x0
    go_enter Try.func34, Try.ntmps34
    go_wp2_with fail
    refine (HC.out _).mono ?_
    rintro e w1 ⟨rfl, hb1⟩
    go_wp2_with fail
    go_ret2
    exact HB.out _ _ rfl (hal.out.trans (hb1.mono hal.out.size))
  subst x0
  by_cases x1 : n < 1
  case pos =>
    have HB := Lib.hid (fun (w' : World) (e : Ending) => chn_bad (c := ⟨cla, ins, p1, p2, d, le, lg⟩) (n := n) (w := w) (w' := w') (e := e) 1 (by rw [HE.out, if_pos rfl, if_pos (.inl x1)]) (by decide))
    go_enter Try.func34, Try.ntmps34
    go_wp2_with fail
    refine (HC.out _).mono ?_
    rintro e w1 ⟨rfl, hb1⟩
    go_wp2_with fail
    go_ret2
    exact HB.out _ _ rfl (hal.out.trans (hb1.mono hal.out.size))
  by_cases x2 : 255 < n
  case pos =>
    have HB := Lib.hid (fun (w' : World) (e : Ending) => chn_bad (c := ⟨cla, ins, p1, p2, d, le, lg⟩) (n := n) (w := w) (w' := w') (e := e) 1 (by rw [HE.out, if_pos rfl, if_pos (.inr x2)]) (by decide))
    go_enter Try.func34, Try.ntmps34
    go_wp2_with fail
    refine (HC.out _).mono ?_
    rintro e w1 ⟨rfl, hb1⟩
    go_wp2_with fail
    go_ret2
    exact HB.out _ _ rfl (hal.out.trans (hb1.mono hal.out.size))
  have HE2 : Hid (chnE ⟨cla, ins, p1, p2, d, le, lg⟩ n = if clsB cla = false ∨ (clsK cla).chn = true then 4 else 0) := by show _ = _; rw [HE.out, if_pos rfl, if_neg (by omega)]
  have HE3 : Hid (clsB cla = false ∨ (clsK cla).chn = true) := by
    show _ ∨ _
    apply Classical.byContradiction
    intro hx
    exact H0.out (by rw [HE2.out, if_neg hx])
  have HB := Lib.hid (fun (w' : World) (e : Ending) => chn_bad (c := ⟨cla, ins, p1, p2, d, le, lg⟩) (n := n) (w := w) (w' := w') (e := e) 4 (by rw [HE2.out, if_pos HE3.out]) (by decide))
  clear HE H0 HE2
  generalize clsB cla = ok at *
  generalize clsK cla = kk at *
  obtain ⟨k0, k1, k2, k3⟩ := kk
  simp only at HK HE3
  have hcc : ok = false ∨ (ok = true ∧ k2 = true) := by
    cases ok
    · exact .inl rfl
    · rcases HE3.out with h | h
      · cases h
      · exact .inr ⟨rfl, h⟩
  clear HE3
  rcases hcc with rfl | ⟨rfl, rfl⟩
  all_goals
    go_enter Try.func34, Try.ntmps34
    go_wp2_with fail
    refine (HC.out _).mono ?_
    rintro e w1 ⟨rfl, hb1⟩
    have HB1 := Lib.hid (hal.out.trans (hb1.mono hal.out.size))
    have HR1 := Lib.hid ((hb1.block _ (lt_row hrow.out)).trans hrow.out)
    clear hb1
    obtain ⟨r0, r1, r2, r3, r4, r5, r6⟩ := box7 (w' := w1) HR1.out
    go_wp2_with fail
    refine (HK.out _).mono ?_
    rintro e w2 ⟨rfl, hb2⟩
    have HB2 := Lib.hid (HB1.out.trans (hb2.mono HB1.out.size))
    clear hb2 r0 r1 r2 r3 r4 r5 r6
    go_wp2_with fail
    go_ret2
    first
      | exact HB.out _ _ rfl HB2.out
      | exact HB.out _ _ rfl (HB2.out.trans ((alloc_below _ _).mono HB2.out.size))
end Go.Proofs.Ytjoibonbmalbdaa
