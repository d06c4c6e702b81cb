/-
  Check and Encode of the reference: the walks.
-/
import Derived.Test.YtnbggokmiokhlaaDoorAwe
import Derived.Test.YtnbggokmiokhlaaDoorAwc
namespace Go.Proofs.YtnbggokmiokhlaaDoor
set_option linter.unusedVariables false
set_option linter.unusedSimpArgs false
open Go.RowKit

theorem encM_len {a : At} (h : Valid a) : cntN a + a.ibs.length + 1 ≤ (encM a).length ∧ cntV a = ((cntN a : Nat) : Int) := by
  have c := cnt_facts h
  refine ⟨?_, by unfold cntN; omega⟩
  have := bodV_len h
  unfold encM
  (repeat' split) <;> simp <;> omega

set_option maxRecDepth 100000 in
set_option maxHeartbeats 1600000 in
theorem rchka_any (a : At) (v : Value) (w : World) (h : AT w v a) (hg : ∀ x ∈ a.ibs, x.g ≤ 9223372036854775807) (hl : a.ibs.length ≤ 200) :
    Calls Tryd.prog 51 #[v] w fun e w' => e = .returned (.int .i64 (chkE a)) ∧ Below w.heap.size w w' := by
  have HV := Lib.hid (fun (W : World) (hW : Below w.heap.size w W) => rright_any a v W (h.on hW) hg)
  have HE := Lib.hid (fun (W : World) (hW : Below w.heap.size w W) (hv : valB a = true) => rbytes_any a v W (h.on hW) (valid_of hv) hl)
  have HL := Lib.hid (fun (W : World) (hW : Below w.heap.size w W) (hv : valB a = true) => rlast_any a v W (h.on hW) (valid_of hv) hl)
  have HM := Lib.hid (fun (hv : valB a = true) => encM_len (valid_of hv))
  obtain ⟨v1, v2, v3, rfl, h1, h2, h3⟩ := h
  obtain ⟨A1, c1, rfl, a1, b1, d1⟩ := h1
  obtain ⟨A2, c2, rfl, a2, b2, d2⟩ := h2
  obtain ⟨A3, c3, rfl, a3, b3, d3⟩ := h3
  have HD : Hid (chkE a = if valB a = true then (if 33 < (encM a).length then 3 else 0) else 1) := rfl
  unfold EncR at HE
  clear d1 d2 d3 hg
  generalize valB a = V at *
  have hal := Lib.hid (alloc_below w (.cells #[.bool a.inv, .slice A1 a.ibs.length c1, .slice A2 a.prs.length c2, .slice A3 a.his.length c3] 26))
  have hrow := Lib.hid (heap_alloc_new w (.cells #[.bool a.inv, .slice A1 a.ibs.length c1, .slice A2 a.prs.length c2, .slice A3 a.his.length c3] 26))
  have hsz : Hid (w.heap.size < (w.alloc (.cells #[.bool a.inv, .slice A1 a.ibs.length c1, .slice A2 a.prs.length c2, .slice A3 a.his.length c3] 26)).heap.size) := by show _ < _; rw [alloc_size]; omega
  cases V with
  | false =>
    have HD2 : Hid (chkE a = 1) := by show _ = _; rw [HD.out]; rfl
    go_enter Tryd.func51, Tryd.ntmps51
    go_wp2_with fail
    refine (HV.out _ hal.out).mono ?_
    rintro e w1 ⟨rfl, hb1⟩
    go_wp2_with fail
    go_ret
    exact ⟨ret_int HD2.out.symm, hal.out.trans (hb1.mono hal.out.size)⟩
  | true =>
    have HE2 := Lib.hid (fun (W : World) (hW : Below w.heap.size w W) => HE.out W hW (by first | exact trivial | rfl))
    have HL2 := Lib.hid (fun (W : World) (hW : Below w.heap.size w W) => HL.out W hW (by first | exact trivial | rfl))
    obtain ⟨hm1, hm2⟩ := HM.out (by first | exact trivial | rfl)
    rw [hm2] at HL2
    have HDD : Hid (chkE a = if 33 < (encM a).length then 3 else 0) := by show _ = _; rw [HD.out]; rfl
    clear HE HL hm2 HD HM
    generalize encM a = M at *
    generalize cntN a = n at *
    go_enter Tryd.func51, Tryd.ntmps51
    go_wp2_with fail
    refine (HV.out _ hal.out).mono ?_
    rintro e w1 ⟨rfl, hb1⟩
    have HB1 := Lib.hid (hal.out.trans (hb1.mono hal.out.size))
    have HR1 := Lib.hid ((hb1.block _ hsz.out).trans hrow.out)
    have hz1 : Hid (w.heap.size < w1.heap.size) := Nat.lt_of_lt_of_le hsz.out hb1.size
    obtain ⟨r0, r1, r2, r3⟩ := cellsA HR1.out
    clear hb1
    by_cases x1 : 33 < a.ibs.length
    · have HD2 : Hid (chkE a = 3) := by show _ = _; rw [HDD.out, if_pos (by omega)]
      have x1' : (33 : Int) < (a.ibs.length : Int) := by omega
      go_wp2_with fail
      go_ret
      exact ⟨ret_int HD2.out.symm, HB1.out⟩
    · have x1' : ¬ (33 : Int) < (a.ibs.length : Int) := by omega
      go_wp2_with fail
      refine (HL2.out _ HB1.out).mono ?_
      rintro e w2 ⟨rfl, hb2⟩
      have HB2 := Lib.hid (HB1.out.trans (hb2.mono HB1.out.size))
      have HR2 := Lib.hid ((hb2.block _ hz1.out).trans HR1.out)
      clear hb2 r0 r1 r2 r3
      obtain ⟨r0, r1, r2, r3⟩ := cellsA HR2.out
      by_cases x2 : 40 < n
      · have HD2 : Hid (chkE a = 3) := by show _ = _; rw [HDD.out, if_pos (by omega)]
        have x2' : (40 : Int) < (n : Int) := by omega
        go_wp2_with fail
        go_ret
        exact ⟨ret_int HD2.out.symm, HB2.out⟩
      · have x2' : ¬ (40 : Int) < (n : Int) := by omega
        go_wp2_with fail
        refine (HE2.out _ HB2.out).mono ?_
        rintro e w3 ⟨v3, rfl, hv3, hb3⟩
        obtain ⟨B3, d3, rfl, _, hd3, _⟩ := hv3
        unfold maxLen at hd3
        have HB3 := Lib.hid (HB2.out.trans (hb3.mono HB2.out.size))
        clear hb3 r0 r1 r2 r3
        by_cases hlt : 33 < M.length
        · have HD2 : Hid (chkE a = 3) := by show _ = _; rw [HDD.out, if_pos hlt]
          have hlt' : (33 : Int) < (M.length : Int) := by omega
          go_wp2_with fail
          go_ret
          exact ⟨ret_int HD2.out.symm, HB3.out⟩
        · have HD2 : Hid (chkE a = 0) := by show _ = _; rw [HDD.out, if_neg hlt]
          have hlt' : ¬ (33 : Int) < (M.length : Int) := by omega
          go_wp2_with fail
          go_ret
          exact ⟨ret_int HD2.out.symm, HB3.out⟩

set_option maxRecDepth 100000 in
set_option maxHeartbeats 1600000 in
theorem renca_any (a : At) (v : Value) (w : World) (h : AT w v a) (hg : ∀ x ∈ a.ibs, x.g ≤ 9223372036854775807) (hl : a.ibs.length ≤ 200) :
    Calls Tryd.prog 22 #[v] w (EnaR a w) := by
  have HC := Lib.hid (fun (W : World) (hW : Below w.heap.size w W) => rchka_any a v W (h.on hW) hg hl)
  have HE := Lib.hid (fun (W : World) (hW : Below w.heap.size w W) (hv : chkE a = 0) => rbytes_any a v W (h.on hW) (valid_of (chkE_valid hv)) hl)
  obtain ⟨v1, v2, v3, rfl, h1, h2, h3⟩ := h
  obtain ⟨A1, c1, rfl, a1, b1, d1⟩ := h1
  obtain ⟨A2, c2, rfl, a2, b2, d2⟩ := h2
  obtain ⟨A3, c3, rfl, a3, b3, d3⟩ := h3
  have HD : Hid (encV a = if chkE a = 0 then encM a else []) := rfl
  have HU : Hid (∀ E e w', E = chkE a → (∃ v', e = .returned (.tuple #[v', .int .i64 E]) ∧ SL w' w'.heap.size v' (encV a) ∧ Below w.heap.size w w') → EnaR a w e w') := fun E e w' h h' => by subst h; exact h'
  unfold EncR at HE
  clear d1 d2 d3 hg
  generalize chkE a = E at *
  have HU := Lib.hid (fun e w' => HU.out E e w' rfl)
  have hal := Lib.hid (alloc_below w (.cells #[.bool a.inv, .slice A1 a.ibs.length c1, .slice A2 a.prs.length c2, .slice A3 a.his.length c3] 26))
  have hrow := Lib.hid (heap_alloc_new w (.cells #[.bool a.inv, .slice A1 a.ibs.length c1, .slice A2 a.prs.length c2, .slice A3 a.his.length c3] 26))
  have hsz : Hid (w.heap.size < (w.alloc (.cells #[.bool a.inv, .slice A1 a.ibs.length c1, .slice A2 a.prs.length c2, .slice A3 a.his.length c3] 26)).heap.size) := by show _ < _; rw [alloc_size]; omega
  by_cases h0 : E = 0
  · subst h0
    have HD2 : Hid (encV a = encM a) := by show _ = _; rw [HD.out, if_pos rfl]
    have HE2 := Lib.hid (fun (W : World) (hW : Below w.heap.size w W) => HE.out W hW rfl)
    clear HE
    go_enter Tryd.func22, Tryd.ntmps22
    go_wp2_with fail
    refine (HC.out _ hal.out).mono ?_
    rintro e w1 ⟨rfl, hb1⟩
    have HB1 := Lib.hid (hal.out.trans (hb1.mono hal.out.size))
    obtain ⟨r0, r1, r2, r3⟩ := cellsA ((hb1.block _ hsz.out).trans hrow.out)
    clear hb1
    go_wp2_with fail
    refine (HE2.out _ HB1.out).mono ?_
    rintro e w2 ⟨v2, rfl, hv2, hb2⟩
    have HV2 : Hid (SL w2 w2.heap.size v2 (encV a)) := by show SL _ _ _ _; rw [HD2.out]; exact hv2
    have HB2 := Lib.hid (HB1.out.trans (hb2.mono HB1.out.size))
    clear hb2 hv2 r0 r1 r2 r3
    go_wp2_with fail
    go_ret2
    exact HU.out _ _ ⟨v2, rfl, HV2.out, HB2.out⟩
  · have hn : (E != 0) = true := by rw [bne_iff_ne]; exact h0
    have HD2 : Hid (encV a = []) := by show _ = _; rw [HD.out, if_neg h0]
    go_enter Tryd.func22, Tryd.ntmps22
    go_wp2_with fail
    refine (HC.out _ hal.out).mono ?_
    rintro e w1 ⟨rfl, hb1⟩
    have HB1 := Lib.hid (hal.out.trans (hb1.mono hal.out.size))
    clear hb1
    go_wp2_with fail
    go_ret2
    exact HU.out _ _ ⟨.slice none 0 0, rfl, by rw [HD2.out]; exact SL.nil _ _ _ _ (Nat.zero_le _), HB1.out⟩
end Go.Proofs.YtnbggokmiokhlaaDoor
