/-
  The walks of code, parts, levels.Valid, close, check.
-/
import Derived.Test.YtdalcldilmmgmaaDoorChn
import Derived.Deep.RegionHeld3
namespace Go.Proofs.YtdalcldilmmgmaaDoor
set_option linter.unusedVariables false
set_option linter.unusedSimpArgs false
open Go.RowKit

/-- The package variable errors.errorType as the program lays it. -/
def ET (w : World) : Prop := w.cell? ⟨0, 0, none⟩ = some (.iface 125 (.agg #[.pointer (some ⟨2, 62, none⟩)]))
theorem ET.pos {w : World} (h : ET w) : 0 < w.heap.size := by
  rcases Nat.eq_zero_or_pos w.heap.size with h0 | h1
  · simp [ET, World.cell?, h0] at h
  · exact h1
theorem ET.on {w w' : World} (h : ET w) (hb : Below w.heap.size w w') : ET w' := (hb.cell (p := ⟨0, 0, none⟩) h.pos).trans h
theorem ET.kb {w w' : World} {g : Nat} (h : ET w) (hb : Kb g w w') (hg : 0 < g) : ET w' := (World.cell?_of_block (w := w) (hb.block 0 h.pos (by omega))).trans h
theorem pcode_nil (w : World) : Calls Tryd.prog 27 #[.nilIface] w fun e w' => e = .returned (.int .i64 0) ∧ Below w.heap.size w w' := by
  go_enter Tryd.func27, Tryd.ntmps27
  go_wp2_with (go_at_call 44; refine (as_nil _ _).mono ?_; rintro e w' ⟨rfl, rfl⟩)
  go_ret
  exact ⟨rfl, alloc_below _ _⟩
set_option maxRecDepth 100000 in
theorem pcode_any (n : Int) (w : World) (h : ET w) : Calls Tryd.prog 27 #[errV n] w fun e w' => e = .returned (.int .i64 n) ∧ Below w.heap.size w w' := by
  have hb := alloc_below w (Obj.cells #[.int .i64 0] 81)
  have hn := heap_alloc_new w (Obj.cells #[.int .i64 0] 81)
  have hs := alloc_size w (Obj.cells #[.int .i64 0] 81)
  have HAS := Lib.hid (as_hit n ⟨w.heap.size, 0, none⟩ (.int .i64 0) _ (h.on hb) (cell_of_row _ _ 0 _ _ _ hn) (frozen_of_row _ _ 0 _ _ hn))
  have HB := Lib.hid hb
  have HN := Lib.hid hn
  have HS := Lib.hid hs
  unfold errV at *
  clear hb hn h hs
  go_enter Tryd.func27, Tryd.ntmps27
  go_wp2_with fail
  refine HAS.out.mono ?_
  rintro e w' ⟨rfl, hw'⟩
  have hk : w'.cell? ⟨w.heap.size, 0, none⟩ = some (.int .i64 n) ∧ Below w.heap.size w w' := by
    have hsz := HS.out
    have hnn := HN.out
    have hbb := HB.out
    generalize w.alloc (Obj.cells #[.int .i64 0] 81) = W at *
    generalize (Obj.cells #[Value.pointer (some ⟨w.heap.size, 0, none⟩)] 88) = o1 at *
    generalize (Obj.cells #[Value.pointer (some ⟨2, 88, none⟩), Value.pointer (some ⟨W.heap.size, 0, none⟩), Value.int .u64 150] 107) = o2 at *
    generalize (Obj.cells #[Value.int .i64 n] 81) = o3 at *
    have b1 : Below W.heap.size W (((W.alloc o1).alloc o2).alloc o2) := ((alloc_below W o1).trans ((alloc_below (W.alloc o1) o2).mono (by rw [alloc_size]; omega))).trans ((alloc_below ((W.alloc o1).alloc o2) o2).mono (by rw [alloc_size, alloc_size]; omega))
    have b2 : Below W.heap.size W ((((W.alloc o1).alloc o2).alloc o2).alloc o3) := b1.trans ((alloc_below _ o3).mono b1.size)
    have r := (b2.block w.heap.size (by omega)).trans hnn
    subst hw'
    refine ⟨?_, hbb.trans ((b2.mono (show w.heap.size ≤ W.heap.size by omega)).setCell (p := ⟨w.heap.size, 0, none⟩) (Nat.le_refl _) _)⟩
    have := heap_setCell_same _ w.heap.size 0 _ _ (.int .i64 n) r
    rw [cell_of_row _ _ 0 _ _ _ this]
    rfl
  obtain ⟨k0, hk1⟩ := hk
  clear hw'
  go_wp2_with fail
  go_ret
  exact ⟨rfl, hk1⟩

/-- What parts gives. -/
def PaP (w : World) (l : List UInt8) (e : Ending) (w' : World) : Prop := Below w.heap.size w w' ∧
  if l.length < 8 then e = .returned (.tuple #[.slice none 0 0, .slice none 0 0, .bool false]) else
  ∃ v u, e = .returned (.tuple #[v, u, .bool true]) ∧ SL w' w'.heap.size v (l.take (l.length - 8)) ∧ SL w' w'.heap.size u (l.drop (l.length - 8))
set_option maxRecDepth 100000 in
set_option maxHeartbeats 1600000 in
theorem pparts_any (l : List UInt8) (v : Value) (w : World) (hv : SL w w.heap.size v l) (hl : l.length ≤ 2000) : Calls Tryd.prog 45 #[v] w (PaP w l) := by
  have HV := Lib.hid hv
  obtain ⟨A, c, rfl, h1, h2, h3⟩ := hv
  unfold maxLen at h2
  by_cases h8 : l.length < 8
  · have hP : Hid (∀ e w', Below w.heap.size w w' → e = .returned (.tuple #[.slice none 0 0, .slice none 0 0, .bool false]) → PaP w l e w') := fun e w' hb he => ⟨hb, by rw [if_pos h8]; exact he⟩
    have hi : ((l.length : Int) - 8 < 0) := by omega
    clear h3 HV
    generalize l.length = n at *
    go_enter Tryd.func45, Tryd.ntmps45
    go_wp2_with fail
    go_ret3
    exact hP.out _ _ (Below.refl _ _) rfl
  · have hP : Hid (∀ e w', Below w.heap.size w w' → (∃ v u, e = .returned (.tuple #[v, u, .bool true]) ∧ SL w' w'.heap.size v (l.take (l.length - 8)) ∧ SL w' w'.heap.size u (l.drop (l.length - 8))) → PaP w l e w') := fun e w' hb he => ⟨hb, by rw [if_neg h8]; exact he⟩
    obtain ⟨n, hn⟩ : ∃ n, l.length = n + 8 := ⟨l.length - 8, by omega⟩
    obtain ⟨b, o, rfl, hb, hc⟩ := h3 (by omega)
    have hs1 : SL w w.heap.size (.slice (some ⟨b, o, none⟩) n c) (l.take n) := by
      have := HV.out.take (m := n) (by omega)
      exact this
    have hs2 : SL w w.heap.size (.slice (some ⟨b, o + n, none⟩) 8 (c - n)) (l.drop n) :=
      ⟨some ⟨b, o + n, none⟩, c - n, by rw [List.length_drop, hn]; congr 1; omega, by rw [List.length_drop]; omega, by unfold maxLen; omega, Rd.drop h3 n (by omega)⟩
    obtain ⟨m, rfl⟩ : ∃ m, c = n + (m + 1) := ⟨c - n - 1, by omega⟩
    rw [show n + (m + 1) - n = m + 1 by omega] at hs2
    have HC1 := Lib.hid (fun W (hb : Below w.heap.size w W) => clone_any (l.take n) _ W (hs1.on hb) (by rw [List.length_take]; omega))
    have HC2 := Lib.hid (fun W (hb : Below w.heap.size w W) => clone_any (l.drop n) _ W (hs2.on hb) (by rw [List.length_drop]; omega))
    have hP2 : Hid (∀ e w', Below w.heap.size w w' → (∃ v u, e = .returned (.tuple #[v, u, .bool true]) ∧ SL w' w'.heap.size v (l.take n) ∧ SL w' w'.heap.size u (l.drop n)) → PaP w l e w') := fun e w' hb he => hP.out e w' hb (by rw [show l.length - 8 = n by omega]; exact he)
    rw [hn] at h1 ⊢
    have i1 : ((n + 8 : Nat) : Int) - 8 = (n : Int) := by omega
    have i2 : ¬ (n : Int) < 0 := by omega
    have i3 : (n : Int) ≤ ((n + 8 : Nat) : Int) := by omega
    have i4 : (n : Int) ≤ ((n + (m + 1) : Nat) : Int) := by omega
    have i5 : (0 : Int) ≤ (n : Int) := by omega
    have i6 : (n : Int) ≤ (n : Int) + ((m : Int) + 1) := by omega
    have i7 : n ≤ n + (m + 1) := by omega
    have i9 : (n : Int) ≤ (n : Int) + 8 := by omega
    have i8 : IntKind.wrap .i64 ((n : Int) + 8 - 8) = (n : Int) := by rw [IntWalk.i64_in _ (by omega)]; omega
    clear h3 HV hc hs1 hs2 hP hn
    go_enter Tryd.func45, Tryd.ntmps45
    go_wp2_with fail
    go_region_held3 (fun _ => True) (exact True.intro)
      (first
        | (go_at_call 23; (with_reducible refine (HC1.out _ (by first | exact (Below.refl _ _).drew | exact Below.refl _ _)).mono ?_); rintro e w2 ⟨v2, rfl, hv2, hb2⟩; have hb3 : Below w.heap.size w w2 := ((Below.refl _ w).drew).trans hb2; have hb4 := hb3.drew)
        | (go_at_call 23; (with_reducible refine (HC2.out _ (by first | exact hb3 | exact hb4)).mono ?_); rintro e w3 ⟨v3, rfl, hv3, hb5⟩))
    go_wp2_with fail
    go_ret3
    have hb6 : Below w.heap.size w w3 := by first | exact hb3.trans (hb5.mono hb3.size) | exact hb4.trans (hb5.mono hb4.size)
    refine hP2.out _ _ (by first | exact hb6 | exact hb6.drew) ⟨_, _, rfl, ?_, ?_⟩
    · first
        | exact hv2.on hb5
        | exact (hv2.on (Below.refl _ _).drew).on hb5
    · exact hv3

theorem FL.nil (g : Nat) (w : World) : FL g w (.slice none 0 0) [] := ⟨none, 0, rfl, Nat.le_refl _, Nat.zero_le _, fun h => absurd h (by simp)⟩
def lvlB (n : Int) : Bool := n == 0 || n == 1 || n == 3 || n == 17 || n == 19 || n == 51
set_option maxRecDepth 100000 in
theorem plvl_any (n : Int) (w : World) : Calls Tryd.prog 36 #[.int .i64 n] w fun e w' => e = .returned (.bool (lvlB n)) ∧ w = w' := by
  have HV : Hid (lvlB n = (n == 0 || n == 1 || n == 3 || n == 17 || n == 19 || n == 51)) := rfl
  cases h0 : (n == 0) <;> cases h1 : (n == 1) <;> cases h2 : (n == 3) <;> cases h3 : (n == 17) <;> cases h4 : (n == 19) <;> cases h5 : (n == 51)
  all_goals first
    | (exfalso; simp only [beq_iff_eq] at *; omega)
    | (rw [h0, h1, h2, h3, h4, h5] at HV
       have hn : Hid True := trivial
       go_enter Tryd.func36, Tryd.ntmps36
       go_wp2_with fail
       go_ret
       exact ⟨ret_bool (by rw [HV.out]; rfl), rfl⟩)

set_option maxRecDepth 100000 in
theorem pclose_any (g : Nat) (s : Ch) (w : World) (h : CH w g s) : Calls Tryd.prog 30 #[.pointer (some ⟨g, 0, none⟩)] w fun e w' => (∃ u, e = .returned u) ∧ CH w' g s.shut ∧ Kb g w w' := by
  obtain ⟨A0, A1, A2, A3, A5, c0, c1, c2, c3, c5, hr, _, _, _, _, h5⟩ := h
  unfold chC at hr
  have q0 := cell_of_row _ _ 0 _ _ _ hr
  have q1 := cell_of_row _ _ 1 _ _ _ hr
  have q2 := cell_of_row _ _ 2 _ _ _ hr
  have q3 := cell_of_row _ _ 3 _ _ _ hr
  have q4 := cell_of_row _ _ 4 _ _ _ hr
  have q7 := cell_of_row _ _ 7 _ _ _ hr
  have q8 := cell_of_row _ _ 8 _ _ _ hr
  have f0 := frozen_of_row _ _ 0 _ _ hr
  have f1 := frozen_of_row _ _ 1 _ _ hr
  have f2 := frozen_of_row _ _ 2 _ _ hr
  have f3 := frozen_of_row _ _ 3 _ _ hr
  have f4 := frozen_of_row _ _ 4 _ _ hr
  have f7 := frozen_of_row _ _ 7 _ _ hr
  have f8 := frozen_of_row _ _ 8 _ _ hr
  have HR := Lib.hid hr
  have H5 := Lib.hid h5
  clear hr h5
  go_enter Tryd.func30, Tryd.ntmps30
  go_wp2_with fail
  refine bodyPost_end (results_none rfl _ _ _) rfl ?_
  have hk : Kb g w (((((((w.setCell ⟨g, 0, none⟩ (.slice none 0 0)).setCell ⟨g, 1, none⟩ (.slice none 0 0)).setCell ⟨g, 2, none⟩ (.slice none 0 0)).setCell ⟨g, 3, none⟩ (.slice none 0 0)).setCell ⟨g, 4, none⟩ (.int .i64 0)).setCell ⟨g, 7, none⟩ (.bool false)).setCell ⟨g, 8, none⟩ (.bool true)) :=
    ((((((((Kb.refl g w).set 0 _).set 1 _).set 2 _).set 3 _).set 4 _).set 7 _).set 8 _)
  have r0 := heap_setCell_same w g 0 _ _ (.slice none 0 0) HR.out
  have r1 := heap_setCell_same _ g 1 _ _ (.slice none 0 0) r0
  have r2 := heap_setCell_same _ g 2 _ _ (.slice none 0 0) r1
  have r3 := heap_setCell_same _ g 3 _ _ (.slice none 0 0) r2
  have r4 := heap_setCell_same _ g 4 _ _ (.int .i64 0) r3
  have r7 := heap_setCell_same _ g 7 _ _ (.bool false) r4
  have r8 := heap_setCell_same _ g 8 _ _ (.bool true) r7
  refine ⟨⟨_, rfl⟩, ⟨none, none, none, none, A5, 0, 0, 0, 0, c5, ?_, FL.nil _ _, FL.nil _ _, FL.nil _ _, FL.nil _ _, H5.out.kb hk⟩, hk⟩
  rw [r8]
  rfl

/-- A command counted, with its MAC. -/
def Ch.next (s : Ch) (d : List UInt8) : Ch := { s with cnt := s.cnt + 1, exp := true, cv := if hasB s.lvl 1 = true then d.drop (d.length - 8) else s.cv }
set_option maxRecDepth 100000 in
theorem pnext_any (g : Nat) (s : Ch) (x : Cm) (A : Option Addr) (c : Nat) (w : World) (h : CH w g s) (hd : SL w w.heap.size (.slice A x.data.length c) x.data) (hl : x.data.length ≤ 2000) (h8 : hasB s.lvl 1 = true → 8 ≤ x.data.length)
    (hc : 0 ≤ s.cnt ∧ s.cnt ≤ 1000) :
    Calls Tryd.prog 28 #[.pointer (some ⟨g, 0, none⟩), x.val (.slice A x.data.length c)] w fun e w' => (∃ u, e = .returned u) ∧ CH w' g (s.next x.data) ∧ Kb g w w' := by
  have hlt := h.lt
  have HH := Lib.hid h
  obtain ⟨A0, A1, A2, A3, A5, c0, c1, c2, c3, c5, hr, h0, h1, h2, h3, h5⟩ := h
  obtain ⟨cla, ins, p1, p2, data, le, long⟩ := x
  simp only [Cm.val] at *
  have hw6 : IntKind.wrap .i64 (s.cnt + 1) = s.cnt + 1 := IntWalk.i64_in _ (by omega)
  have hfd := HH.out.off hd (Nat.le_refl _)
  obtain ⟨W2, hW2⟩ : ∃ W2, W2 = (w.setCell ⟨g, 6, none⟩ (.int .i64 (s.cnt + 1))).setCell ⟨g, 7, none⟩ (.bool true) := ⟨_, rfl⟩
  have hk1 : Kb g w W2 := by rw [hW2]; exact ((Kb.refl g w).set 6 _).set 7 _
  have r6 := heap_setCell_same w g 6 _ _ (.int .i64 (s.cnt + 1)) hr
  have r7 := heap_setCell_same _ g 7 _ _ (.bool true) r6
  rw [← hW2] at r7
  have hch : CH W2 g { s with cnt := s.cnt + 1, exp := true } := ⟨A0, A1, A2, A3, A5, c0, c1, c2, c3, c5, r7, h0.kb hk1, h1.kb hk1, h2.kb hk1, h3.kb hk1, h5.kb hk1⟩
  have hsz : W2.heap.size = w.heap.size := by rw [hW2]; simp
  have hb2 := alloc_below W2 (Obj.cells #[.int .i64 cla, .int .i64 ins, .int .i64 p1, .int .i64 p2, .slice A data.length c, .int .i64 le, .bool long] 30)
  have hn2 := heap_alloc_new W2 (Obj.cells #[.int .i64 cla, .int .i64 ins, .int .i64 p1, .int .i64 p2, .slice A data.length c, .int .i64 le, .bool long] 30)
  have HCH := Lib.hid (hch.below hb2)
  have HB2 := Lib.hid hb2
  have HK1 := Lib.hid hk1
  have q4 := cell_of_row _ _ 4 _ _ _ hn2
  have HHB := Lib.hid (phas_any g 1 _ _ HCH.out)
  have HPA := Lib.hid (pparts_any data (.slice A data.length c) _ ((hfd.kb hk1).sl.on hb2) hl)
  have HQ4 := Lib.hid q4
  have hh : ({ s with cnt := s.cnt + 1, exp := true } : Ch).lvl = s.lvl := rfl
  rw [hh] at HHB
  have HNX : Hid (∀ d, s.next d = { s with cnt := s.cnt + 1, exp := true, cv := if hasB s.lvl 1 = true then d.drop (d.length - 8) else s.cv }) := fun d => rfl
  unfold chC at hr
  have q6 := cell_of_row _ _ 6 _ _ _ hr
  have q7 := cell_of_row _ _ 7 _ _ _ hr
  have f6 := frozen_of_row _ _ 6 _ _ hr
  have f7 := frozen_of_row _ _ 7 _ _ hr
  clear hr r6 r7 hk1 hch hb2 hn2 q4 hfd hh hd
  cases hB : hasB s.lvl 1 with
  | false =>
    rw [hB] at HHB
    have HB9 := Lib.hid hB
    clear hB
    go_enter Tryd.func28, Tryd.ntmps28
    go_wp2_with fail
    rw [← hW2]
    clear hW2
    refine HHB.out.mono ?_
    rintro e w3 ⟨rfl, rfl⟩
    go_wp2_with fail
    refine bodyPost_end (results_none rfl _ _ _) rfl ?_
    refine ⟨⟨_, rfl⟩, ?_, HK1.out.trans (Kb.of_below HB2.out)⟩
    rw [HNX.out, HB9.out]
    exact HCH.out
  | true =>
    rw [hB] at HHB
    have HB9 := Lib.hid hB
    have H8 := Lib.hid (h8 hB)
    clear hB
    go_enter Tryd.func28, Tryd.ntmps28
    go_wp2_with fail
    rw [← hW2]
    clear hW2
    refine HHB.out.mono ?_
    rintro e w3 ⟨rfl, rfl⟩
    have q4 := HQ4.out
    go_wp2_with fail
    refine HPA.out.mono ?_
    rintro e w3 ⟨hb3, h⟩
    rw [if_neg (by have := H8.out; omega)] at h
    obtain ⟨v3, u3, rfl, hs3, hu3⟩ := h
    have hc3 := HCH.out.below hb3
    have hf3 := hc3.off hu3 (Nat.le_refl _)
    obtain ⟨B0, B1, B2, B3, B5, d0, d1, d2, d3, d5, hr3, x0, x1, x2, x3, x5⟩ := hc3
    have hl6 : (data.drop (data.length - 8)).length = 8 := by rw [List.length_drop]; have := H8.out; omega
    obtain ⟨B6, d6, e6, _⟩ := id hf3
    rw [hl6] at e6
    subst e6
    have HL6 := Lib.hid hl6
    clear hl6
    have HR3 := Lib.hid hr3
    unfold chC at hr3
    have z5 := cell_of_row _ _ 5 _ _ _ hr3
    have y5 := frozen_of_row _ _ 5 _ _ hr3
    have HB3 := Lib.hid hb3
    have HX := Lib.hid (And.intro x0 (And.intro x1 (And.intro x2 (And.intro x3 hf3))))
    clear hr3 hs3 hu3 hf3 x0 x1 x2 x3 x5 hb3
    go_wp2_with fail
    refine bodyPost_end (results_none rfl _ _ _) rfl ?_
    obtain ⟨x0, x1, x2, x3, x6⟩ := HX.out
    have hk9 : Kb g w3 (w3.setCell ⟨g, 5, none⟩ (.slice B6 8 d6)) := (Kb.refl g w3).set 5 _
    refine ⟨⟨_, rfl⟩, ?_, (HK1.out.trans (Kb.of_below (HB2.out.trans (HB3.out.mono HB2.out.size)))).trans hk9⟩
    rw [HNX.out, HB9.out, if_pos rfl]
    refine ⟨B0, B1, B2, B3, B6, d0, d1, d2, d3, d6, ?_, x0.kb hk9, x1.kb hk9, x2.kb hk9, x3.kb hk9, ?_⟩
    · rw [heap_setCell_same _ _ 5 _ _ _ HR3.out]
      simp only [chC, HL6.out]
      rfl
    · simp only [HL6.out]
      exact x6.kb hk9
end Go.Proofs.YtdalcldilmmgmaaDoor
