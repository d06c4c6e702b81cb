/-
  Encode of headers, of the reference, for any header; Bytes of both.
-/
import Derived.Test.YtkjcafhaenkpbaaDoorRoe
import Derived.Test.YtkjcafhaenkpbaaDoorChr
import Derived.Test.YtkjcafhaenkpbaaDoorEnw
namespace Go.Proofs.YtkjcafhaenkpbaaDoor
set_option linter.unusedVariables false
set_option linter.unusedSimpArgs false
open Go.RowKit

theorem robj_any (f : Fl) (A1 : Option Addr) (c1 : Nat) (A2 : Option Addr) (c2 : Nat) (w : World) (hn1 : SL w w.heap.size (.slice A1 f.name.length c1) f.name) (hk1 : RL w w.heap.size (.slice A2 f.rules.length c2) f.rules) (h0 : chkF f = 0) :
    Calls Tryd.prog 35 #[.agg #[.int .i64 f.id, .int .i64 f.kind, .slice A1 f.name.length c1, .int .i64 f.short, .int .i64 f.size, .int .i64 f.len, .int .i64 f.recs, .int .i64 f.state, .slice A2 f.rules.length c2]] w fun e w' => ∃ A n c, e = .returned (.agg #[.int .i64 98, .slice none 0 0, .slice A n c]) ∧ TL w' w'.heap.size (.slice A n c) ((outP (pts f) 7).map gObj) ∧ Below w.heap.size w w' := by
  obtain ⟨-, -, hn, -, hsz, -, hr⟩ := chkF_facts f h0
  obtain ⟨s1, s2, s3, s4, -⟩ := sizE_facts f hsz
  have hnk : 0 < f.name.length → f.kind = 1 := by
    intro hp
    have hcf : chkF f = if f.kind < 1 ∨ 5 < f.kind then 1 else if f.id < 1 ∨ 65534 < f.id ∨ f.id = 16383 then 2 else if 16 < f.name.length then 3 else if 0 < f.name.length ∧ ¬ f.kind = 1 then 4
      else if f.short < 0 ∨ 30 < f.short then 2 else if ¬ f.short = 0 ∧ f.kind = 1 then 4 else if ¬ sizE f = 0 then sizE f else if f.state < 1 ∨ 3 < f.state then 2 else chkR f.rules := rfl
    rw [hcf] at h0
    by_cases hk : f.kind = 1
    · exact hk
    · exfalso
      split at h0
      · omega
      · split at h0
        · omega
        · split at h0
          · omega
          · rw [if_pos ⟨hp, hk⟩] at h0; omega
  have hsk : f.kind = 1 → f.short = 0 := by
    intro hk
    have hcf : chkF f = if f.kind < 1 ∨ 5 < f.kind then 1 else if f.id < 1 ∨ 65534 < f.id ∨ f.id = 16383 then 2 else if 16 < f.name.length then 3 else if 0 < f.name.length ∧ ¬ f.kind = 1 then 4
      else if f.short < 0 ∨ 30 < f.short then 2 else if ¬ f.short = 0 ∧ f.kind = 1 then 4 else if ¬ sizE f = 0 then sizE f else if f.state < 1 ∨ 3 < f.state then 2 else chkR f.rules := rfl
    rw [hcf] at h0
    by_cases hs : f.short = 0
    · exact hs
    · exfalso
      split at h0
      · omega
      · split at h0
        · omega
        · split at h0
          · omega
          · split at h0
            · omega
            · split at h0
              · omega
              · rw [if_pos ⟨hs, hk⟩] at h0; omega
  obtain ⟨I, K, S, L, R, ST, Z, e1, e2, e3, e4, e5, e6, e7, b1, b2, b3, b4, b5, b6, b7⟩ := chkF_nat f h0
  clear h0 hsz s1 s2 s3 s4
  obtain ⟨id, kind, short, size, len, recs, state, name, rules⟩ := f
  simp only at e1 e2 e3 e4 e5 e6 e7 hn1 hk1 hn hr hnk hsk ⊢
  subst e1 e2 e3 e4 e5 e6 e7
  have hP := pts_nat I K S L R ST Z name rules
  have fin : ∀ {e : Ending} {w' : World}, (∃ A n c, e = .returned (.agg #[.int .i64 98, .slice none 0 0, .slice A n c]) ∧ OH w' (w.heap.size + 1 + 1) (w.heap.size + 1) (.slice A n c) (outP (pts ⟨(I : Int), (K : Int), (S : Int), (Z : Int), (L : Int), (R : Int), (ST : Int), name, rules⟩) 7) ∧ Below w.heap.size w w') →
      ∃ A n c, e = .returned (.agg #[.int .i64 98, .slice none 0 0, .slice A n c]) ∧ TL w' w'.heap.size (.slice A n c) ((outP (pts ⟨(I : Int), (K : Int), (S : Int), (Z : Int), (L : Int), (R : Int), (ST : Int), name, rules⟩) 7).map gObj) ∧ Below w.heap.size w w' :=
    fun ⟨A, n, c, h1, h2, h3⟩ => ⟨A, n, c, h1, h2.tl, h3⟩
  have hk3 : K = 1 ∨ K = 2 ∨ (3 ≤ K ∧ K ≤ 5) := by omega
  rcases hk3 with rfl | rfl | hK
  · have hs0 : S = 0 := by have := hsk rfl; omega
    subst hs0
    exact (robj_dir I Z L R ST name rules A1 c1 A2 c2 w hn1 hk1 hr (by omega) (by omega) (by omega) (by omega) (by omega) _ hP).mono fun _ _ h => fin h
  · have hnm : name = [] := List.length_eq_zero_iff.1 (by
      rcases Nat.eq_zero_or_pos name.length with h | h
      · exact h
      · have := hnk h; omega)
    exact (robj_bin I S Z L R ST name rules A1 c1 A2 c2 w hn1 hk1 hr (by omega) (by omega) (by omega) (by omega) (by omega) (by omega) hnm _ hP).mono fun _ _ h => fin h
  · have hnm : name = [] := List.length_eq_zero_iff.1 (by
      rcases Nat.eq_zero_or_pos name.length with h | h
      · exact h
      · have := hnk h; omega)
    rw [if_neg (show ¬ (K : Int) = 2 by omega)] at hP
    exact (robj_rec I K S Z L R ST name rules A1 c1 A2 c2 w hn1 hk1 hr (by omega) hK (by omega) (by omega) (by omega) (by omega) (by omega) hnm _ hP).mono fun _ _ h => fin h

set_option maxRecDepth 100000 in
set_option maxHeartbeats 6400000 in
theorem rencf_any (f : Fl) (A1 : Option Addr) (c1 : Nat) (A2 : Option Addr) (c2 : Nat) (w : World) (hn1 : SL w w.heap.size (.slice A1 f.name.length c1) f.name) (hk1 : RL w w.heap.size (.slice A2 f.rules.length c2) f.rules) (hc : ∀ (k : Nat) (h : k < f.rules.length), f.rules[k].cond.cnt ≤ 2900000 ∧ f.rules[k].cond.dep ≤ 900) :
    Calls Tryd.prog 15 #[.agg #[.int .i64 f.id, .int .i64 f.kind, .slice A1 f.name.length c1, .int .i64 f.short, .int .i64 f.size, .int .i64 f.len, .int .i64 f.recs, .int .i64 f.state, .slice A2 f.rules.length c2]] w fun e w' => ∃ v', e = .returned (.tuple #[v', .int .i64 (encfE f)]) ∧ SL w' w'.heap.size v' (encfM f) ∧ Below w.heap.size w w' := by
  have hl1 : (f.name.length : Int) ≤ 9223372036854775807 := by obtain ⟨A, c, _, h1, h2, _⟩ := id hn1; unfold maxLen at h2; omega
  have hb := alloc_below w (Obj.cells #[.int .i64 f.id, .int .i64 f.kind, .slice A1 f.name.length c1, .int .i64 f.short, .int .i64 f.size, .int .i64 f.len, .int .i64 f.recs, .int .i64 f.state, .slice A2 f.rules.length c2] 25)
  have hnw := heap_alloc_new w (Obj.cells #[.int .i64 f.id, .int .i64 f.kind, .slice A1 f.name.length c1, .int .i64 f.short, .int .i64 f.size, .int .i64 f.len, .int .i64 f.recs, .int .i64 f.state, .slice A2 f.rules.length c2] 25)
  have hz := alloc_size w (Obj.cells #[.int .i64 f.id, .int .i64 f.kind, .slice A1 f.name.length c1, .int .i64 f.short, .int .i64 f.size, .int .i64 f.len, .int .i64 f.recs, .int .i64 f.state, .slice A2 f.rules.length c2] 25)
  have hp := rchf_any f A1 c1 A2 c2 _ hl1 (hk1.on hb) hc
  have HB := Lib.hid hb
  have HZ := Lib.hid hz
  have HNW := Lib.hid hnw
  by_cases h0 : chkF f = 0
  · have HE := Lib.hid (show encfE f = encE [T.mk 98 [] ((outP (pts f) 7).map gObj)] from if_pos h0)
    have HM := Lib.hid (show encfM f = encM [T.mk 98 [] ((outP (pts f) 7).map gObj)] from if_pos h0)
    have HO := Lib.hid fun (W : World) (hW : Below w.heap.size w W) => robj_any f A1 c1 A2 c2 W (hn1.on hW) (hk1.on hW) h0
    rw [h0] at hp
    have HP := Lib.hid hp
    rw [HE.out, HM.out]
    clear HE HM hp hb hnw hz hn1 hk1 hc hl1 h0
    generalize (outP (pts f) 7).map gObj = TS at *
    have HRT := Lib.hid fun (W : World) (v : Value) (hv : TL W W.heap.size v [T.mk 98 [] TS]) => rencode_any [T.mk 98 [] TS] v W hv
    go_enter Tryd.func15, Tryd.ntmps15
    go_wp2_with fail
    refine HP.out.mono ?_
    rintro e w1 ⟨rfl, hb1⟩
    have hk1 := (hb1.block w.heap.size (by rw [HZ.out]; omega)).trans HNW.out
    have HB1 := Lib.hid (HB.out.trans (hb1.mono HB.out.size))
    have f0 := cell_of_row _ _ 0 _ _ _ hk1
    have f1 := cell_of_row _ _ 1 _ _ _ hk1
    have f2 := cell_of_row _ _ 2 _ _ _ hk1
    have f3 := cell_of_row _ _ 3 _ _ _ hk1
    have f4 := cell_of_row _ _ 4 _ _ _ hk1
    have f5 := cell_of_row _ _ 5 _ _ _ hk1
    have f6 := cell_of_row _ _ 6 _ _ _ hk1
    have f7 := cell_of_row _ _ 7 _ _ _ hk1
    have f8 := cell_of_row _ _ 8 _ _ _ hk1
    clear hb1 hk1
    go_wp2_with fail
    refine (HO.out _ HB1.out).mono ?_
    rintro e w2 ⟨A, n, c, rfl, htl, hb2⟩
    have hone := TL.one w2 98 _ _ htl
    have hba := alloc_below w2 (Obj.cells #[.int .i64 98, .slice none 0 0, .slice A n c] 53)
    have HT := Lib.hid (HRT.out _ _ hone)
    have HB2 := Lib.hid (HB1.out.trans ((hb2.trans (hba.mono hb2.size)).mono HB1.out.size))
    clear hone hba htl hb2
    go_wp2_with fail
    refine HT.out.mono ?_
    rintro e w3 ⟨v3, rfl, hsl, hb3⟩
    obtain ⟨A9, c9, rfl, _⟩ := id hsl
    have HSL := Lib.hid hsl
    have HB3 := Lib.hid (HB2.out.trans (hb3.mono HB2.out.size))
    clear hsl hb3
    go_wp2_with fail
    go_ret2
    exact ⟨_, rfl, HSL.out, HB3.out⟩
  · have HE := Lib.hid (show encfE f = chkF f from if_neg h0)
    have HM := Lib.hid (show encfM f = [] from if_neg h0)
    have HP := Lib.hid hp
    rw [HE.out, HM.out]
    clear HE HM hp hb hnw hz hn1 hk1 hc hl1
    generalize chkF f = E at *
    have he1 : (E != 0) = true := by simpa using h0
    have he2 : (E == 0) = false := by simpa using h0
    have he3 : decide (E = 0) = false := decide_eq_false h0
    go_enter Tryd.func15, Tryd.ntmps15
    go_wp2_with fail
    refine HP.out.mono ?_
    rintro e w1 ⟨rfl, hb1⟩
    have HB1 := Lib.hid (HB.out.trans (hb1.mono HB.out.size))
    clear hb1
    go_wp2_with fail
    go_ret2
    exact ⟨_, rfl, SL.nil _ _ _ _ (Nat.zero_le _), HB1.out⟩
/-- What Bytes answers. -/
def bytF (f : Fl) : Int := if chkF f = 0 then f.size + f.len * f.recs else 0
set_option maxRecDepth 100000 in
set_option maxHeartbeats 6400000 in
theorem pbytf_any (f : Fl) (A1 : Option Addr) (c1 : Nat) (A2 : Option Addr) (c2 : Nat) (w : World) (hn1 : SL w w.heap.size (.slice A1 f.name.length c1) f.name) (hk1 : RL w w.heap.size (.slice A2 f.rules.length c2) f.rules) (hT : Tb w) (hc : ∀ (k : Nat) (h : k < f.rules.length), f.rules[k].cond.cnt ≤ 2900000 ∧ f.rules[k].cond.dep ≤ 900) :
    Calls Tryd.prog 17 #[.agg #[.int .i64 f.id, .int .i64 f.kind, .slice A1 f.name.length c1, .int .i64 f.short, .int .i64 f.size, .int .i64 f.len, .int .i64 f.recs, .int .i64 f.state, .slice A2 f.rules.length c2]] w fun e w' => e = .returned (.int .i64 (bytF f)) ∧ Below w.heap.size w w' := by
  have hl1 : (f.name.length : Int) ≤ 9223372036854775807 := by obtain ⟨A, c, _, h1, h2, _⟩ := id hn1; unfold maxLen at h2; omega
  have hb := alloc_below w (Obj.cells #[.int .i64 f.id, .int .i64 f.kind, .slice A1 f.name.length c1, .int .i64 f.short, .int .i64 f.size, .int .i64 f.len, .int .i64 f.recs, .int .i64 f.state, .slice A2 f.rules.length c2] 25)
  have hnw := heap_alloc_new w (Obj.cells #[.int .i64 f.id, .int .i64 f.kind, .slice A1 f.name.length c1, .int .i64 f.short, .int .i64 f.size, .int .i64 f.len, .int .i64 f.recs, .int .i64 f.state, .slice A2 f.rules.length c2] 25)
  have hz := alloc_size w (Obj.cells #[.int .i64 f.id, .int .i64 f.kind, .slice A1 f.name.length c1, .int .i64 f.short, .int .i64 f.size, .int .i64 f.len, .int .i64 f.recs, .int .i64 f.state, .slice A2 f.rules.length c2] 25)
  have hp := pchf_any f A1 c1 A2 c2 _ hl1 (hk1.on hb) (hT.on hb) hc
  have HB := Lib.hid hb
  have HZ := Lib.hid hz
  have HNW := Lib.hid hnw
  clear hn1 hk1 hc hl1 hT
  by_cases h0 : chkF f = 0
  · have HE := Lib.hid (show bytF f = f.size + f.len * f.recs from if_pos h0)
    obtain ⟨-, -, -, -, hsz, -, -⟩ := chkF_facts f h0
    obtain ⟨s1, s2, s3, s4, s5⟩ := sizE_facts f hsz
    have hnn : 0 ≤ f.len * f.recs ∧ 0 ≤ f.size ∧ f.size ≤ 1024 := by
      refine ⟨?_, ?_⟩
      · cases hr : recK f.kind
        · rw [(s4 hr).1]; simp
        · exact Int.mul_nonneg (by have := (s3 hr).1; omega) (by have := (s3 hr).2; omega)
      · by_cases hk : f.kind = 2
        · have := s1 hk; omega
        · have := s2 hk; omega
    have hwr : IntKind.i64.wrap (f.len * f.recs) = f.len * f.recs := IntWalk.i64_in _ (by omega)
    have hwr2 : IntKind.i64.wrap (f.size + f.len * f.recs) = f.size + f.len * f.recs := IntWalk.i64_in _ (by omega)
    have HK2 : Hid (f.kind = 2 → f.len * f.recs = 0) := fun hk => by
      have hr : recK f.kind = false := by unfold recK; rw [hk]; rfl
      rw [(s4 hr).1]; simp
    have HN2 : Hid (¬ f.kind = 2 → f.size = 0) := s2
    rw [h0] at hp
    have HP := Lib.hid hp
    obtain ⟨RES, hRES⟩ : ∃ z, z = bytF f := ⟨_, rfl⟩
    rw [← hRES] at HE ⊢
    clear hp hb hnw hz h0 hsz s1 s2 s3 s4 s5 hnn hRES
    generalize f.size = size at *
    generalize f.len = len at *
    generalize f.recs = recs at *
    generalize f.kind = kind at *
    generalize hml : len * recs = ML at *
    have HML := Lib.hid hml
    rw [← hml] at hwr hwr2 HE
    clear hml HML HK2 HN2
    go_enter Tryd.func17, Tryd.ntmps17
    go_wp2_with fail
    refine HP.out.mono ?_
    rintro e w1 ⟨rfl, hb1⟩
    have hk1 := (hb1.block w.heap.size (by rw [HZ.out]; omega)).trans HNW.out
    have HB1 := Lib.hid (HB.out.trans (hb1.mono HB.out.size))
    have f0 := cell_of_row _ _ 0 _ _ _ hk1
    have f1 := cell_of_row _ _ 1 _ _ _ hk1
    have f2 := cell_of_row _ _ 2 _ _ _ hk1
    have f3 := cell_of_row _ _ 3 _ _ _ hk1
    have f4 := cell_of_row _ _ 4 _ _ _ hk1
    have f5 := cell_of_row _ _ 5 _ _ _ hk1
    have f6 := cell_of_row _ _ 6 _ _ _ hk1
    have f7 := cell_of_row _ _ 7 _ _ _ hk1
    have f8 := cell_of_row _ _ 8 _ _ _ hk1
    clear hb1 hk1
    go_wp2_with fail
    first
      | (go_ret; exact ⟨ret_int HE.out.symm, HB1.out⟩)
      | (go_quiet (fail); go_wp2_with fail; go_ret; exact ⟨ret_int HE.out.symm, below_drewN HB1.out _⟩)
  · have HE := Lib.hid (show bytF f = 0 from if_neg h0)
    have HP := Lib.hid hp
    rw [HE.out]
    clear HE hp hb hnw hz
    generalize chkF f = E at *
    have he1 : (E != 0) = true := by simpa using h0
    have he2 : (E == 0) = false := by simpa using h0
    have he3 : decide (E = 0) = false := decide_eq_false h0
    go_enter Tryd.func17, Tryd.ntmps17
    go_wp2_with fail
    refine HP.out.mono ?_
    rintro e w1 ⟨rfl, hb1⟩
    have HB1 := Lib.hid (HB.out.trans (hb1.mono HB.out.size))
    clear hb1
    go_wp2_with fail
    go_ret
    exact ⟨rfl, HB1.out⟩
set_option maxRecDepth 100000 in
set_option maxHeartbeats 6400000 in
theorem rbytf_any (f : Fl) (A1 : Option Addr) (c1 : Nat) (A2 : Option Addr) (c2 : Nat) (w : World) (hn1 : SL w w.heap.size (.slice A1 f.name.length c1) f.name) (hk1 : RL w w.heap.size (.slice A2 f.rules.length c2) f.rules) (hc : ∀ (k : Nat) (h : k < f.rules.length), f.rules[k].cond.cnt ≤ 2900000 ∧ f.rules[k].cond.dep ≤ 900) :
    Calls Tryd.prog 18 #[.agg #[.int .i64 f.id, .int .i64 f.kind, .slice A1 f.name.length c1, .int .i64 f.short, .int .i64 f.size, .int .i64 f.len, .int .i64 f.recs, .int .i64 f.state, .slice A2 f.rules.length c2]] w fun e w' => e = .returned (.int .i64 (bytF f)) ∧ Below w.heap.size w w' := by
  have hl1 : (f.name.length : Int) ≤ 9223372036854775807 := by obtain ⟨A, c, _, h1, h2, _⟩ := id hn1; unfold maxLen at h2; omega
  have hb := alloc_below w (Obj.cells #[.int .i64 f.id, .int .i64 f.kind, .slice A1 f.name.length c1, .int .i64 f.short, .int .i64 f.size, .int .i64 f.len, .int .i64 f.recs, .int .i64 f.state, .slice A2 f.rules.length c2] 25)
  have hnw := heap_alloc_new w (Obj.cells #[.int .i64 f.id, .int .i64 f.kind, .slice A1 f.name.length c1, .int .i64 f.short, .int .i64 f.size, .int .i64 f.len, .int .i64 f.recs, .int .i64 f.state, .slice A2 f.rules.length c2] 25)
  have hz := alloc_size w (Obj.cells #[.int .i64 f.id, .int .i64 f.kind, .slice A1 f.name.length c1, .int .i64 f.short, .int .i64 f.size, .int .i64 f.len, .int .i64 f.recs, .int .i64 f.state, .slice A2 f.rules.length c2] 25)
  have hp := rchf_any f A1 c1 A2 c2 _ hl1 (hk1.on hb) hc
  have HB := Lib.hid hb
  have HZ := Lib.hid hz
  have HNW := Lib.hid hnw
  clear hn1 hk1 hc hl1
  by_cases h0 : chkF f = 0
  · have HE := Lib.hid (show bytF f = f.size + f.len * f.recs from if_pos h0)
    obtain ⟨-, -, -, -, hsz, -, -⟩ := chkF_facts f h0
    obtain ⟨s1, s2, s3, s4, s5⟩ := sizE_facts f hsz
    have hnn : 0 ≤ f.len * f.recs ∧ 0 ≤ f.size ∧ f.size ≤ 1024 := by
      refine ⟨?_, ?_⟩
      · cases hr : recK f.kind
        · rw [(s4 hr).1]; simp
        · exact Int.mul_nonneg (by have := (s3 hr).1; omega) (by have := (s3 hr).2; omega)
      · by_cases hk : f.kind = 2
        · have := s1 hk; omega
        · have := s2 hk; omega
    have hwr : IntKind.i64.wrap (f.len * f.recs) = f.len * f.recs := IntWalk.i64_in _ (by omega)
    have hwr2 : IntKind.i64.wrap (f.size + f.len * f.recs) = f.size + f.len * f.recs := IntWalk.i64_in _ (by omega)
    have HK2 : Hid (f.kind = 2 → f.len * f.recs = 0) := fun hk => by
      have hr : recK f.kind = false := by unfold recK; rw [hk]; rfl
      rw [(s4 hr).1]; simp
    have HN2 : Hid (¬ f.kind = 2 → f.size = 0) := s2
    rw [h0] at hp
    have HP := Lib.hid hp
    obtain ⟨RES, hRES⟩ : ∃ z, z = bytF f := ⟨_, rfl⟩
    rw [← hRES] at HE ⊢
    clear hp hb hnw hz h0 hsz s1 s2 s3 s4 s5 hnn hRES
    generalize f.size = size at *
    generalize f.len = len at *
    generalize f.recs = recs at *
    generalize f.kind = kind at *
    generalize hml : len * recs = ML at *
    have HML := Lib.hid hml
    by_cases hk : kind = 2
    · subst hk
      have HG : Hid (RES = size) := by show _ = _; rw [HE.out, HK2.out rfl]; omega
      clear HE HK2 HN2 hml HML
      go_enter Tryd.func18, Tryd.ntmps18
      go_wp2_with fail
      refine HP.out.mono ?_
      rintro e w1 ⟨rfl, hb1⟩
      have hk1 := (hb1.block w.heap.size (by rw [HZ.out]; omega)).trans HNW.out
      have HB1 := Lib.hid (HB.out.trans (hb1.mono HB.out.size))
      have f0 := cell_of_row _ _ 0 _ _ _ hk1
      have f1 := cell_of_row _ _ 1 _ _ _ hk1
      have f2 := cell_of_row _ _ 2 _ _ _ hk1
      have f3 := cell_of_row _ _ 3 _ _ _ hk1
      have f4 := cell_of_row _ _ 4 _ _ _ hk1
      have f5 := cell_of_row _ _ 5 _ _ _ hk1
      have f6 := cell_of_row _ _ 6 _ _ _ hk1
      have f7 := cell_of_row _ _ 7 _ _ _ hk1
      have f8 := cell_of_row _ _ 8 _ _ _ hk1
      clear hb1 hk1
      go_wp2_with fail
      first
        | (go_ret; exact ⟨ret_int HG.out.symm, HB1.out⟩)
        | (go_quiet (fail); go_wp2_with fail; go_ret; exact ⟨ret_int HG.out.symm, below_drewN HB1.out _⟩)
    · skip
      have HG : Hid (RES = len * recs) := by show _ = _; rw [HE.out, HN2.out hk, HML.out]; omega
      have hb1 : (kind == 2) = false := by simpa using hk
      have hb2 : (kind != 2) = true := by simpa using hk
      have hb3 : decide (kind = 2) = false := decide_eq_false hk
      rw [← hml] at hwr
      clear HE HK2 HN2 hml HML hwr2
      go_enter Tryd.func18, Tryd.ntmps18
      go_wp2_with fail
      refine HP.out.mono ?_
      rintro e w1 ⟨rfl, hb1⟩
      have hk1 := (hb1.block w.heap.size (by rw [HZ.out]; omega)).trans HNW.out
      have HB1 := Lib.hid (HB.out.trans (hb1.mono HB.out.size))
      have f0 := cell_of_row _ _ 0 _ _ _ hk1
      have f1 := cell_of_row _ _ 1 _ _ _ hk1
      have f2 := cell_of_row _ _ 2 _ _ _ hk1
      have f3 := cell_of_row _ _ 3 _ _ _ hk1
      have f4 := cell_of_row _ _ 4 _ _ _ hk1
      have f5 := cell_of_row _ _ 5 _ _ _ hk1
      have f6 := cell_of_row _ _ 6 _ _ _ hk1
      have f7 := cell_of_row _ _ 7 _ _ _ hk1
      have f8 := cell_of_row _ _ 8 _ _ _ hk1
      clear hb1 hk1
      go_wp2_with fail
      first
        | (go_ret; exact ⟨ret_int HG.out.symm, HB1.out⟩)
        | (go_quiet (fail); go_wp2_with fail; go_ret; exact ⟨ret_int HG.out.symm, below_drewN HB1.out _⟩)
  · have HE := Lib.hid (show bytF f = 0 from if_neg h0)
    have HP := Lib.hid hp
    rw [HE.out]
    clear HE hp hb hnw hz
    generalize chkF f = E at *
    have he1 : (E != 0) = true := by simpa using h0
    have he2 : (E == 0) = false := by simpa using h0
    have he3 : decide (E = 0) = false := decide_eq_false h0
    go_enter Tryd.func18, Tryd.ntmps18
    go_wp2_with fail
    refine HP.out.mono ?_
    rintro e w1 ⟨rfl, hb1⟩
    have HB1 := Lib.hid (HB.out.trans (hb1.mono HB.out.size))
    clear hb1
    go_wp2_with fail
    go_ret
    exact ⟨rfl, HB1.out⟩
end Go.Proofs.YtkjcafhaenkpbaaDoor
