/-
  The walks of few (of layer 15's laws), and of Same of headers, of the program and of the reference.
-/
import Derived.Test.YtkjcafhaenkpbaaDoorSmw
namespace Go.Proofs.YtkjcafhaenkpbaaDoor
set_option linter.unusedVariables false
set_option linter.unusedSimpArgs false
open Go.RowKit

def smalR (rs : List Rl) : Bool := rs.all fun r => r.cond.smal 12
def fewF (f : Fl) : Bool := decide (f.rules.length ≤ 20) && (decide (f.name.length ≤ 60) && smalR f.rules)
theorem smalR_drop (rs : List Rl) (k : Nat) (h : k < rs.length) : smalR (rs.drop k) = (rs[k].cond.smal 12 && smalR (rs.drop (k + 1))) := by
  rw [List.drop_eq_getElem_cons h]; rfl
theorem fewF_dep {f : Fl} (h : fewF f = true) : ∀ (k : Nat) (hk : k < f.rules.length), f.rules[k].cond.dep ≤ 900 := by
  intro k hk
  unfold fewF smalR at h
  rw [Bool.and_eq_true, Bool.and_eq_true] at h
  have := List.all_eq_true.1 h.2.2 f.rules[k] (List.getElem_mem hk)
  have := Cn.smal_dep _ _ this
  omega

/-- The box of a header that came in. -/
def flB (f : Fl) (A1 : Option Addr) (c1 : Nat) (A2 : Option Addr) (c2 : Nat) : Obj := .cells #[.int .i64 f.id, .int .i64 f.kind, .slice A1 f.name.length c1, .int .i64 f.short, .int .i64 f.size, .int .i64 f.len, .int .i64 f.recs, .int .i64 f.state, .slice A2 f.rules.length c2] 25 (0, 0)
def flV (f : Fl) (A1 : Option Addr) (c1 : Nat) (A2 : Option Addr) (c2 : Nat) : Value := .agg #[.int .i64 f.id, .int .i64 f.kind, .slice A1 f.name.length c1, .int .i64 f.short, .int .i64 f.size, .int .i64 f.len, .int .i64 f.recs, .int .i64 f.state, .slice A2 f.rules.length c2]

set_option maxRecDepth 100000 in
set_option maxHeartbeats 6400000 in
theorem pfewf_any (f : Fl) (A1 : Option Addr) (c1 : Nat) (A2 : Option Addr) (c2 : Nat) (w : World) (hn1 : (f.name.length : Int) ≤ 9223372036854775807) (hk : RL w w.heap.size (.slice A2 f.rules.length c2) f.rules) :
    Calls Tryd.prog 10 #[flV f A1 c1 A2 c2] w fun e w' => e = .returned (.bool (fewF f)) ∧ Below w.heap.size w w' := by
  have HF : Hid (fewF f = (decide (f.rules.length ≤ 20) && (decide (f.name.length ≤ 60) && smalR f.rules))) := rfl
  obtain ⟨A, cap, hv, h1, h2, h3⟩ := hk
  obtain ⟨rfl, _, rfl⟩ := Value.slice.inj hv
  unfold maxLen at h2
  clear hv
  have HN0 := Lib.hid (heap_alloc_new w (flB f A1 c1 A2 c2))
  have HS0 := Lib.hid (alloc_size w (flB f A1 c1 A2 c2))
  have HB0 := Lib.hid (alloc_below w (flB f A1 c1 A2 c2))
  generalize fewF f = R at *
  unfold flB at HN0 HS0 HB0
  unfold flV
  generalize f.rules = rs at *
  generalize f.name.length = n1 at *
  generalize f.id = id at *
  generalize f.kind = kind at *
  generalize f.short = short at *
  generalize f.size = size at *
  generalize f.len = len at *
  generalize f.recs = recs at *
  generalize f.state = state at *
  go_enter Tryd.func10, Tryd.ntmps10
  by_cases hr : rs.length ≤ 20
  · by_cases hn : n1 ≤ 60
    · have HR : Hid (R = smalR rs) := by show _ = _; rw [HF.out, decide_eq_true hr, decide_eq_true hn]; rfl
      clear HF
      have y1 : ¬ (20 : Int) < (rs.length : Int) := by omega
      have y2 : ¬ (60 : Int) < (n1 : Int) := by omega
      have y3 : decide ((20 : Int) < (rs.length : Int)) = false := decide_eq_false y1
      have y4 : decide ((60 : Int) < (n1 : Int)) = false := decide_eq_false y2
      go_wp2_with fail
      clear y1 y2 y3 y4
      go_loopw [3] (fun i wr => ∃ (k : Nat), k ≤ rs.length ∧ i = .int .i64 k ∧ Hid (R = smalR (rs.drop k)) ∧ Hid (Below (w.heap.size + 1) (w.alloc (Obj.cells #[.int .i64 id, .int .i64 kind, .slice A1 n1 c1, .int .i64 short, .int .i64 size, .int .i64 len, .int .i64 recs, .int .i64 state, .slice A2 rs.length c2] 25)) wr)) (fun i _ => rs.length - (intOf i).toNat)
      case atStart => exact ⟨0, Nat.zero_le _, rfl, by show _ = _; rw [List.drop_zero]; exact HR.out, Below.refl _ _⟩
      case round =>
        obtain ⟨k, hkl, rfl, HS, HB⟩ := hrel
        have hn1' := (HB.out.block w.heap.size (by omega)).trans HN0.out
        have q8 := cell_of_row _ _ 8 _ _ _ hn1'
        have HBW := Lib.hid (HB0.out.trans (HB.out.mono (by omega)))
        clear hn1'
        by_cases hlt : k < rs.length
        · obtain ⟨b1, o1, rfl, hb1, hts⟩ := h3.out (by omega)
          have hra := (hts k hlt).keep hb1 HBW.out.size (fun p hp => HBW.out.cell hp)
          have hdr := smalR_drop rs k hlt
          obtain ⟨r, hr'⟩ : ∃ r, r = rs[k] := ⟨_, rfl⟩
          rw [← hr'] at hra hdr
          clear hts hr'
          obtain ⟨ops, c⟩ := r
          obtain ⟨g0, hca⟩ := hra
          obtain ⟨A3, c3, g1, g2, g3, hu⟩ := hca.cells
          simp only at g0 g1 g2 g3 hu hdr
          have hV := sma_any _ c (Nat.lt_succ_self _) (.slice A3 c.kids.length c3) 12 wr (by omega) hu
          have HV := Lib.hid hV
          have HDR := Lib.hid hdr
          clear hca hu hdr hV
          generalize c.smal 12 = X at *
          have i1 : (k : Int) < (rs.length : Int) := by omega
          go_wp2_with fail
          refine HV.out.mono ?_
          rintro e w2 ⟨rfl, hb2⟩
          have HB2 := Lib.hid (HB.out.trans (hb2.mono (show w.heap.size + 1 ≤ wr.heap.size by have := HB.out.size; rw [HS0.out] at this; exact this)))
          clear hb2
          cases X with
          | false =>
            go_wp2_with fail
            go_ret
            exact ⟨ret_bool (by rw [HS.out, HDR.out]; rfl), HB0.out.trans (HB2.out.mono (by omega))⟩
          | true =>
            go_wp2_with fail
            go_roundw
            case rel => exact ⟨k + 1, by omega, by go_num, by show _ = _; rw [HS.out, HDR.out, Bool.true_and], HB2⟩
            case measure => simp [intOf]; omega
        · have HR2 : Hid (R = true) := by
            show _ = _
            rw [HS.out, show k = rs.length by omega, List.drop_length]
            rfl
          go_wp2_with fail
          go_ret
          exact ⟨ret_bool HR2.out.symm, HBW.out⟩
    · have HR : Hid (R = false) := by show _ = _; rw [HF.out, decide_eq_false hn]; simp
      have y1 : ¬ (20 : Int) < (rs.length : Int) := by omega
      have y2 : (60 : Int) < (n1 : Int) := by omega
      have y3 : decide ((20 : Int) < (rs.length : Int)) = false := decide_eq_false y1
      have y4 : decide ((60 : Int) < (n1 : Int)) = true := decide_eq_true y2
      go_wp2_with fail
      go_ret
      exact ⟨ret_bool HR.out.symm, HB0.out⟩
  · have HR : Hid (R = false) := by show _ = _; rw [HF.out, decide_eq_false hr]; simp
    have y1 : (20 : Int) < (rs.length : Int) := by omega
    have y3 : decide ((20 : Int) < (rs.length : Int)) = true := decide_eq_true y1
    go_wp2_with fail
    go_ret
    exact ⟨ret_bool HR.out.symm, HB0.out⟩
end Go.Proofs.YtkjcafhaenkpbaaDoor
