/-
  Few rules with small conditions: the walks of small and few of layer 15's laws.
-/
import Derived.Test.YtkjcafhaenkpbaaDoorSmu
namespace Go.Proofs.YtkjcafhaenkpbaaDoor
set_option linter.unusedVariables false
set_option linter.unusedSimpArgs false
open Go.RowKit

mutual
def Cn.smal : Cn → Nat → Bool
  | .mk _ _ ks, l => decide (0 < l) && (decide (ks.length ≤ 20) && smalK ks (l - 1))
def smalK : List Cn → Nat → Bool
  | [], _ => true
  | t :: ts, l => t.smal l && smalK ts l
end
theorem smal_parts (c : Cn) (l : Nat) : c.smal l = (decide (0 < l) && (decide (c.kids.length ≤ 20) && smalK c.kids (l - 1))) := by cases c; rw [Cn.smal]; rfl
theorem smalK_drop (ts : List Cn) (l k : Nat) (h : k < ts.length) : smalK (ts.drop k) l = ((ts[k]).smal l && smalK (ts.drop (k + 1)) l) := by rw [List.drop_eq_getElem_cons h, smalK]
mutual
theorem Cn.smal_dep : ∀ (c : Cn) (l : Nat), c.smal l = true → c.dep ≤ l
  | .mk op n ks, l, h => by
    rw [Cn.smal, Bool.and_eq_true, Bool.and_eq_true, decide_eq_true_eq, decide_eq_true_eq] at h
    have := smalK_dep ks (l - 1) h.2.2
    rw [Cn.dep]
    omega
theorem smalK_dep : ∀ (ts : List Cn) (l : Nat), smalK ts l = true → depK ts ≤ l
  | [], l, h => by rw [depK]; omega
  | t :: ts, l, h => by
    rw [smalK, Bool.and_eq_true] at h
    have h1 := Cn.smal_dep t l h.1
    have h2 := smalK_dep ts l h.2
    rw [depK]
    omega
end

def SmaC (c : Cn) : Prop := ∀ (v : Value) (l : Nat) (w : World), l ≤ 12 → KL w w.heap.size v c.kids →
  Calls Tryd.prog 26 #[.agg #[.int .i64 c.op, .int .i64 c.n, v], .int .i64 (l : Int)] w fun e w' => e = .returned (.bool (c.smal l)) ∧ Below w.heap.size w w'
set_option maxRecDepth 100000 in
set_option maxHeartbeats 6400000 in
theorem sma_step (c : Cn) (ih : ∀ c' : Cn, c'.dep < c.dep → SmaC c') : SmaC c := by
  intro v l w hl hk
  have hkd := dep_kids c
  have HP := Lib.hid (smal_parts c l)
  have IH := Lib.hid ih
  clear ih
  generalize c.smal l = R at *
  generalize c.dep = DD at *
  generalize c.kids = ts at *
  generalize c.op = op at *
  generalize c.n = n at *
  obtain ⟨A, cap, rfl, h1, h2, h3⟩ := hk
  unfold maxLen at h2
  have HN0 := Lib.hid (heap_alloc_new w (bx op n A ts.length cap))
  have HS0 := Lib.hid (alloc_size w (bx op n A ts.length cap))
  have HB0 := Lib.hid (alloc_below w (bx op n A ts.length cap))
  go_enter Tryd.func26, Tryd.ntmps26
  by_cases hl0 : 0 < l
  · by_cases hlen : ts.length ≤ 20
    · have HR : Hid (R = smalK ts (l - 1)) := by show _ = _; rw [HP.out, decide_eq_true hl0, decide_eq_true hlen]; rfl
      clear HP
      have y1 : ((l : Int) == 0) = false := beq_eq_false_iff_ne.2 (by omega)
      have y2 : ¬ (20 : Int) < (ts.length : Int) := by omega
      have y3 : decide ((20 : Int) < (ts.length : Int)) = false := decide_eq_false y2
      have y4 : IntKind.i64.wrap ((l : Int) - 1) = (l : Int) - 1 := IntWalk.i64_in _ (by omega)
      go_wp2_with fail
      go_loopw [5] (fun i wr => ∃ (k : Nat), k ≤ ts.length ∧ i = .int .i64 k ∧ Hid (R = smalK (ts.drop k) (l - 1)) ∧ Hid (Below (w.heap.size + 1) (w.alloc (bx op n A ts.length cap)) wr)) (fun i _ => ts.length - (intOf i).toNat)
      case atStart => exact ⟨0, Nat.zero_le _, rfl, by show _ = _; rw [List.drop_zero]; exact HR.out, Below.refl _ _⟩
      case round =>
        obtain ⟨k, hkl, rfl, HS, HB⟩ := hrel
        have hn1 := (HB.out.block w.heap.size (by omega)).trans HN0.out
        have q2 := cell_of_row _ _ 2 _ _ _ hn1
        have HBW := Lib.hid (HB0.out.trans (HB.out.mono (by omega)))
        clear hn1
        by_cases hlt : k < ts.length
        · obtain ⟨b1, o1, rfl, hb1, hts⟩ := h3.out (by omega)
          have hta := CnsAt.get hts hlt
          have hdp := depK_get ts k hlt
          have hdr := smalK_drop ts (l - 1) k hlt
          obtain ⟨t, ht⟩ : ∃ t, t = ts[k] := ⟨_, rfl⟩
          rw [← ht] at hta hdp hdr
          have hta' := CnAt.keep HBW.out.size (fun p hp => HBW.out.cell hp) t b1 _ hb1 hta
          obtain ⟨A2, c2, g1, g2, g3, hu⟩ := hta'.cells
          have hV := IH.out t (by omega) (.slice A2 t.kids.length c2) (l - 1) wr (by omega) hu
          rw [show ((l - 1 : Nat) : Int) = (l : Int) - 1 by omega] at hV
          have HV := Lib.hid hV
          have HDR := Lib.hid hdr
          clear hta hta' hts ht hu hdr hV
          generalize t.smal (l - 1) = X at *
          have i1 : (k : Int) < (ts.length : Int) := by omega
          go_wp2_with fail
          refine HV.out.mono ?_
          rintro e w2 ⟨rfl, hb2⟩
          have HB2 := Lib.hid (HB.out.trans (hb2.mono (show w.heap.size + 1 ≤ wr.heap.size by have := HB.out.size; rw [HS0.out] at this; exact this)))
          clear hb2
          cases X with
          | false =>
            go_wp2_with fail
            go_ret
            exact ⟨ret_bool (by rw [HS.out, HDR.out]; rfl), HB0.out.trans (HB2.out.mono (by omega))⟩
          | true =>
            go_wp2_with fail
            go_roundw
            case rel => exact ⟨k + 1, by omega, by go_num, by show _ = _; rw [HS.out, HDR.out, Bool.true_and], HB2⟩
            case measure => simp [intOf]; omega
        · have HR2 : Hid (R = true) := by
            show _ = _
            rw [HS.out, show k = ts.length by omega, List.drop_length, smalK]
          go_wp2_with fail
          go_ret
          exact ⟨ret_bool HR2.out.symm, HBW.out⟩
    · have HR : Hid (R = false) := by show _ = _; rw [HP.out, decide_eq_false hlen]; simp
      have y1 : ((l : Int) == 0) = false := beq_eq_false_iff_ne.2 (by omega)
      have y2 : (20 : Int) < (ts.length : Int) := by omega
      have y3 : decide ((20 : Int) < (ts.length : Int)) = true := decide_eq_true y2
      go_wp2_with fail
      go_ret
      exact ⟨ret_bool HR.out.symm, HB0.out⟩
  · have HR : Hid (R = false) := by show _ = _; rw [HP.out, decide_eq_false hl0]; simp
    have y0 : l = 0 := by omega
    subst y0
    go_wp2_with fail
    go_ret
    exact ⟨ret_bool HR.out.symm, HB0.out⟩
theorem sma_any : ∀ (n : Nat) (c : Cn), c.dep < n → SmaC c
  | 0, c, h => absurd h (by omega)
  | n + 1, c, h => sma_step c fun c' h' => sma_any n c' (by omega)
end Go.Proofs.YtkjcafhaenkpbaaDoor
