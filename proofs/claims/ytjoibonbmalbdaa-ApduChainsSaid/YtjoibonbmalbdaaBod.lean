/-
  The walk of readBody.
-/
import Derived.Test.YtjoibonbmalbdaaEnc
import Derived.Deep.RegionWith
namespace Go.Proofs.Ytjoibonbmalbdaa
set_option linter.unusedVariables false
set_option linter.unusedSimpArgs false
open Go.RowKit

/-- What readBody answers: data, Le, error. -/
def bodyL (W : Nat) (l : List UInt8) : List UInt8 × Int × Int :=
  if l.length = 0 then ([], 0, 0) else if l.length < W then ([], 0, 5) else if l.length = W then ([], leN l, 0)
  else if numL (l.take W) = 0 then ([], 0, 4) else if (l.drop W).length < numL (l.take W) then ([], 0, 5)
  else if (l.drop W).length = numL (l.take W) then (l.drop W, 0, 0)
  else if (l.drop W).length = numL (l.take W) + W then ((l.drop W).take (numL (l.take W)), leN ((l.drop W).drop (numL (l.take W))), 0)
  else ([], 0, 4)
def BodR (W : Nat) (l : List UInt8) (w : World) (e : Ending) (w' : World) : Prop :=
  ∃ v', e = .returned (.tuple #[v', .int .i64 (bodyL W l).2.1, .int .i64 (bodyL W l).2.2]) ∧ OB w' w.heap.size v' (bodyL W l).1 ∧ Below w.heap.size w w'
theorem BodR.of {W : Nat} {l m : List UInt8} {w w' : World} {v' : Value} {a b : Int} (h : bodyL W l = (m, a, b)) (hv : OB w' w.heap.size v' m) (hb : Below w.heap.size w w') : BodR W l w (.returned (.tuple #[v', .int .i64 a, .int .i64 b])) w' := by
  refine ⟨v', ?_, ?_, hb⟩
  · rw [h]
  · rw [h]; exact hv
theorem pclone (l : List UInt8) (v : Value) (w : World) (hl : SL w w.heap.size v l) (hs : l.length ≤ 100000000) :
    Calls Try.prog 51 #[v] w fun e w' => ∃ v', e = .returned v' ∧ OB w' w.heap.size v' l ∧ Below w.heap.size w w' :=
  clone_own l v w hl hs
theorem SL.cut {w : World} {B b o c n : Nat} {l : List UInt8} (h : SL w B (.slice (some ⟨b, o, none⟩) l.length c) l) (hn : n < l.length) : SL w B (.slice (some ⟨b, o + n, none⟩) (l.length - n) (c - n)) (l.drop n) := by
  obtain ⟨A, c', e, h1, h2, h3⟩ := h
  simp only [Value.slice.injEq, true_and] at e
  obtain ⟨rfl, rfl⟩ := e
  exact ⟨some ⟨b, o + n, none⟩, c - n, by rw [List.length_drop], by rw [List.length_drop]; omega, by omega, SL.drop h3 n hn⟩

set_option maxRecDepth 100000 in
set_option maxHeartbeats 1600000 in
theorem pbody_any (l : List UInt8) (v : Value) (long : Bool) (w : World) (h : SL w w.heap.size v l) (hl : l.length ≤ 80000) :
    Calls Try.prog 46 #[v, .bool long] w (BodR (widN long) l w) := by
  have HW := pwid_any long w
  have hW1 : 1 ≤ widN long := by cases long <;> decide
  have hW2 : widN long ≤ 2 := by cases long <;> decide
  generalize widN long = W at HW hW1 hW2 ⊢
  have HW := Lib.hid HW
  have HS := Lib.hid h
  obtain ⟨A, c, rfl, k1, k2, k3⟩ := h
  unfold maxLen at k2
  by_cases z0 : l.length = 0
  · have HV : Hid (bodyL W l = ([], 0, 0)) := by show _ = _; rw [bodyL, if_pos z0]
    have b0 : ((l.length : Int) == 0) = true := by rw [beq_iff_eq]; omega
    clear k3 z0
    go_enter Try.func46, Try.ntmps46
    go_wp2_with fail
    refine HW.out.mono ?_
    rintro e w1 ⟨rfl, rfl⟩
    go_wp2_with fail
    go_ret3
    exact BodR.of HV.out (OB.nil _ _) (Below.refl _ _)
  have b0 : ((l.length : Int) == 0) = false := by rw [beq_eq_false_iff_ne]; omega
  by_cases z1 : l.length < W
  · have HV : Hid (bodyL W l = ([], 0, 5)) := by show _ = _; rw [bodyL, if_neg z0, if_pos z1]
    clear k3 z0
    go_enter Try.func46, Try.ntmps46
    go_wp2_with fail
    refine HW.out.mono ?_
    rintro e w1 ⟨rfl, rfl⟩
    go_wp2_with fail
    go_ret3
    exact BodR.of HV.out (OB.nil _ _) (Below.refl _ _)
  by_cases z2 : l.length = W
  · have HV : Hid (bodyL W l = ([], leN l, 0)) := by show _ = _; rw [bodyL, if_neg z0, if_neg z1, if_pos z2]
    have HL := Lib.hid (prdle_any l _ w w.heap.size HS.out (by omega) (by omega))
    have b1 : ((l.length : Int) == (W : Int)) = true := by rw [beq_iff_eq]; omega
    have z1' : ¬ (l.length : Int) < (W : Int) := by omega
    clear k3 z0 z2 z1
    go_enter Try.func46, Try.ntmps46
    go_wp2_with fail
    refine HW.out.mono ?_
    rintro e w1 ⟨rfl, rfl⟩
    go_wp2_with fail
    refine HL.out.mono ?_
    rintro e w1 ⟨rfl, rfl⟩
    go_wp2_with fail
    go_ret3
    exact BodR.of HV.out (OB.nil _ _) (Below.refl _ _)
  have b1 : ((l.length : Int) == (W : Int)) = false := by rw [beq_eq_false_iff_ne]; omega
  have hWl : W < l.length := by omega
  have hWc : W < c := by omega
  obtain ⟨b, o, rfl, _, _⟩ := k3 (by omega)
  have htl : (l.take W).length ≤ 2 := by rw [List.length_take]; omega
  obtain ⟨g1, g2, g3⟩ := getN_small (l.take W) htl
  have HG := pget_any (l.take W) _ w w.heap.size (HS.out.take (m := W) (by omega))
  rw [g1, g2] at HG
  have hdl : (l.drop W).length = l.length - W := List.length_drop ..
  have hdrop := HS.out.cut (n := W) hWl
  have HV : bodyL W l = if numL (l.take W) = 0 then ([], 0, 4) else if (l.drop W).length < numL (l.take W) then ([], 0, 5)
    else if (l.drop W).length = numL (l.take W) then (l.drop W, 0, 0)
    else if (l.drop W).length = numL (l.take W) + W then ((l.drop W).take (numL (l.take W)), leN ((l.drop W).drop (numL (l.take W))), 0)
    else ([], 0, 4) := by rw [bodyL, if_neg z0, if_neg z1, if_neg z2]
  rw [hdl] at HV
  generalize numL (l.take W) = n at *
  generalize l.drop W = r at *
  have HDL := Lib.hid hdl
  have HR := Lib.hid hdrop
  have HG := Lib.hid HG
  have z1' : ¬ (l.length : Int) < (W : Int) := by omega
  have hrl : r.length ≤ 80000 := by omega
  have HRL := Lib.hid hrl
  clear k3 z0 z1 z2 hdl hdrop g1 g2 hrl
  by_cases y0 : n = 0
  · have HV : Hid (bodyL W l = ([], 0, 4)) := by show _ = _; rw [HV, if_pos y0]
    have c0 : ((n : Int) == 0) = true := by rw [beq_iff_eq]; omega
    clear y0
    go_enter Try.func46, Try.ntmps46
    go_wp2_with fail
    refine HW.out.mono ?_
    rintro e w1 ⟨rfl, rfl⟩
    go_wp2_with fail
    refine HG.out.mono ?_
    rintro e w1 ⟨rfl, rfl⟩
    go_wp2_with fail
    go_ret3
    exact BodR.of HV.out (OB.nil _ _) (Below.refl _ _)
  have c0 : ((n : Int) == 0) = false := by rw [beq_eq_false_iff_ne]; omega
  rw [if_neg y0] at HV
  by_cases y1 : l.length - W < n
  · have HV : Hid (bodyL W l = ([], 0, 5)) := by show _ = _; rw [HV, if_pos y1]
    clear y0
    go_enter Try.func46, Try.ntmps46
    go_wp2_with fail
    refine HW.out.mono ?_
    rintro e w1 ⟨rfl, rfl⟩
    go_wp2_with fail
    refine HG.out.mono ?_
    rintro e w1 ⟨rfl, rfl⟩
    go_wp2_with fail
    go_ret3
    exact BodR.of HV.out (OB.nil _ _) (Below.refl _ _)
  rw [if_neg y1] at HV
  have y1' : decide (l.length - W < n) = false := by simpa using y1
  by_cases y2 : l.length - W = n
  · have HV : Hid (bodyL W l = (r, 0, 0)) := by show _ = _; rw [HV, if_pos y2]
    have HCL := Lib.hid (pclone r _ w HR.out (by have := HRL.out; omega))
    have c1 : ((((l.length - W : Nat)) : Int) == (n : Int)) = true := by rw [beq_iff_eq]; omega
    clear y0 y1 y2
    go_enter Try.func46, Try.ntmps46
    go_wp2_with fail
    refine HW.out.mono ?_
    rintro e w1 ⟨rfl, rfl⟩
    go_wp2_with fail
    refine HG.out.mono ?_
    rintro e w1 ⟨rfl, rfl⟩
    go_wp2_with fail
    refine HCL.out.mono ?_
    rintro e w2 ⟨v2, rfl, hv2, hb2⟩
    go_wp2_with fail
    go_ret3
    exact BodR.of HV.out hv2 hb2
  rw [if_neg y2] at HV
  have c1 : ((((l.length - W : Nat)) : Int) == (n : Int)) = false := by rw [beq_eq_false_iff_ne]; omega
  by_cases y3 : l.length - W = n + W
  · have HV : Hid (bodyL W l = (r.take n, leN (r.drop n), 0)) := by show _ = _; rw [HV, if_pos y3]
    have c2 : ((((l.length - W : Nat)) : Int) == (n : Int) + (W : Int)) = true := by rw [beq_iff_eq]; omega
    have hrn : r.length = n + W := by have := HDL.out; omega
    have hsl : SL w w.heap.size (.slice (some ⟨b, o + W, none⟩) r.length (c - W)) r := by rw [HDL.out]; exact HR.out
    have HT := Lib.hid (hsl.take (m := n) (by omega))
    have hct := hsl.cut (n := n) (by omega)
    rw [hrn, Nat.add_sub_cancel_left] at hct
    have HCT := Lib.hid hct
    have hdn : (r.drop n).length = W := by rw [List.length_drop]; omega
    have HDN := Lib.hid hdn
    have HTN : Hid ((r.take n).length ≤ 100000000) := by show _ ≤ _; rw [List.length_take]; have := HRL.out; omega
    have i0 : (0 : Int) ≤ (n : Int) := by omega
    have i1 : (n : Int) ≤ ((l.length - W : Nat) : Int) := by omega
    have i2 : (n : Int) ≤ ((c - W : Nat) : Int) := by omega
    have i3 : n ≤ l.length - W := by omega
    have i4 : n ≤ c - W := by omega
    have i5 : l.length - W - n = W := by omega
    have i6 : ¬ c - W = n := by omega
    have I5 := Lib.hid i5
    clear y0 y1 y2 y3 hrn hsl hct hdn i5
    go_enter Try.func46, Try.ntmps46
    go_wp2_with fail
    refine HW.out.mono ?_
    rintro e w1 ⟨rfl, rfl⟩
    go_wp2_with fail
    refine HG.out.mono ?_
    rintro e w1 ⟨rfl, rfl⟩
    go_wp2_with fail
    go_region_with (first
      | (go_at_call 51; refine (pclone (r.take n) _ _ (HT.out.on (Below.refl _ _).drew) HTN.out).mono ?_; rintro e w2 ⟨v2, rfl, hv2, hb2⟩)
      | (go_at_call 60; rw [I5.out]; refine (prdle_any (r.drop n) _ _ _ (HCT.out.on ((Below.refl _ _).drew.trans hb2)) (by rw [HDN.out]; omega) (by rw [HDN.out]; omega)).mono ?_; rintro e w3 ⟨rfl, rfl⟩))
    all_goals
      go_wp2_with fail
      go_ret3
      exact BodR.of HV.out hv2 ((Below.refl _ _).drew.trans hb2)
  rw [if_neg y3] at HV
  have HV := Lib.hid HV
  have c2 : ((((l.length - W : Nat)) : Int) == (n : Int) + (W : Int)) = false := by rw [beq_eq_false_iff_ne]; omega
  clear y0 y1 y2 y3
  go_enter Try.func46, Try.ntmps46
  go_wp2_with fail
  refine HW.out.mono ?_
  rintro e w1 ⟨rfl, rfl⟩
  go_wp2_with fail
  refine HG.out.mono ?_
  rintro e w1 ⟨rfl, rfl⟩
  go_wp2_with fail
  go_ret3
  exact BodR.of HV.out (OB.nil _ _) (Below.refl _ _)

theorem OB.rd {w : World} {base : Nat} {v : Value} {l : List UInt8} (h : OB w base v l) : ∃ A c, v = .slice A l.length c ∧ l.length ≤ c ∧ c ≤ maxLen ∧ (0 < l.length → ∃ b o, A = some ⟨b, o, none⟩ ∧ base ≤ b ∧ b < w.heap.size ∧ ∀ k, k < l.length → w.cell? ⟨b, o + k, none⟩ = some (.int .u8 ((l.getD k 0).toNat : Int))) := by
  obtain ⟨A, c, rfl, h1, h2, h3⟩ := h.sl
  refine ⟨A, c, rfl, h1, h2, fun hp => ?_⟩
  obtain ⟨b, o, rfl, hb, hc⟩ := h3 hp
  exact ⟨b, o, rfl, (h.lt b rfl).1, hb, hc⟩
end Go.Proofs.Ytjoibonbmalbdaa
