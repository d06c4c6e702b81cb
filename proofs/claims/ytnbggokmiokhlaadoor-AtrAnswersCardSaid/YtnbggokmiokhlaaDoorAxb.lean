/-
  parseChoice: the walk.
-/
import Derived.Test.YtnbggokmiokhlaaDoorAxa
import Derived.Deep.RegionHeld3
import Derived.RegionTactic
import Derived.StillTailTactics
namespace Go.Proofs.YtnbggokmiokhlaaDoor
set_option linter.unusedVariables false
set_option linter.unusedSimpArgs false
open Go.RowKit

/-- A further byte as a slice: nil if it is absent. -/
def FurAt (w : World) (v : Value) (l : List UInt8) : Prop := SL w w.heap.size v l ∧ (l = [] → v = .slice none 0 0)
def PpsR (b : List UInt8) (w : World) (e : Ending) (w' : World) : Prop :=
  ∃ v0 v1 v2, e = .returned (.tuple #[.agg #[.int .i64 (ppsP b), v0, v1, v2], .int .i64 (ppsE b)]) ∧ FurAt w' v0 (ppsF b 0) ∧ FurAt w' v1 (ppsF b 1) ∧ FurAt w' v2 (ppsF b 2) ∧ Below w.heap.size w w'
theorem FurAt.none (w : World) : FurAt w (.slice none 0 0) [] := ⟨SL.nil _ _ _ _ (Nat.zero_le _), fun _ => rfl⟩
theorem pps_bad {b : List UInt8} {w w' : World} (E : Int) (hE : ppsE b = E) (h0 : E ≠ 0) {e : Ending} (he : e = .returned (.tuple #[.agg #[.int .i64 0, .slice none 0 0, .slice none 0 0, .slice none 0 0], .int .i64 E])) (hB : Below w.heap.size w w') : PpsR b w e w' := by
  subst he
  have e1 : ppsP b = 0 := by unfold ppsP; rw [if_neg (by omega)]
  have e2 : ∀ i, ppsF b i = [] := fun i => by unfold ppsF; rw [if_neg (by omega)]
  exact ⟨_, _, _, by rw [e1, hE], by rw [e2]; exact FurAt.none _, by rw [e2]; exact FurAt.none _, by rw [e2]; exact FurAt.none _, hB⟩

theorem ann_bits (y : UInt8) (k : Nat) (hk : k < 3) (z : Int) (hz : z = ((bitK (k : Int)).toNat : Int)) : ∃ Z : Int, bits BinOp.and .u8 (y.toNat : Int) z = Z ∧ (Z != 0) = annB y k := by
  refine ⟨((y &&& bitK (k : Int)).toNat : Int), by rw [hz]; exact bits_and y _, ?_⟩
  unfold annB
  by_cases h : y &&& bitK (k : Int) = 0
  · rw [h]; rfl
  · have e1 : (y &&& bitK (k : Int) != 0) = true := by rw [bne_iff_ne]; exact h
    rw [e1, bne_iff_ne]
    intro e
    exact h (UInt8.toNat.inj (by have h0 : (y &&& bitK (k : Int)).toNat = 0 := by omega
                                 exact h0))
theorem annN_mono (y : UInt8) : ∀ k j, k ≤ j → annN y k ≤ annN y j := by
  intro k j h
  induction j with
  | zero => obtain rfl : k = 0 := by omega
            exact Nat.le_refl _
  | succ j ih =>
    rcases Nat.lt_or_ge k (j + 1) with h' | h'
    · exact Nat.le_trans (ih (by omega)) (by simp [annN])
    · obtain rfl : k = j + 1 := by omega
      exact Nat.le_refl _
theorem annN_s (y : UInt8) (k : Nat) : annN y (k + 1) = annN y k + if annB y k = true then 1 else 0 := rfl
def furK (C : List UInt8) (y : UInt8) (k i : Nat) : List UInt8 := if i < k ∧ annB y i = true then [C.getD (2 + annN y i) 0] else []
/-- The box of the choice behind k rounds. -/
def ChoAt (w2 : World) (P : Int) (C : List UInt8) (y : UInt8) (k : Nat) (arr : Array Value) : Prop :=
  arr.size = 4 ∧ arr[0]? = some (.int .i64 P) ∧ ∀ i, i < 3 → ∃ f, arr[1 + i]? = some f ∧ SL w2 w2.heap.size f (furK C y k i) ∧ (furK C y k i = [] → f = .slice none 0 0)
theorem ChoAt.start (w2 : World) (P : Int) (C : List UInt8) (y : UInt8) : ChoAt w2 P C y 0 #[.int .i64 P, .slice none 0 0, .slice none 0 0, .slice none 0 0] := by
  refine ⟨rfl, rfl, fun i hi => ⟨.slice none 0 0, ?_, ?_, fun _ => rfl⟩⟩
  · have h3 : i = 0 ∨ i = 1 ∨ i = 2 := by omega
    rcases h3 with rfl | rfl | rfl <;> rfl
  · have : furK C y 0 i = [] := by unfold furK; rw [if_neg (by omega)]
    rw [this]; exact SL.nil _ _ _ _ (Nat.zero_le _)
theorem furK_same {C : List UInt8} {y : UInt8} {k i : Nat} (h : i ≠ k ∨ annB y k = false) : furK C y (k + 1) i = furK C y k i := by
  unfold furK
  by_cases e : i = k
  · subst e
    rcases h with h | h
    · exact absurd rfl h
    · rw [if_neg (by simp [h]), if_neg (by omega)]
  · by_cases e2 : i < k
    · by_cases e3 : annB y i = true
      · rw [if_pos ⟨by omega, e3⟩, if_pos ⟨e2, e3⟩]
      · rw [if_neg (by simp [e3]), if_neg (by simp [e3])]
    · rw [if_neg (by omega), if_neg (by omega)]
theorem ChoAt.skip {w2 : World} {P : Int} {C : List UInt8} {y : UInt8} {k : Nat} {arr : Array Value} (h : ChoAt w2 P C y k arr) (hn : annB y k = false) : ChoAt w2 P C y (k + 1) arr :=
  ⟨h.1, h.2.1, fun i hi => by rw [furK_same (.inr hn)]; exact h.2.2 i hi⟩
theorem ChoAt.put {w2 : World} {P : Int} {C : List UInt8} {y : UInt8} {k : Nat} {arr : Array Value} (h : ChoAt w2 P C y k arr) (hk : k < 3) (hn : annB y k = true) (f : Value) (hf : SL w2 w2.heap.size f [C.getD (2 + annN y k) 0]) : ChoAt w2 P C y (k + 1) (arr.setIfInBounds (1 + k) f) := by
  obtain ⟨h1, h2, h3⟩ := h
  refine ⟨by simp [h1], by rw [Array.getElem?_setIfInBounds_ne (by omega)]; exact h2, fun i hi => ?_⟩
  by_cases e : i = k
  · subst e
    have e2 : furK C y (i + 1) i = [C.getD (2 + annN y i) 0] := by unfold furK; rw [if_pos ⟨by omega, hn⟩]
    refine ⟨f, by rw [Array.getElem?_setIfInBounds_self_of_lt (by omega)], by rw [e2]; exact hf, fun h => by rw [e2] at h; cases h⟩
  · rw [furK_same (.inl e)]
    obtain ⟨g, g1, g2, g3⟩ := h3 i hi
    exact ⟨g, by rw [Array.getElem?_setIfInBounds_ne (by omega)]; exact g1, g2, g3⟩
theorem ChoAt.form {w2 : World} {P : Int} {C : List UInt8} {y : UInt8} {arr : Array Value} (h : ChoAt w2 P C y 3 arr) : ∃ f0 f1 f2, arr = #[.int .i64 P, f0, f1, f2] ∧ (SL w2 w2.heap.size f0 (furK C y 3 0) ∧ (furK C y 3 0 = [] → f0 = .slice none 0 0)) ∧ (SL w2 w2.heap.size f1 (furK C y 3 1) ∧ (furK C y 3 1 = [] → f1 = .slice none 0 0)) ∧ (SL w2 w2.heap.size f2 (furK C y 3 2) ∧ (furK C y 3 2 = [] → f2 = .slice none 0 0)) := by
  obtain ⟨h1, h2, h3⟩ := h
  obtain ⟨f0, a0, b0⟩ := h3 0 (by omega)
  obtain ⟨f1, a1, b1⟩ := h3 1 (by omega)
  obtain ⟨f2, a2, b2⟩ := h3 2 (by omega)
  refine ⟨f0, f1, f2, ?_, b0, b1, b2⟩
  obtain ⟨L⟩ := arr
  match L, h1 with
  | [x0, x1, x2, x3], _ =>
    simp at h2 a0 a1 a2
    subst h2 a0 a1 a2
    rfl
theorem furK_ppsF {l C : List UInt8} {y : UInt8} {n : Nat} (hE : ppsE l = 0) (hy : l.getD 1 0 = y) (hn : annN y 3 = n) (hC : ∀ i, i < n + 2 → C.getD i 0 = l.getD i 0) (i : Nat) (hi : i < 3) : furK C y 3 i = ppsF l i := by
  unfold furK ppsF
  rw [hE, hy]
  by_cases ha : annB y i = true
  · have h1 := annN_mono y (i + 1) 3 (by omega)
    rw [annN_s, if_pos ha, hn] at h1
    rw [if_pos ⟨hi, ha⟩, if_pos ⟨rfl, ha⟩, hC _ (by omega)]
  · rw [if_neg (by simp [ha]), if_neg (by simp [ha])]
theorem SL.set4 {w : World} {B : Nat} {v : Value} {l : List UInt8} (h : SL w B v l) {g : Nat} {ty : TypeId} {a0 a1 a2 a3 : Value} (hr : w.heap[g]? = some (.cells #[a0, a1, a2, a3] ty (0, 0)))
    (hn : ∀ z, a0 ≠ .int .u8 z ∧ a1 ≠ .int .u8 z ∧ a2 ≠ .int .u8 z ∧ a3 ≠ .int .u8 z) (x0 x1 x2 x3 : Value) :
    SL ((((w.setCell ⟨g, 0, none⟩ x0).setCell ⟨g, 1, none⟩ x1).setCell ⟨g, 2, none⟩ x2).setCell ⟨g, 3, none⟩ x3) B v l := by
  obtain ⟨A, c, rfl, h1, h2, h3⟩ := h
  refine ⟨A, c, rfl, h1, h2, fun hp => ?_⟩
  obtain ⟨b, o, rfl, hb, hc⟩ := h3 hp
  have hne : b ≠ g := by
    intro e
    subst e
    have e0 := hc 0 hp
    rw [cell_of_row w b _ _ _ _ hr] at e0
    have hz := hn ((l.getD 0 0).toNat : Int)
    match o, e0 with
    | 0, e0 => simp at e0; exact hz.1 e0
    | 1, e0 => simp at e0; exact hz.2.1 e0
    | 2, e0 => simp at e0; exact hz.2.2.1 e0
    | 3, e0 => simp at e0; exact hz.2.2.2 e0
    | o + 4, e0 => simp at e0
  refine ⟨b, o, rfl, hb, fun k hk => ?_⟩
  rw [far_set _ _ hne, far_set _ _ hne, far_set _ _ hne, far_set _ _ hne]
  exact hc k hk
theorem results_cellT {P : Program} {fn : Func} {p u : Tmp} {ty : TypeId} (h : fn.results = #[.cell p ty, .tmp u]) (tmps : Array Value) (w : World) (g : Nat) (t : TypeId) (cs : Array Value) (fr : Nat × Nat) (d : TypeDesc)
    (hp : tmps.getD p undef = .pointer (some ⟨g, 0, none⟩)) (hg : w.heap[g]? = some (.cells cs t fr)) (hu : P.underlying ty = some d)
    (hd : (match d with | .struct _ | .array _ _ => true | _ => false) = true) (hi : (P.info? ty).map (·.size) = some cs.size) :
    (results fn tmps).run P w = .ok (.tuple #[.agg cs, tmps.getD u undef]) w := by
  have hp' : tmps[p]?.getD undef = .pointer (some ⟨g, 0, none⟩) := by rw [← hp]; simp [Array.getD_eq_getD_getElem?]
  simp [results, h, hp', asAddr, run_loadVar_row w g t ty cs fr d hg hu hd hi]
theorem rem_take {l : List UInt8} (h : remE 0 l = 0) : remV 0 l = l.take (l.length - 1) ∧ 1 ≤ l.length := by
  unfold remE at h
  unfold remV
  have e : sizeK 0 = 1 := rfl
  rw [e] at h ⊢
  rw [if_neg (by omega)] at h
  rw [if_neg (by omega)]
  by_cases h1 : l.length < 1
  · rw [if_pos h1] at h; omega
  · rw [if_neg h1] at h
    rw [if_neg h1]
    by_cases h2 : remOk 0 l = true
    · rw [if_pos h2]; exact ⟨rfl, by omega⟩
    · rw [if_neg h2] at h; omega
theorem remE_cases {l : List UInt8} (h : 1 ≤ l.length) : remE 0 l = 0 ∨ remE 0 l = 6 := by
  unfold remE
  have e : sizeK 0 = 1 := rfl
  rw [e, if_neg (by omega), if_neg (by omega)]
  split
  · exact .inl rfl
  · exact .inr rfl
theorem take_gD (l : List UInt8) (n i : Nat) (h : i < n) : (l.take n).getD i 0 = l.getD i 0 := by
  simp [List.getD, List.getElem?_take, h]

set_option maxRecDepth 100000 in
set_option maxHeartbeats 3200000 in
theorem ppar_any (l : List UInt8) (v : Value) (w : World) (h : SL w w.heap.size v l) (hT : Tb w) (hl : l.length ≤ 1000) : Calls Tryd.prog 62 #[v] w (PpsR l w) := by
  have HREM := Lib.hid (fun (W : World) (hW : Below w.heap.size w W) => prem_any 0 l v W (h.on hW) (hT.on hW) hl)
  have HSZ := Lib.hid (fun (W : World) => psize_any 0 W)
  have HON := Lib.hid (fun (W : World) => ones_any (l.getD 1 0) W)
  have HE : Hid (ppsE l = if l.length < 2 ∨ l.getD 0 0 ≠ 255 ∨ 128 ≤ (l.getD 1 0).toNat then 4 else if l.length ≠ 3 + annN (l.getD 1 0) 3 then 4 else remE 0 l) := rfl
  unfold RemR at HREM
  obtain ⟨A, c, rfl, k1, k2, k3⟩ := h
  unfold maxLen at k2
  have K3 := Lib.hid k3
  clear k3 hT
  by_cases c1 : l.length < 2
  case pos =>
    have HB := Lib.hid (fun (w' : World) (e : Ending) => pps_bad (b := l) (w := w) (w' := w') (e := e) 4 (by rw [HE.out, if_pos (.inl c1)]) (by decide))
    have c1' : (l.length : Int) < 2 := by omega
    try clear hZ8
    go_enter Tryd.func62, Tryd.ntmps62
    go_wp2_with fail
    exact bodyPost_ret (results_cellT rfl _ _ w.heap.size 71 _ (0, 0) _ rfl (heap_alloc_new w _) Tryd.underlying71 rfl (by kernel_rfl)) rfl (HB.out _ _ rfl (alloc_below _ _))
  have c1' : ¬ (l.length : Int) < 2 := by omega
  obtain ⟨b, o, rfl, hb, hc⟩ := K3.out (by omega)
  have g0 := hc 0 (by omega)
  have g1 := hc 1 (by omega)
  simp only [Nat.add_zero] at g0
  have hal := Lib.hid (alloc_below w (.cells #[.int .i64 0, .slice none 0 0, .slice none 0 0, .slice none 0 0] 71))
  have hrow := Lib.hid (heap_alloc_new w (.cells #[.int .i64 0, .slice none 0 0, .slice none 0 0, .slice none 0 0] 71))
  have g0x := (hal.out.cell (p := ⟨b, o, none⟩) hb).trans g0
  have g1x := (hal.out.cell (p := ⟨b, o + 1, none⟩) hb).trans g1
  have i2 : (1 : Int) < (l.length : Int) := by omega
  have i3 : (0 : Int) < (l.length : Int) := by omega
  have HC := Lib.hid hc
  clear hc
  generalize hx0 : l.getD 0 0 = x0 at *
  generalize hy : l.getD 1 0 = y at *
  have HX0 := Lib.hid hx0
  have HY := Lib.hid hy
  clear hx0 hy
  obtain ⟨Z8, hZ8⟩ : ∃ Z : Int, Z = ((y &&& 128).toNat : Int) := ⟨_, rfl⟩
  have hbit : bits BinOp.and .u8 (y.toNat : Int) 128 = Z8 := by rw [hZ8]; exact bits_and y 128
  by_cases c2 : x0 = 255
  case neg =>
    have HZ8 := Lib.hid hZ8
    have HB := Lib.hid (fun (w' : World) (e : Ending) => pps_bad (b := l) (w := w) (w' := w') (e := e) 4 (by rw [HE.out, if_pos (.inr (.inl c2))]) (by decide))
    have c2b : ((x0.toNat : Int) != 255) = true := by
      rw [bne_iff_ne]
      intro e
      exact c2 (UInt8.toNat.inj (by have : x0.toNat = 255 := by omega
                                    exact this))
    try clear hZ8
    go_enter Tryd.func62, Tryd.ntmps62
    go_wp2_with fail
    exact bodyPost_ret (results_cellT rfl _ _ w.heap.size 71 _ (0, 0) _ rfl (heap_alloc_new w _) Tryd.underlying71 rfl (by kernel_rfl)) rfl (HB.out _ _ rfl (alloc_below _ _))
  subst c2
  have c2b : (((255 : UInt8).toNat : Int) != 255) = false := rfl
  by_cases c3 : 128 ≤ y.toNat
  case pos =>
    have HZ8 := Lib.hid hZ8
    have HB := Lib.hid (fun (w' : World) (e : Ending) => pps_bad (b := l) (w := w) (w' := w') (e := e) 4 (by rw [HE.out, if_pos (.inr (.inr c3))]) (by decide))
    have c3b : (Z8 != 0) = true := by
      rw [hZ8]
      have := top_nat y
      rw [decide_eq_true c3, bne_iff_ne] at this
      rw [bne_iff_ne]
      intro e
      exact this (UInt8.toNat.inj (by have h0 : (y &&& 128).toNat = 0 := by omega
                                      exact h0))
    try clear hZ8
    go_enter Tryd.func62, Tryd.ntmps62
    go_wp2_with fail
    exact bodyPost_ret (results_cellT rfl _ _ w.heap.size 71 _ (0, 0) _ rfl (heap_alloc_new w _) Tryd.underlying71 rfl (by kernel_rfl)) rfl (HB.out _ _ rfl (alloc_below _ _))
  have c3b : (Z8 != 0) = false := by
    rw [hZ8]
    have := top_nat y
    rw [decide_eq_false c3, bne_eq_false_iff_eq] at this
    rw [this]; rfl
  have HZ8 := Lib.hid hZ8
  clear hZ8
  obtain ⟨Zk, hZk⟩ : ∃ Z : Int, Z = ((y &&& 112).toNat : Int) := ⟨_, rfl⟩
  have hk : bits BinOp.and .u8 (y.toNat : Int) 112 = Zk := by rw [hZk]; exact bits_and y 112
  have hon := HON.out
  rw [← hZk] at hon
  have HON := Lib.hid hon
  clear hon hZk
  have hn3 := annN_le y 3
  have HE2 : Hid (ppsE l = if l.length ≠ 3 + annN y 3 then 4 else remE 0 l) := by show _ = _; rw [HE.out, if_neg (by simp; omega)]
  have HSZ1 : Hid (∀ W, Calls Tryd.prog 70 #[.int .i64 0] W fun e w' => e = .returned (.int .i64 1) ∧ W = w') := fun W => HSZ.out W
  generalize hnn : annN y 3 = n at *
  have HN := Lib.hid hnn
  clear hnn HSZ
  by_cases c4 : l.length = 3 + n
  case neg =>
    have HB := Lib.hid (fun (w' : World) (e : Ending) => pps_bad (b := l) (w := w) (w' := w') (e := e) 4 (by rw [HE2.out, if_pos c4]) (by decide))
    have c4b : ((l.length : Int) != 2 + (n : Int) + 1) = true := by rw [bne_iff_ne]; omega
    go_enter Tryd.func62, Tryd.ntmps62
    go_wp2_with fail
    refine (HON.out _).mono ?_
    rintro e w1 ⟨rfl, rfl⟩
    go_wp2_with fail
    refine (HSZ1.out _).mono ?_
    rintro e w1 ⟨rfl, rfl⟩
    go_wp2_with fail
    exact bodyPost_ret (results_cellT rfl _ _ w.heap.size 71 _ (0, 0) _ rfl (heap_alloc_new w _) Tryd.underlying71 rfl (by kernel_rfl)) rfl (HB.out _ _ rfl (alloc_below _ _))
  have c4b : ((l.length : Int) != 2 + (n : Int) + 1) = false := by rw [bne_eq_false_iff_eq]; omega
  have HE3 : Hid (ppsE l = remE 0 l) := by show _ = _; rw [HE2.out, if_neg (by omega)]
  have hrc := remE_cases (l := l) (by omega)
  have HC4 := Lib.hid c4
  clear c4
  rcases hrc with hr | hr
  case inr =>
    have HB := Lib.hid (fun (w' : World) (e : Ending) => pps_bad (b := l) (w := w) (w' := w') (e := e) 6 (by rw [HE3.out, hr]) (by decide))
    rw [hr] at HREM
    clear hr
    go_enter Tryd.func62, Tryd.ntmps62
    go_wp2_with fail
    refine (HON.out _).mono ?_
    rintro e w1 ⟨rfl, rfl⟩
    go_wp2_with fail
    refine (HSZ1.out _).mono ?_
    rintro e w1 ⟨rfl, rfl⟩
    go_wp2_with fail
    refine (HREM.out _ hal.out).mono ?_
    rintro e w2 ⟨v2, rfl, hv2, hb2⟩
    have HB2 := Lib.hid (hal.out.trans (hb2.mono hal.out.size))
    have HR2 := Lib.hid ((hb2.block _ (row_lt hrow.out)).trans hrow.out)
    obtain ⟨r0, r1, r2, r3⟩ := cellsA HR2.out
    have z0 := frozen_of_row _ _ 0 _ _ HR2.out
    have z1 := frozen_of_row _ _ 1 _ _ HR2.out
    have z2 := frozen_of_row _ _ 2 _ _ HR2.out
    have z3 := frozen_of_row _ _ 3 _ _ HR2.out
    clear hb2
    go_wp2_with fail
    exact bodyPost_ret (results_cellT rfl _ _ w.heap.size 71 _ (0, 0) _ rfl (row4_set w2 w.heap.size 71 _ _ _ _ (.int .i64 0) (.slice none 0 0) (.slice none 0 0) (.slice none 0 0) HR2.out) Tryd.underlying71 rfl (by kernel_rfl)) rfl (HB.out _ _ rfl ((((HB2.out.setCell (p := ⟨w.heap.size, 0, none⟩) (Nat.le_refl _) _).setCell (p := ⟨w.heap.size, 1, none⟩) (Nat.le_refl _) _).setCell (p := ⟨w.heap.size, 2, none⟩) (Nat.le_refl _) _).setCell (p := ⟨w.heap.size, 3, none⟩) (Nat.le_refl _) _))
  obtain ⟨hr1, hr2⟩ := rem_take hr
  rw [hr] at HREM
  have HRS := Lib.hid hr
  have CL : (remV 0 l).length = n + 2 := by rw [hr1, List.length_take]; have := HC4.out; omega
  have CG : ∀ i, i < n + 2 → (remV 0 l).getD i 0 = l.getD i 0 := fun i hi => by rw [hr1]; exact take_gD l _ i (by have := HC4.out; omega)
  have CG := Lib.hid CG
  have HCL := Lib.hid CL
  clear hr hr1 hr2
  generalize remV 0 l = C at *
  have C1 : C.getD 1 0 = y := by rw [CG.out 1 (by omega)]; exact HY.out
  have HC1 := Lib.hid C1
  clear C1 CL
  obtain ⟨P, hP⟩ : ∃ P : Int, P = ((y &&& 15).toNat : Int) := ⟨_, rfl⟩
  have hlow : bits BinOp.and .u8 (y.toNat : Int) 15 = P := by rw [hP]; exact bits_and y 15
  have hPP : Hid (ppsP l = P ∧ 0 ≤ P ∧ P ≤ 15) := by
    have := low_nat y
    refine ⟨?_, by omega, by omega⟩
    unfold ppsP
    rw [HE3.out, HRS.out, if_pos rfl, HY.out, hP]
    exact this.symm
  clear hP
  have p1 := hPP.out.2.1
  have p2 := hPP.out.2.2
  go_enter Tryd.func62, Tryd.ntmps62
  go_wp2_with fail
  refine (HON.out _).mono ?_
  rintro e w1 ⟨rfl, rfl⟩
  go_wp2_with fail
  refine (HSZ1.out _).mono ?_
  rintro e w1 ⟨rfl, rfl⟩
  go_wp2_with fail
  refine (HREM.out _ hal.out).mono ?_
  rintro e w2 ⟨v2, rfl, hv2, hb2⟩
  have HB2 := Lib.hid (hal.out.trans (hb2.mono hal.out.size))
  have HR2 := Lib.hid ((hb2.block _ (row_lt hrow.out)).trans hrow.out)
  have HV2 := Lib.hid hv2
  have hz2 : w.heap.size < w2.heap.size := Nat.lt_of_lt_of_le (row_lt hrow.out) hb2.size
  obtain ⟨A2, cc, e2, m1, m2, m3⟩ := hv2
  subst e2
  obtain ⟨b2, o2, rfl, hb2', hc2⟩ := m3 (by have := HCL.out; omega)
  have q1 := hc2 1 (by have := HCL.out; omega)
  rw [HC1.out] at q1
  have j1 : (1 : Int) < (C.length : Int) := by have := HCL.out; omega
  have j2 : (2 : Int) ≤ (C.length : Int) := by have := HCL.out; omega
  have M2 := Lib.hid hc2
  clear hb2 hc2 m3
  unfold maxLen at m2
  by_cases hcc : cc = 2
  · subst hcc
    have HL0 : Hid (SL w2 w2.heap.size (.slice (some ⟨b2, o2, none⟩) 0 0) (C.drop (2 + annN y 0))) := by
      have e2 : C.drop (2 + annN y 0) = [] := List.drop_of_length_le (by simp [annN]; omega)
      show SL _ _ _ _
      rw [e2]
      exact SL.nil _ _ _ _ (by unfold maxLen; omega)
    go_wp2_with fail
    have HX3 := Lib.hid (heap_alloc_new w2 (.cells #[.int .i64 P, .slice none 0 0, .slice none 0 0, .slice none 0 0] 71))
    have HB3 := Lib.hid (alloc_below w2 (.cells #[.int .i64 P, .slice none 0 0, .slice none 0 0, .slice none 0 0] 71))
    generalize w2.alloc (.cells #[.int .i64 P, .slice none 0 0, .slice none 0 0, .slice none 0 0] 71) = W3 at *
    go_loopw [7, 55] (fun s7 i wr => ∃ k : Nat, k ≤ 3 ∧ i = .int .i64 k ∧ Hid (SL w2 w2.heap.size s7 (C.drop (2 + annN y k))) ∧ Hid (Below w2.heap.size w2 wr) ∧ ∃ arr : Array Value, Hid (wr.heap[w2.heap.size]? = some (.cells arr 71 (0, 0))) ∧ Hid (ChoAt w2 P C y k arr)) (fun _ i _ => 3 - (intOf i).toNat)
    case atStart => exact ⟨0, by omega, rfl, HL0, HB3, _, HX3, ChoAt.start ..⟩
    case round =>
      clear HL0 HB3 HX3
      obtain ⟨k, hk, rfl, HS7, HB, arr, HR, HCH⟩ := hrel
      have q1' := (HB.out.cell (p := ⟨b2, o2 + 1, none⟩) hb2').trans q1
      by_cases hk3 : k < 3
      · obtain ⟨Z, hz, hzb⟩ := ann_bits y k hk3 (IntKind.u8.wrap (16 * 2 ^ k)) (by
          have h3 : k = 0 ∨ k = 1 ∨ k = 2 := by omega
          rcases h3 with rfl | rfl | rfl <;> decide)
        have hz2 : bits BinOp.and .u8 (y.toNat : Int) (16 * 2 ^ k % 256) = Z := by rw [← IntKind.wrap_u8']; exact hz
        have hk3' : (k : Int) < 3 := by omega
        cases ha : annB y k with
        | false =>
          rw [ha] at hzb
          have HNS : Hid (annN y (k + 1) = annN y k) := by show _ = _; rw [annN_s, ha]; rfl
          have HA := Lib.hid ha
          clear ha
          go_wp2_with fail
          go_quiet (fail)
          go_wp2_with fail
          go_roundw
          case rel => exact ⟨k + 1, by omega, by go_num, by show SL _ _ _ _; rw [HNS.out]; exact HS7.out, below_drewN HB.out _, arr, HR, HCH.out.skip HA.out⟩
          case measure => simp [intOf]; omega
        | true =>
          rw [ha] at hzb
          have hmn := annN_mono y (k + 1) 3 (by omega)
          rw [annN_s, if_pos ha, HN.out] at hmn
          have HNS : Hid (annN y (k + 1) = annN y k + 1) := by show _ = _; rw [annN_s, if_pos ha]
          have HA := Lib.hid ha
          have hdl : (C.drop (2 + annN y k)).length = n - annN y k := by rw [List.length_drop, HCL.out]; omega
          have HD0 : Hid ((C.drop (2 + annN y k)).getD 0 0 = C.getD (2 + annN y k) 0) := by show _ = _; simp [List.getD, List.getElem?_drop]
          have HDS : Hid (C.drop (2 + annN y (k + 1)) = (C.drop (2 + annN y k)).drop 1) := by show _ = _; rw [HNS.out, List.drop_drop]; congr 1
          clear ha
          obtain ⟨A7, c7, e7, t1, t2, t3⟩ := HS7.out
          have HS7' := HS7.out
          subst e7
          obtain ⟨b7, o7, rfl, hb7, hc7⟩ := t3 (by omega)
          have hd1 : 1 ≤ (C.drop (2 + annN y k)).length := by omega
          have HF : Hid (SL w2 w2.heap.size (.slice (some ⟨b7, o7, none⟩) 1 c7) [C.getD (2 + annN y k) 0]) := by
            show SL _ _ _ _
            rw [← HD0.out]
            have := HS7'.take (m := 1) hd1
            have e : (C.drop (2 + annN y k)).take 1 = [(C.drop (2 + annN y k)).getD 0 0] := by
              generalize C.drop (2 + annN y k) = D at *
              cases D with
              | nil => simp at hd1
              | cons x xs => simp
            rw [e] at this
            exact this
          have HNX : Hid (∀ s', s' = (if c7 = 1 then Value.slice (some ⟨b7, o7, none⟩) ((C.drop (2 + annN y k)).length - 1) (c7 - 1) else .slice (some ⟨b7, o7 + 1, none⟩) ((C.drop (2 + annN y k)).length - 1) (c7 - 1)) → SL w2 w2.heap.size s' (C.drop (2 + annN y (k + 1)))) := by
            intro s' hs'
            rw [HDS.out, hs']
            by_cases h2 : 1 < (C.drop (2 + annN y k)).length
            · rw [if_neg (by omega)]
              exact SL.cut (n := 1) HS7' h2
            · have e1 : (C.drop (2 + annN y k)).length - 1 = 0 := by omega
              have e2 : (C.drop (2 + annN y k)).drop 1 = [] := List.drop_of_length_le (by omega)
              rw [e1, e2]
              split
              · exact SL.nil _ _ _ _ (by unfold maxLen at t2 ⊢; omega)
              · exact SL.nil _ _ _ _ (by unfold maxLen at t2 ⊢; omega)
          clear t3 hc7 HS7 HS7' HDS HD0
          have HSZ3 : Hid (arr.size = 4) := HCH.out.1
          obtain ⟨fv, fv1, fv2, fv3⟩ := HCH.out.2.2 k hk3
          have HR' : wr.heap[w2.heap.size]? = some (.cells arr 71 (0, 0)) := HR.out
          have x1 := (cell_of_row _ _ (1 + k) _ _ _ HR').trans fv1
          have x2 := frozen_of_row _ _ (1 + k) _ _ HR'
          have HR := Lib.hid HR'
          clear fv2 fv3 HR' fv1
          generalize (C.drop (2 + annN y k)).length = dl at *
          have d1 : (1 : Int) ≤ (dl : Int) := by omega
          have d2 : (1 : Int) ≤ (c7 : Int) := by omega
          unfold maxLen at t2
          have HDL := Lib.hid hdl
          clear hdl
          by_cases hc1 : c7 = 1
          · subst hc1
            go_wp2_with fail
            go_quiet (fail)
            go_wp2_with fail
            have HBq := Lib.hid (below_drewN HB.out nq)
            have HRq : Hid ((wr.drewN nq).heap[w2.heap.size]? = some (.cells arr 71 (0, 0))) := HR.out
            have x1q : (wr.drewN nq).cell? ⟨w2.heap.size, 1 + k, none⟩ = some fv := x1
            have x2q : (wr.drewN nq).frozen? ⟨w2.heap.size, 1 + k, none⟩ = false := x2
            clear x1 x2 q1'
            generalize wr.drewN nq = wq at *
            go_region_law (fail)
            all_goals
              go_wp2_with fail
              go_roundw
              case rel => exact ⟨k + 1, by omega, by go_num, HNX.out _ (by simp [show dl - 1 = 0 by omega]), (HBq.out.setCell (p := ⟨w2.heap.size, 1 + k, none⟩) (Nat.le_refl _) _).drew, _, heap_setCell_same _ _ _ _ _ _ HRq.out, HCH.out.put hk3 HA.out _ HF.out⟩
              case measure => simp [intOf]; omega
          · have hc1b : ¬ 1 = c7 := fun e => hc1 e.symm
            go_wp2_with fail
            go_quiet (fail)
            go_wp2_with fail
            have HBq := Lib.hid (below_drewN HB.out nq)
            have HRq : Hid ((wr.drewN nq).heap[w2.heap.size]? = some (.cells arr 71 (0, 0))) := HR.out
            have x1q : (wr.drewN nq).cell? ⟨w2.heap.size, 1 + k, none⟩ = some fv := x1
            have x2q : (wr.drewN nq).frozen? ⟨w2.heap.size, 1 + k, none⟩ = false := x2
            clear x1 x2 q1'
            generalize wr.drewN nq = wq at *
            go_region_law (fail)
            all_goals
              go_wp2_with fail
              go_roundw
              case rel => exact ⟨k + 1, by omega, by go_num, HNX.out _ (by rw [if_neg hc1]), (HBq.out.setCell (p := ⟨w2.heap.size, 1 + k, none⟩) (Nat.le_refl _) _).drew, _, heap_setCell_same _ _ _ _ _ _ HRq.out, HCH.out.put hk3 HA.out _ HF.out⟩
              case measure => simp [intOf]; omega
      · have hk3' : ¬ (k : Int) < 3 := by omega
        have HCH3 : ChoAt w2 P C y 3 arr := by have h := HCH.out; rwa [show k = 3 by omega] at h
        obtain ⟨f0, f1, f2, rfl, s0, s1, s2⟩ := HCH3.form
        clear HCH
        have HRB := Lib.hid ((HB.out.block _ hz2).trans HR2.out)
        have hE0 : ppsE l = 0 := by rw [HE3.out]; exact HRS.out
        have k0 := furK_ppsF (C := C) hE0 HY.out HN.out CG.out 0 (by omega)
        have k1 := furK_ppsF (C := C) hE0 HY.out HN.out CG.out 1 (by omega)
        have k2 := furK_ppsF (C := C) hE0 HY.out HN.out CG.out 2 (by omega)
        rw [k0] at s0
        rw [k1] at s1
        rw [k2] at s2
        obtain ⟨F0, d0, e0, _⟩ := id s0.1
        subst e0
        obtain ⟨F1, d1, e1, _⟩ := id s1.1
        subst e1
        obtain ⟨F2, d2, e2, _⟩ := id s2.1
        subst e2
        have HS0 := Lib.hid s0
        have HS1 := Lib.hid s1
        have HS2 := Lib.hid s2
        have HEE := Lib.hid hE0
        clear s0 s1 s2 k0 k1 k2 hE0
        obtain ⟨p0, p1', p2', p3⟩ := cellsA HR.out
        obtain ⟨r0, r1, r2, r3⟩ := cellsA HRB.out
        have z0 := frozen_of_row _ _ 0 _ _ HRB.out
        have z1 := frozen_of_row _ _ 1 _ _ HRB.out
        have z2 := frozen_of_row _ _ 2 _ _ HRB.out
        have z3 := frozen_of_row _ _ 3 _ _ HRB.out
        go_wp2_with fail
        have hfin := fun (f : Value) (L : List UInt8) (hf : SL w2 w2.heap.size f L ∧ (L = [] → f = .slice none 0 0)) => (⟨((hf.1.below HB.out).set4 HRB.out (fun z => ⟨by simp, by simp, by simp, by simp⟩) (.int .i64 P) (.slice F0 (ppsF l 0).length d0) (.slice F1 (ppsF l 1).length d1) (.slice F2 (ppsF l 2).length d2)).more (by simp; exact HB.out.size), hf.2⟩ : FurAt ((((wr.setCell ⟨w.heap.size, 0, none⟩ (.int .i64 P)).setCell ⟨w.heap.size, 1, none⟩ (.slice F0 (ppsF l 0).length d0)).setCell ⟨w.heap.size, 2, none⟩ (.slice F1 (ppsF l 1).length d1)).setCell ⟨w.heap.size, 3, none⟩ (.slice F2 (ppsF l 2).length d2)) f L)
        exact bodyPost_ret (results_cellT rfl _ _ w.heap.size 71 _ (0, 0) _ rfl (row4_set wr w.heap.size 71 _ _ _ _ (.int .i64 P) (.slice F0 (ppsF l 0).length d0) (.slice F1 (ppsF l 1).length d1) (.slice F2 (ppsF l 2).length d2) HRB.out) Tryd.underlying71 rfl (by kernel_rfl)) rfl ⟨(.slice F0 (ppsF l 0).length d0), (.slice F1 (ppsF l 1).length d1), (.slice F2 (ppsF l 2).length d2), by rw [hPP.out.1, HEE.out]; rfl, hfin _ _ HS0.out, hfin _ _ HS1.out, hfin _ _ HS2.out, (((HB2.out.trans (HB.out.mono (Nat.le_of_lt hz2))).setCell (p := ⟨w.heap.size, 0, none⟩) (Nat.le_refl _) _).setCell (p := ⟨w.heap.size, 1, none⟩) (Nat.le_refl _) _).setCell (p := ⟨w.heap.size, 2, none⟩) (Nat.le_refl _) _ |>.setCell (p := ⟨w.heap.size, 3, none⟩) (Nat.le_refl _) _⟩
  · have HL0 : Hid (SL w2 w2.heap.size (.slice (some ⟨b2, o2 + 2, none⟩) (C.length - 2) (cc - 2)) (C.drop (2 + annN y 0))) := by
      by_cases h3 : 2 < C.length
      · exact SL.cut (n := 2) HV2.out h3
      · have e1 : C.length - 2 = 0 := by omega
        have e2 : C.drop (2 + annN y 0) = [] := List.drop_of_length_le (by simp [annN]; omega)
        show SL _ _ _ _
        rw [e1, e2]
        exact SL.nil _ _ _ _ (by unfold maxLen; omega)
    go_wp2_with fail
    have HX3 := Lib.hid (heap_alloc_new w2 (.cells #[.int .i64 P, .slice none 0 0, .slice none 0 0, .slice none 0 0] 71))
    have HB3 := Lib.hid (alloc_below w2 (.cells #[.int .i64 P, .slice none 0 0, .slice none 0 0, .slice none 0 0] 71))
    generalize w2.alloc (.cells #[.int .i64 P, .slice none 0 0, .slice none 0 0, .slice none 0 0] 71) = W3 at *
    go_loopw [7, 55] (fun s7 i wr => ∃ k : Nat, k ≤ 3 ∧ i = .int .i64 k ∧ Hid (SL w2 w2.heap.size s7 (C.drop (2 + annN y k))) ∧ Hid (Below w2.heap.size w2 wr) ∧ ∃ arr : Array Value, Hid (wr.heap[w2.heap.size]? = some (.cells arr 71 (0, 0))) ∧ Hid (ChoAt w2 P C y k arr)) (fun _ i _ => 3 - (intOf i).toNat)
    case atStart => exact ⟨0, by omega, rfl, HL0, HB3, _, HX3, ChoAt.start ..⟩
    case round =>
      clear HL0 HB3 HX3
      obtain ⟨k, hk, rfl, HS7, HB, arr, HR, HCH⟩ := hrel
      have q1' := (HB.out.cell (p := ⟨b2, o2 + 1, none⟩) hb2').trans q1
      by_cases hk3 : k < 3
      · obtain ⟨Z, hz, hzb⟩ := ann_bits y k hk3 (IntKind.u8.wrap (16 * 2 ^ k)) (by
          have h3 : k = 0 ∨ k = 1 ∨ k = 2 := by omega
          rcases h3 with rfl | rfl | rfl <;> decide)
        have hz2 : bits BinOp.and .u8 (y.toNat : Int) (16 * 2 ^ k % 256) = Z := by rw [← IntKind.wrap_u8']; exact hz
        have hk3' : (k : Int) < 3 := by omega
        cases ha : annB y k with
        | false =>
          rw [ha] at hzb
          have HNS : Hid (annN y (k + 1) = annN y k) := by show _ = _; rw [annN_s, ha]; rfl
          have HA := Lib.hid ha
          clear ha
          go_wp2_with fail
          go_quiet (fail)
          go_wp2_with fail
          go_roundw
          case rel => exact ⟨k + 1, by omega, by go_num, by show SL _ _ _ _; rw [HNS.out]; exact HS7.out, below_drewN HB.out _, arr, HR, HCH.out.skip HA.out⟩
          case measure => simp [intOf]; omega
        | true =>
          rw [ha] at hzb
          have hmn := annN_mono y (k + 1) 3 (by omega)
          rw [annN_s, if_pos ha, HN.out] at hmn
          have HNS : Hid (annN y (k + 1) = annN y k + 1) := by show _ = _; rw [annN_s, if_pos ha]
          have HA := Lib.hid ha
          have hdl : (C.drop (2 + annN y k)).length = n - annN y k := by rw [List.length_drop, HCL.out]; omega
          have HD0 : Hid ((C.drop (2 + annN y k)).getD 0 0 = C.getD (2 + annN y k) 0) := by show _ = _; simp [List.getD, List.getElem?_drop]
          have HDS : Hid (C.drop (2 + annN y (k + 1)) = (C.drop (2 + annN y k)).drop 1) := by show _ = _; rw [HNS.out, List.drop_drop]; congr 1
          clear ha
          obtain ⟨A7, c7, e7, t1, t2, t3⟩ := HS7.out
          have HS7' := HS7.out
          subst e7
          obtain ⟨b7, o7, rfl, hb7, hc7⟩ := t3 (by omega)
          have hd1 : 1 ≤ (C.drop (2 + annN y k)).length := by omega
          have HF : Hid (SL w2 w2.heap.size (.slice (some ⟨b7, o7, none⟩) 1 c7) [C.getD (2 + annN y k) 0]) := by
            show SL _ _ _ _
            rw [← HD0.out]
            have := HS7'.take (m := 1) hd1
            have e : (C.drop (2 + annN y k)).take 1 = [(C.drop (2 + annN y k)).getD 0 0] := by
              generalize C.drop (2 + annN y k) = D at *
              cases D with
              | nil => simp at hd1
              | cons x xs => simp
            rw [e] at this
            exact this
          have HNX : Hid (∀ s', s' = (if c7 = 1 then Value.slice (some ⟨b7, o7, none⟩) ((C.drop (2 + annN y k)).length - 1) (c7 - 1) else .slice (some ⟨b7, o7 + 1, none⟩) ((C.drop (2 + annN y k)).length - 1) (c7 - 1)) → SL w2 w2.heap.size s' (C.drop (2 + annN y (k + 1)))) := by
            intro s' hs'
            rw [HDS.out, hs']
            by_cases h2 : 1 < (C.drop (2 + annN y k)).length
            · rw [if_neg (by omega)]
              exact SL.cut (n := 1) HS7' h2
            · have e1 : (C.drop (2 + annN y k)).length - 1 = 0 := by omega
              have e2 : (C.drop (2 + annN y k)).drop 1 = [] := List.drop_of_length_le (by omega)
              rw [e1, e2]
              split
              · exact SL.nil _ _ _ _ (by unfold maxLen at t2 ⊢; omega)
              · exact SL.nil _ _ _ _ (by unfold maxLen at t2 ⊢; omega)
          clear t3 hc7 HS7 HS7' HDS HD0
          have HSZ3 : Hid (arr.size = 4) := HCH.out.1
          obtain ⟨fv, fv1, fv2, fv3⟩ := HCH.out.2.2 k hk3
          have HR' : wr.heap[w2.heap.size]? = some (.cells arr 71 (0, 0)) := HR.out
          have x1 := (cell_of_row _ _ (1 + k) _ _ _ HR').trans fv1
          have x2 := frozen_of_row _ _ (1 + k) _ _ HR'
          have HR := Lib.hid HR'
          clear fv2 fv3 HR' fv1
          generalize (C.drop (2 + annN y k)).length = dl at *
          have d1 : (1 : Int) ≤ (dl : Int) := by omega
          have d2 : (1 : Int) ≤ (c7 : Int) := by omega
          unfold maxLen at t2
          have HDL := Lib.hid hdl
          clear hdl
          by_cases hc1 : c7 = 1
          · subst hc1
            go_wp2_with fail
            go_quiet (fail)
            go_wp2_with fail
            have HBq := Lib.hid (below_drewN HB.out nq)
            have HRq : Hid ((wr.drewN nq).heap[w2.heap.size]? = some (.cells arr 71 (0, 0))) := HR.out
            have x1q : (wr.drewN nq).cell? ⟨w2.heap.size, 1 + k, none⟩ = some fv := x1
            have x2q : (wr.drewN nq).frozen? ⟨w2.heap.size, 1 + k, none⟩ = false := x2
            clear x1 x2 q1'
            generalize wr.drewN nq = wq at *
            go_region_law (fail)
            all_goals
              go_wp2_with fail
              go_roundw
              case rel => exact ⟨k + 1, by omega, by go_num, HNX.out _ (by simp [show dl - 1 = 0 by omega]), (HBq.out.setCell (p := ⟨w2.heap.size, 1 + k, none⟩) (Nat.le_refl _) _).drew, _, heap_setCell_same _ _ _ _ _ _ HRq.out, HCH.out.put hk3 HA.out _ HF.out⟩
              case measure => simp [intOf]; omega
          · have hc1b : ¬ 1 = c7 := fun e => hc1 e.symm
            go_wp2_with fail
            go_quiet (fail)
            go_wp2_with fail
            have HBq := Lib.hid (below_drewN HB.out nq)
            have HRq : Hid ((wr.drewN nq).heap[w2.heap.size]? = some (.cells arr 71 (0, 0))) := HR.out
            have x1q : (wr.drewN nq).cell? ⟨w2.heap.size, 1 + k, none⟩ = some fv := x1
            have x2q : (wr.drewN nq).frozen? ⟨w2.heap.size, 1 + k, none⟩ = false := x2
            clear x1 x2 q1'
            generalize wr.drewN nq = wq at *
            go_region_law (fail)
            all_goals
              go_wp2_with fail
              go_roundw
              case rel => exact ⟨k + 1, by omega, by go_num, HNX.out _ (by rw [if_neg hc1]), (HBq.out.setCell (p := ⟨w2.heap.size, 1 + k, none⟩) (Nat.le_refl _) _).drew, _, heap_setCell_same _ _ _ _ _ _ HRq.out, HCH.out.put hk3 HA.out _ HF.out⟩
              case measure => simp [intOf]; omega
      · have hk3' : ¬ (k : Int) < 3 := by omega
        have HCH3 : ChoAt w2 P C y 3 arr := by have h := HCH.out; rwa [show k = 3 by omega] at h
        obtain ⟨f0, f1, f2, rfl, s0, s1, s2⟩ := HCH3.form
        clear HCH
        have HRB := Lib.hid ((HB.out.block _ hz2).trans HR2.out)
        have hE0 : ppsE l = 0 := by rw [HE3.out]; exact HRS.out
        have k0 := furK_ppsF (C := C) hE0 HY.out HN.out CG.out 0 (by omega)
        have k1 := furK_ppsF (C := C) hE0 HY.out HN.out CG.out 1 (by omega)
        have k2 := furK_ppsF (C := C) hE0 HY.out HN.out CG.out 2 (by omega)
        rw [k0] at s0
        rw [k1] at s1
        rw [k2] at s2
        obtain ⟨F0, d0, e0, _⟩ := id s0.1
        subst e0
        obtain ⟨F1, d1, e1, _⟩ := id s1.1
        subst e1
        obtain ⟨F2, d2, e2, _⟩ := id s2.1
        subst e2
        have HS0 := Lib.hid s0
        have HS1 := Lib.hid s1
        have HS2 := Lib.hid s2
        have HEE := Lib.hid hE0
        clear s0 s1 s2 k0 k1 k2 hE0
        obtain ⟨p0, p1', p2', p3⟩ := cellsA HR.out
        obtain ⟨r0, r1, r2, r3⟩ := cellsA HRB.out
        have z0 := frozen_of_row _ _ 0 _ _ HRB.out
        have z1 := frozen_of_row _ _ 1 _ _ HRB.out
        have z2 := frozen_of_row _ _ 2 _ _ HRB.out
        have z3 := frozen_of_row _ _ 3 _ _ HRB.out
        go_wp2_with fail
        have hfin := fun (f : Value) (L : List UInt8) (hf : SL w2 w2.heap.size f L ∧ (L = [] → f = .slice none 0 0)) => (⟨((hf.1.below HB.out).set4 HRB.out (fun z => ⟨by simp, by simp, by simp, by simp⟩) (.int .i64 P) (.slice F0 (ppsF l 0).length d0) (.slice F1 (ppsF l 1).length d1) (.slice F2 (ppsF l 2).length d2)).more (by simp; exact HB.out.size), hf.2⟩ : FurAt ((((wr.setCell ⟨w.heap.size, 0, none⟩ (.int .i64 P)).setCell ⟨w.heap.size, 1, none⟩ (.slice F0 (ppsF l 0).length d0)).setCell ⟨w.heap.size, 2, none⟩ (.slice F1 (ppsF l 1).length d1)).setCell ⟨w.heap.size, 3, none⟩ (.slice F2 (ppsF l 2).length d2)) f L)
        exact bodyPost_ret (results_cellT rfl _ _ w.heap.size 71 _ (0, 0) _ rfl (row4_set wr w.heap.size 71 _ _ _ _ (.int .i64 P) (.slice F0 (ppsF l 0).length d0) (.slice F1 (ppsF l 1).length d1) (.slice F2 (ppsF l 2).length d2) HRB.out) Tryd.underlying71 rfl (by kernel_rfl)) rfl ⟨(.slice F0 (ppsF l 0).length d0), (.slice F1 (ppsF l 1).length d1), (.slice F2 (ppsF l 2).length d2), by rw [hPP.out.1, HEE.out]; rfl, hfin _ _ HS0.out, hfin _ _ HS1.out, hfin _ _ HS2.out, (((HB2.out.trans (HB.out.mono (Nat.le_of_lt hz2))).setCell (p := ⟨w.heap.size, 0, none⟩) (Nat.le_refl _) _).setCell (p := ⟨w.heap.size, 1, none⟩) (Nat.le_refl _) _).setCell (p := ⟨w.heap.size, 2, none⟩) (Nat.le_refl _) _ |>.setCell (p := ⟨w.heap.size, 3, none⟩) (Nat.le_refl _) _⟩
end Go.Proofs.YtnbggokmiokhlaaDoor
