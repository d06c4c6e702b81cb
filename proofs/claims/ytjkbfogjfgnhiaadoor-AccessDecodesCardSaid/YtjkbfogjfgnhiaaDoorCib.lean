
/-
  What bytes say as a condition; the program's read.
-/
import Derived.Test.YtjkbfogjfgnhiaaDoorCia
import Derived.Test.YtjkbfogjfgnhiaaDoorDme
namespace Go.Proofs.YtjkbfogjfgnhiaaDoor
set_option linter.unusedVariables false
set_option linter.unusedSimpArgs false
open Go.RowKit

/-- n conditions that g reads, one behind another. -/
def rdS (g : List UInt8 → Option (Cn × List UInt8)) : Nat → List UInt8 → List Cn → Option (List Cn × List UInt8)
  | 0, b, acc => some (acc, b)
  | n + 1, b, acc => match g b with
    | none => none
    | some (k, r) => rdS g n r (acc ++ [k])
/-- The condition with which bytes begin, and what is behind it. -/
def rdF : Nat → List UInt8 → Option (Cn × List UInt8)
  | 0, _ => none
  | f + 1, b =>
    if b.length = 0 then none else if 7 < byN b 0 then none else
    if byN b 0 < 2 then some (.mk (byN b 0 : Int) 0 [], b.drop 1) else
    if b.length < 2 then none else
    if byN b 0 < 6 then some (.mk (byN b 0 : Int) (byN b 1 : Int) [], b.drop 2) else
    match rdS (rdF f) (byN b 1) (b.drop 2) [] with
    | none => none
    | some (ks, r) => some (.mk (byN b 0 : Int) 0 ks, r)

/-- What read gives. -/
def RdP (B0 : Nat) (w : World) (x : Option (Cn × List UInt8)) (e : Ending) (w' : World) : Prop := Below w.heap.size w w' ∧
  ((x = none ∧ e = .returned (.tuple #[.agg #[.int .i64 0, .int .i64 0, .slice none 0 0], .slice none 0 0, .bool false])) ∨
   ∃ k r Ak ck Ar cr, x = some (k, r) ∧ e = .returned (.tuple #[.agg #[.int .i64 k.op, .int .i64 k.n, .slice Ak k.kids.length ck], .slice Ar r.length cr, .bool true]) ∧
     KC w' (From w' w.heap.size) (.slice Ak k.kids.length ck) k.kids ∧ SL w' B0 (.slice Ar r.length cr) r)

theorem rdp_none {B0 : Nat} {w w' : World} (h : Below w.heap.size w w') : RdP B0 w none (.returned (.tuple #[.agg #[.int .i64 0, .int .i64 0, .slice none 0 0], .slice none 0 0, .bool false])) w' := ⟨h, .inl ⟨rfl, rfl⟩⟩
theorem rdF_0 (f : Nat) : rdF (f + 1) [] = none := by unfold rdF; rfl
theorem rdF_bad (f : Nat) (b : List UInt8) (h : 7 < byN b 0) : rdF (f + 1) b = none := by
  unfold rdF
  by_cases h0 : b.length = 0
  · rw [if_pos h0]
  · rw [if_neg h0, if_pos h]
theorem rdF_plain (f : Nat) (b : List UInt8) (h0 : 0 < b.length) (h : byN b 0 < 2) : rdF (f + 1) b = some (.mk (byN b 0 : Int) 0 [], b.drop 1) := by
  unfold rdF
  rw [if_neg (by omega), if_neg (by omega), if_pos h]
theorem rdF_short (f : Nat) (b : List UInt8) (h0 : b.length = 1) (h : 2 ≤ byN b 0) : rdF (f + 1) b = none := by
  unfold rdF
  rw [if_neg (by omega)]
  by_cases h1 : 7 < byN b 0
  · rw [if_pos h1]
  · rw [if_neg h1, if_neg (by omega), if_pos (by omega)]
theorem rdF_num (f : Nat) (b : List UInt8) (h0 : 2 ≤ b.length) (h : 2 ≤ byN b 0) (h1 : byN b 0 < 6) : rdF (f + 1) b = some (.mk (byN b 0 : Int) (byN b 1 : Int) [], b.drop 2) := by
  unfold rdF
  rw [if_neg (by omega), if_neg (by omega), if_neg (by omega), if_neg (by omega), if_pos h1]
theorem rdF_kids (f : Nat) (b : List UInt8) (h0 : 2 ≤ b.length) (h : 6 ≤ byN b 0) (h1 : byN b 0 ≤ 7) : rdF (f + 1) b = match rdS (rdF f) (byN b 1) (b.drop 2) [] with | none => none | some (ks, r) => some (.mk (byN b 0 : Int) 0 ks, r) := by
  unfold rdF
  rw [if_neg (by omega), if_neg (by omega), if_neg (by omega), if_neg (by omega), if_neg (by omega)]

set_option maxRecDepth 100000 in
set_option maxHeartbeats 6400000 in
theorem rd_empty (f : Nat) (v : Value) (w : World) (B0 : Nat) (hv : SL w B0 v []) :
    Calls Tryd.prog 84 #[v] w fun e w' => RdP B0 w (rdF (f + 1) []) e w' := by
  obtain ⟨A, c, rfl, h1, h2, h3⟩ := id hv
  rw [rdF_0]
  clear h3 hv
  go_enter Tryd.func84, Tryd.ntmps84
  go_wp2_with fail
  exact bodyPost_ret (results_cell3 rfl _ _ w.heap.size 24 #[.int .i64 0, .int .i64 0, .slice none 0 0] (0, 0) _ rfl (heap_alloc_new w _) Tryd.underlying24 rfl (by kernel_rfl)) rfl (rdp_none (alloc_below w _))

set_option maxRecDepth 100000 in
set_option maxHeartbeats 6400000 in
theorem rd_bad (f : Nat) (b : List UInt8) (v : Value) (w : World) (B0 : Nat) (hle : B0 ≤ w.heap.size) (hv : SL w B0 v b) (h0 : 0 < b.length) (hb : 7 < byN b 0) :
    Calls Tryd.prog 84 #[v] w fun e w' => RdP B0 w (rdF (f + 1) b) e w' := by
  obtain ⟨A, c, rfl, h1, h2, h3⟩ := id hv
  obtain ⟨B, o, rfl, hB, hc⟩ := h3 h0
  have g0 : w.cell? ⟨B, o, none⟩ = some (.int .u8 ((byN b 0 : Nat) : Int)) := hc 0 h0
  rw [rdF_bad f b hb]
  obtain ⟨n, hn⟩ : ∃ n, b.length = n + 1 := ⟨b.length - 1, by omega⟩
  rw [hn]
  obtain ⟨y, hy⟩ : ∃ y, y = byN b 0 := ⟨_, rfl⟩
  have hy2 : y < 256 := hy ▸ byN_lt b 0
  rw [← hy] at g0 hb
  have hyi : (7 : Int) < (y : Int) := by omega
  have hlt : B < w.heap.size := by omega
  clear h3 hv hc hy hn h1 h0
  go_enter Tryd.func84, Tryd.ntmps84
  go_wp2_with fail
  exact bodyPost_ret (results_cell3 rfl _ _ w.heap.size 24 #[.int .i64 0, .int .i64 0, .slice none 0 0] (0, 0) _ rfl (heap_alloc_new w _) Tryd.underlying24 rfl (by kernel_rfl)) rfl (rdp_none (alloc_below w _))

theorem set3C_below {w W : World} {x y z : Value} {g : Nat} (hb : Below w.heap.size w W) (hg : w.heap.size ≤ g) : Below w.heap.size w (((W.setCell ⟨g, 0, none⟩ x).setCell ⟨g, 1, none⟩ y).setCell ⟨g, 2, none⟩ z) := set3_below hb _ hg _ _ _

theorem sl_tail {w : World} {B0 B o c n : Nat} {b : List UInt8} (h : SL w B0 (.slice (some ⟨B, o, none⟩) b.length (c + 1)) b) (hn : b.length = n + 1) : SL w B0 (.slice (some ⟨B, o + 1, none⟩) n c) (b.drop 1) := by
  obtain ⟨A, c', e, h1, h2, h3⟩ := h
  injection e with e1 e2 e3
  subst e1 e3
  have hl : (b.drop 1).length = n := by rw [List.length_drop]; omega
  refine ⟨some ⟨B, o + 1, none⟩, c, by rw [hl], by omega, by omega, fun hp => ?_⟩
  obtain ⟨b', o', hA, hb, hc⟩ := h3 (by omega)
  injection hA with hA
  injection hA with hA1 hA2
  subst hA1 hA2
  refine ⟨B, o + 1, rfl, hb, fun k hk => ?_⟩
  have := hc (k + 1) (by omega)
  rw [show o + 1 + k = o + (k + 1) by omega, this]
  simp [List.getD, Nat.add_comm]
theorem rdp_some {B0 : Nat} {w w' : World} {R : Option (Cn × List UInt8)} {op n : Int} {r : List UInt8} {Ar : Option Addr} {l cr : Nat} (hR : R = some (.mk op n [], r)) (hl : l = r.length) (hs : SL w' B0 (.slice Ar l cr) r) (hb : Below w.heap.size w w') :
    RdP B0 w R (.returned (.tuple #[.agg #[.int .i64 op, .int .i64 n, .slice none 0 0], .slice Ar l cr, .bool true])) w' :=
  ⟨hb, .inr ⟨_, r, none, 0, Ar, cr, hR, by rw [hl]; rfl, KC.nil _ _ _ _ (Nat.zero_le _), by rw [← hl]; exact hs⟩⟩
theorem rd_mid {w w3 w5 : World} {x : Int} {cs : Array Value} (hb : Below w.heap.size w w3) (hr : w3.heap[w.heap.size]? = some (.cells #[.int .i64 0, .int .i64 0, .slice none 0 0] 24 (0, 0))) (hr2 : w3.heap[w.heap.size + 1]? = some (.cells cs 93 (0, 0)))
    (h5 : w5 = (((w3.setCell ⟨w.heap.size, 0, none⟩ (.int .i64 x)).setCell ⟨w.heap.size, 1, none⟩ (.int .i64 0)).setCell ⟨w.heap.size, 2, none⟩ (.slice none 0 0)).drew) :
    w5.heap[w.heap.size]? = some (.cells #[.int .i64 x, .int .i64 0, .slice none 0 0] 24 (0, 0)) ∧ w5.heap[w.heap.size + 1]? = some (.cells cs 93 (0, 0)) ∧ Below w.heap.size w w5 := by
  subst h5
  exact ⟨row3_set _ _ _ _ _ _ _ _ _ hr, (set3_other w3 w.heap.size (w.heap.size + 1) _ _ _ (by omega)).trans hr2, (set3_below hb _ (Nat.le_refl _) _ _ _).drew⟩

set_option maxRecDepth 100000 in
set_option maxHeartbeats 6400000 in
theorem rd_plain (f : Nat) (b : List UInt8) (v : Value) (w : World) (B0 : Nat) (hle : B0 ≤ w.heap.size) (hT : Tb w) (hv : SL w B0 v b) (h0 : 0 < b.length) (hb : byN b 0 < 2) :
    Calls Tryd.prog 84 #[v] w fun e w' => RdP B0 w (rdF (f + 1) b) e w' := by
  have HV := Lib.hid hv
  obtain ⟨A, c, rfl, h1, h2, h3⟩ := id hv
  obtain ⟨B, o, rfl, hB, hc⟩ := h3 h0
  have g0 : w.cell? ⟨B, o, none⟩ = some (.int .u8 ((byN b 0 : Nat) : Int)) := hc 0 h0
  obtain ⟨R, hR⟩ : ∃ R, R = rdF (f + 1) b := ⟨_, rfl⟩
  rw [← hR]
  have HR := Lib.hid (hR.trans (rdF_plain f b h0 hb))
  obtain ⟨n, hn⟩ : ∃ n, b.length = n + 1 := ⟨b.length - 1, by omega⟩
  rw [hn]
  obtain ⟨y, hy⟩ : ∃ y, y = byN b 0 := ⟨_, rfl⟩
  have hy2 : y < 256 := hy ▸ byN_lt b 0
  have HY := Lib.hid hy
  rw [← hy] at g0 hb
  have hyi : ¬ (8 : Int) ≤ (y : Int) := by omega
  have hlt : B < w.heap.size := by omega
  obtain ⟨k0, k1, k2, k3, k4⟩ := hT.kd y (by omega)
  have e1 : (kindOf y).kd = false := by match y, hb with | 0, _ | 1, _ => rfl
  have e2 : (kindOf y).hi = 0 := by match y, hb with | 0, _ | 1, _ => rfl
  rw [e1] at k1
  rw [e2] at k3
  generalize (kindOf y).nm = K0 at *
  generalize (kindOf y).lo = K2 at *
  generalize (kindOf y).bs = K4 at *
  have hz := hT.size
  have h1n : (1 : Int) ≤ ((n + 1 : Nat) : Int) := by omega
  have HN := Lib.hid hn
  obtain ⟨m, rfl⟩ : ∃ m, c = m + 1 := ⟨c - 1, by omega⟩
  have hnm : n ≤ m := by omega
  clear h3 hv hc hy hn h1 h0 hR hT e1 e2
  have hwr : IntKind.wrap .i64 (y : Int) = (y : Int) := by simp [IntKind.wrap, IntKind.signed, IntKind.bits]; omega
  rcases m with _ | m
  · obtain rfl : n = 0 := by omega
    have h1c : ((0 + 1 : Nat) : Int) = 1 := rfl
    go_enter Tryd.func84, Tryd.ntmps84
    go_wp2_with fail
    have hb2 := alloc2_below w (Obj.cells #[.int .i64 0, .int .i64 0, .slice none 0 0] 24) (Obj.cells #[.string K0, .bool false, .int .i64 K2, .int .i64 0, .int .i64 K4] 93)
    have hr := heap_alloc2_old w (Obj.cells #[.int .i64 0, .int .i64 0, .slice none 0 0] 24) (Obj.cells #[.string K0, .bool false, .int .i64 K2, .int .i64 0, .int .i64 K4] 93)
    have hr2 := heap2_new w (Obj.cells #[.int .i64 0, .int .i64 0, .slice none 0 0] 24) (Obj.cells #[.string K0, .bool false, .int .i64 K2, .int .i64 0, .int .i64 K4] 93)
    generalize (w.alloc (Obj.cells #[.int .i64 0, .int .i64 0, .slice none 0 0] 24)).alloc (Obj.cells #[.string K0, .bool false, .int .i64 K2, .int .i64 0, .int .i64 K4] 93) = w3 at *
    have g3 : w3.cell? ⟨B, o, none⟩ = some (.int .u8 (y : Int)) := (hb2.cell hlt).trans g0
    have z0 := cell_of_row _ _ 0 _ _ _ hr
    have z1 := cell_of_row _ _ 1 _ _ _ hr
    have z2 := cell_of_row _ _ 2 _ _ _ hr
    have y0 := frozen_of_row _ _ 0 _ _ hr
    have y1 := frozen_of_row _ _ 1 _ _ hr
    have y2 := frozen_of_row _ _ 2 _ _ hr
    have p0 := cell_of_row _ _ 0 _ _ _ hr2
    have p1 := cell_of_row _ _ 1 _ _ _ hr2
    have p2 := cell_of_row _ _ 2 _ _ _ hr2
    have p3 := cell_of_row _ _ 3 _ _ _ hr2
    have p4 := cell_of_row _ _ 4 _ _ _ hr2
    have e0 : B ≠ w.heap.size := by omega
    have HR2 := Lib.hid hr
    have HR3 := Lib.hid hr2
    have HB2 := Lib.hid hb2
    clear hr hr2 hb2 k0 k1 k2 k3 k4
    go_region_with fail
    all_goals
      try simp only [hwr]
      obtain ⟨w5, hw5⟩ : ∃ w5, w5 = (((w3.setCell ⟨w.heap.size, 0, none⟩ (.int .i64 (y : Int))).setCell ⟨w.heap.size, 1, none⟩ (.int .i64 0)).setCell ⟨w.heap.size, 2, none⟩ (.slice none 0 0)).drew := ⟨_, rfl⟩
      rw [← hw5]
      obtain ⟨r5, r6, hb5⟩ := rd_mid HB2.out HR2.out HR3.out hw5
      clear hw5 p0 p1 p2 p3 p4 z0 z1 z2 y0 y1 y2 g3
      have p0 := cell_of_row _ _ 0 _ _ _ r6
      have p1 := cell_of_row _ _ 1 _ _ _ r6
      have p2 := cell_of_row _ _ 2 _ _ _ r6
      have p3 := cell_of_row _ _ 3 _ _ _ r6
      have p4 := cell_of_row _ _ 4 _ _ _ r6
      go_wp2_with fail
      refine (numd_any _ _ _ _ _ _).mono ?_
      rintro e w6 ⟨rfl, hb6⟩
      have i6 := (hb6.block w.heap.size ((Array.getElem?_eq_some_iff.1 r5).1)).trans r5
      have i7 := (hb6.block (w.heap.size + 1) ((Array.getElem?_eq_some_iff.1 r6).1)).trans r6
      clear p0 p1 p2 p3 p4
      have p1 := cell_of_row _ _ 1 _ _ _ i7
      have z0 := cell_of_row _ _ 0 _ _ _ i6
      have z1 := cell_of_row _ _ 1 _ _ _ i6
      have z2 := cell_of_row _ _ 2 _ _ _ i6
      have y0 := frozen_of_row _ _ 0 _ _ i6
      have y1 := frozen_of_row _ _ 1 _ _ i6
      have y2 := frozen_of_row _ _ 2 _ _ i6
      have hb7 := Lib.hid (hb5.trans (hb6.mono hb5.size))
      have I6 := Lib.hid i6
      clear i6 i7 hb5 hb6 r5 r6
      go_wp2_with fail
      refine bodyPost_ret (results_cell3 rfl _ _ w.heap.size 24 #[.int .i64 y, .int .i64 0, .slice none 0 0] (0, 0) _ rfl (row3_set _ _ _ _ _ _ _ _ _ I6.out) Tryd.underlying24 rfl (by kernel_rfl)) rfl ?_
      have hb9 := set3_below hb7.out _ (Nat.le_refl _) (.int .i64 (y : Int)) (.int .i64 0) (.slice none 0 0)
      have hn := HN.out
      have hd : b.drop 1 = [] := List.eq_nil_of_length_eq_zero (by rw [List.length_drop]; omega)
      exact rdp_some (r := []) (by rw [HR.out, hd, HY.out]) rfl (SL.nil _ _ _ _ (Nat.zero_le _)) hb9
  · go_enter Tryd.func84, Tryd.ntmps84
    go_wp2_with fail
    have hb2 := alloc2_below w (Obj.cells #[.int .i64 0, .int .i64 0, .slice none 0 0] 24) (Obj.cells #[.string K0, .bool false, .int .i64 K2, .int .i64 0, .int .i64 K4] 93)
    have hr := heap_alloc2_old w (Obj.cells #[.int .i64 0, .int .i64 0, .slice none 0 0] 24) (Obj.cells #[.string K0, .bool false, .int .i64 K2, .int .i64 0, .int .i64 K4] 93)
    have hr2 := heap2_new w (Obj.cells #[.int .i64 0, .int .i64 0, .slice none 0 0] 24) (Obj.cells #[.string K0, .bool false, .int .i64 K2, .int .i64 0, .int .i64 K4] 93)
    generalize (w.alloc (Obj.cells #[.int .i64 0, .int .i64 0, .slice none 0 0] 24)).alloc (Obj.cells #[.string K0, .bool false, .int .i64 K2, .int .i64 0, .int .i64 K4] 93) = w3 at *
    have g3 : w3.cell? ⟨B, o, none⟩ = some (.int .u8 (y : Int)) := (hb2.cell hlt).trans g0
    have z0 := cell_of_row _ _ 0 _ _ _ hr
    have z1 := cell_of_row _ _ 1 _ _ _ hr
    have z2 := cell_of_row _ _ 2 _ _ _ hr
    have y0 := frozen_of_row _ _ 0 _ _ hr
    have y1 := frozen_of_row _ _ 1 _ _ hr
    have y2 := frozen_of_row _ _ 2 _ _ hr
    have p0 := cell_of_row _ _ 0 _ _ _ hr2
    have p1 := cell_of_row _ _ 1 _ _ _ hr2
    have p2 := cell_of_row _ _ 2 _ _ _ hr2
    have p3 := cell_of_row _ _ 3 _ _ _ hr2
    have p4 := cell_of_row _ _ 4 _ _ _ hr2
    have e0 : B ≠ w.heap.size := by omega
    have HR2 := Lib.hid hr
    have HR3 := Lib.hid hr2
    have HB2 := Lib.hid hb2
    clear hr hr2 hb2 k0 k1 k2 k3 k4
    go_region_with fail
    all_goals
      try simp only [hwr]
      obtain ⟨w5, hw5⟩ : ∃ w5, w5 = (((w3.setCell ⟨w.heap.size, 0, none⟩ (.int .i64 (y : Int))).setCell ⟨w.heap.size, 1, none⟩ (.int .i64 0)).setCell ⟨w.heap.size, 2, none⟩ (.slice none 0 0)).drew := ⟨_, rfl⟩
      rw [← hw5]
      obtain ⟨r5, r6, hb5⟩ := rd_mid HB2.out HR2.out HR3.out hw5
      clear hw5 p0 p1 p2 p3 p4 z0 z1 z2 y0 y1 y2 g3
      have p0 := cell_of_row _ _ 0 _ _ _ r6
      have p1 := cell_of_row _ _ 1 _ _ _ r6
      have p2 := cell_of_row _ _ 2 _ _ _ r6
      have p3 := cell_of_row _ _ 3 _ _ _ r6
      have p4 := cell_of_row _ _ 4 _ _ _ r6
      go_wp2_with fail
      refine (numd_any _ _ _ _ _ _).mono ?_
      rintro e w6 ⟨rfl, hb6⟩
      have i6 := (hb6.block w.heap.size ((Array.getElem?_eq_some_iff.1 r5).1)).trans r5
      have i7 := (hb6.block (w.heap.size + 1) ((Array.getElem?_eq_some_iff.1 r6).1)).trans r6
      clear p0 p1 p2 p3 p4
      have p1 := cell_of_row _ _ 1 _ _ _ i7
      have z0 := cell_of_row _ _ 0 _ _ _ i6
      have z1 := cell_of_row _ _ 1 _ _ _ i6
      have z2 := cell_of_row _ _ 2 _ _ _ i6
      have y0 := frozen_of_row _ _ 0 _ _ i6
      have y1 := frozen_of_row _ _ 1 _ _ i6
      have y2 := frozen_of_row _ _ 2 _ _ i6
      have hb7 := Lib.hid (hb5.trans (hb6.mono hb5.size))
      have I6 := Lib.hid i6
      clear i6 i7 hb5 hb6 r5 r6
      go_wp2_with fail
      refine bodyPost_ret (results_cell3 rfl _ _ w.heap.size 24 #[.int .i64 y, .int .i64 0, .slice none 0 0] (0, 0) _ rfl (row3_set _ _ _ _ _ _ _ _ _ I6.out) Tryd.underlying24 rfl (by kernel_rfl)) rfl ?_
      have hb9 := set3_below hb7.out _ (Nat.le_refl _) (.int .i64 (y : Int)) (.int .i64 0) (.slice none 0 0)
      have hn := HN.out
      exact rdp_some (r := b.drop 1) (by rw [HR.out, HY.out]) (by rw [List.length_drop]; omega) ((sl_tail HV.out hn).below (hb9.mono hle)) hb9
end Go.Proofs.YtjkbfogjfgnhiaaDoor
