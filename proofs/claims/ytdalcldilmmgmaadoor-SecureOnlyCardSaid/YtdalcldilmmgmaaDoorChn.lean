/-
  Channels: how one lies in memory; the walks of the small methods.
-/
import Derived.Test.YtdalcldilmmgmaaDoorErr
import Derived.Test.YtdalcldilmmgmaaDoorMof
import Derived.Test.YtdalcldilmmgmaaDoorUpa
namespace Go.Proofs.YtdalcldilmmgmaaDoor
set_option linter.unusedVariables false
set_option linter.unusedSimpArgs false
open Go.RowKit

/-- All but block b is kept. -/
structure Kb (b : Nat) (w w' : World) : Prop where
  os : w'.os = w.os
  tape : w'.tape = w.tape
  output : w'.output = w.output
  size : w.heap.size ≤ w'.heap.size
  block : ∀ k, k < w.heap.size → k ≠ b → w'.heap[k]? = w.heap[k]?
theorem Kb.refl (b : Nat) (w : World) : Kb b w w := ⟨rfl, rfl, rfl, Nat.le_refl _, fun _ _ _ => rfl⟩
theorem Kb.trans {b : Nat} {x y z : World} (h : Kb b x y) (k : Kb b y z) : Kb b x z :=
  ⟨k.os.trans h.os, k.tape.trans h.tape, k.output.trans h.output, Nat.le_trans h.size k.size, fun i hi h1 => (k.block i (Nat.lt_of_lt_of_le hi h.size) h1).trans (h.block i hi h1)⟩
theorem Kb.of_below {b : Nat} {x y : World} (h : Below x.heap.size x y) : Kb b x y := ⟨h.os, h.tape, h.output, h.size, fun k hk _ => h.block k hk⟩
theorem Kb.set {b : Nat} {x y : World} (h : Kb b x y) (i : Nat) (u : Value) : Kb b x (y.setCell ⟨b, i, none⟩ u) :=
  h.trans ⟨rfl, rfl, rfl, by simp [World.setCell], fun k hk h1 => Below.heap_setCell _ _ _ _ h1⟩
theorem Kb.drew {b : Nat} {x y : World} (h : Kb b x y) : Kb b x y.drew := h.trans (Kb.of_below (Below.refl _ _).drew)
theorem Kb.below {b B : Nat} {x y : World} (h : Kb b x y) (hb : B ≤ b) (hs : B ≤ x.heap.size) : Below B x y := ⟨h.os, h.tape, h.output, h.size, fun k hk => h.block k (by omega) (by omega)⟩
theorem FL.kb {g : Nat} {w w' : World} {v : Value} {l : List UInt8} (h : FL g w v l) (hk : Kb g w w') : FL g w' v l := h.keep hk.size fun k h1 h2 => hk.block k h2 h1

/-- What a side of a channel says. -/
structure Ch where
  enc : List UInt8
  mac : List UInt8
  rmac : List UInt8
  dat : List UInt8
  lvl : Int
  cv : List UInt8
  cnt : Int
  exp : Bool
  cls : Bool
/-- The nine cells of a side. -/
def chC (A0 A1 A2 A3 A5 : Option Addr) (c0 c1 c2 c3 c5 : Nat) (s : Ch) : Array Value :=
  #[.slice A0 s.enc.length c0, .slice A1 s.mac.length c1, .slice A2 s.rmac.length c2, .slice A3 s.dat.length c3, .int .i64 s.lvl, .slice A5 s.cv.length c5, .int .i64 s.cnt, .bool s.exp, .bool s.cls]
/-- Block g holds the side s; its slices lie elsewhere. -/
def CH (w : World) (g : Nat) (s : Ch) : Prop := ∃ A0 A1 A2 A3 A5 c0 c1 c2 c3 c5, w.heap[g]? = some (.cells (chC A0 A1 A2 A3 A5 c0 c1 c2 c3 c5 s) 56 (0, 0)) ∧
  FL g w (.slice A0 s.enc.length c0) s.enc ∧ FL g w (.slice A1 s.mac.length c1) s.mac ∧ FL g w (.slice A2 s.rmac.length c2) s.rmac ∧ FL g w (.slice A3 s.dat.length c3) s.dat ∧ FL g w (.slice A5 s.cv.length c5) s.cv
theorem CH.lt {w : World} {g : Nat} {s : Ch} (h : CH w g s) : g < w.heap.size := by
  obtain ⟨A0, A1, A2, A3, A5, c0, c1, c2, c3, c5, hr, _⟩ := h
  exact blk_lt hr
theorem CH.below {w w' : World} {g : Nat} {s : Ch} (h : CH w g s) (hb : Below w.heap.size w w') : CH w' g s := by
  have hl := h.lt
  obtain ⟨A0, A1, A2, A3, A5, c0, c1, c2, c3, c5, hr, h0, h1, h2, h3, h5⟩ := h
  exact ⟨A0, A1, A2, A3, A5, c0, c1, c2, c3, c5, (hb.block g hl).trans hr, h0.below hb, h1.below hb, h2.below hb, h3.below hb, h5.below hb⟩
/-- A byte slice never lies in a side's block. -/
theorem CH.off {w : World} {g : Nat} {s : Ch} (h : CH w g s) {B : Nat} {v : Value} {l : List UInt8} (hv : SL w B v l) (hB : B ≤ w.heap.size) : FL g w v l := by
  obtain ⟨A0, A1, A2, A3, A5, c0, c1, c2, c3, c5, hr, _⟩ := h
  obtain ⟨A, c, hv, k1, k2, k3⟩ := hv
  refine ⟨A, c, hv, k1, k2, fun hp => ?_⟩
  obtain ⟨b, o, hA, hb, hc⟩ := k3 hp
  refine ⟨b, o, hA, fun e => ?_, by omega, hc⟩
  subst e
  have h0 := hc 0 hp
  rcases Nat.lt_or_ge (o + 0) 9 with ho | ho
  · have : o = 0 ∨ o = 1 ∨ o = 2 ∨ o = 3 ∨ o = 4 ∨ o = 5 ∨ o = 6 ∨ o = 7 ∨ o = 8 := by omega
    rcases this with rfl | rfl | rfl | rfl | rfl | rfl | rfl | rfl | rfl <;>
      (rw [cell_of_row _ _ _ _ _ _ hr] at h0; simp [chC] at h0)
  · rw [cell_of_row _ _ _ _ _ _ hr, Array.getElem?_eq_none (by simp [chC]; omega)] at h0
    cases h0
/-- Another side is kept. -/
theorem CH.other {w w' : World} {g g' : Nat} {s s' : Ch} (h : CH w g s) (h' : CH w g' s') (hne : g ≠ g') (hk : Kb g w w') : CH w' g' s' := by
  have hl := h'.lt
  have hh := h'
  obtain ⟨A0, A1, A2, A3, A5, c0, c1, c2, c3, c5, hr, h0, h1, h2, h3, h5⟩ := h'
  have key : ∀ {v : Value} {l : List UInt8}, FL g' w v l → FL g' w' v l := fun {v l} hf => by
    have hg := h.off hf.sl (Nat.le_refl _)
    have h7 := hg.kb hk
    obtain ⟨A, c, hv, k1, k2, k3⟩ := hf
    obtain ⟨A', c', hv', k1', k2', k3'⟩ := h7
    rw [hv] at hv'
    injection hv' with e1 e2 e3
    subst e1 e3
    refine ⟨A, c, hv, k1, k2, fun hp => ?_⟩
    obtain ⟨b, o, hA, hb, hlt, hc⟩ := k3 hp
    obtain ⟨b', o', hA', hb', hlt', hc'⟩ := k3' hp
    rw [hA] at hA'
    injection hA' with hA'
    injection hA' with e1 e2
    subst e1 e2
    exact ⟨b, o, hA, hb, hlt', hc'⟩
  exact ⟨A0, A1, A2, A3, A5, c0, c1, c2, c3, c5, (hk.block g' hl (Ne.symm hne)).trans hr, key h0, key h1, key h2, key h3, key h5⟩

/-- Whether the level has a bit. -/
def hasB (l b : Int) : Bool := bits .and .i64 l b != 0

theorem pmade_nil (w : World) : Calls Tryd.prog 25 #[.pointer none] w fun e w' => e = .returned (.bool false) ∧ w = w' := by
  go_enter Tryd.func25, Tryd.ntmps25
  go_wp2_with fail
  go_ret
  exact ⟨rfl, rfl⟩
set_option maxRecDepth 100000 in
theorem pmade_any (g : Nat) (s : Ch) (w : World) (h : CH w g s) : Calls Tryd.prog 25 #[.pointer (some ⟨g, 0, none⟩)] w fun e w' => e = .returned (.bool (decide (0 < s.cv.length))) ∧ w = w' := by
  obtain ⟨A0, A1, A2, A3, A5, c0, c1, c2, c3, c5, hr, _⟩ := h
  have q5 : w.cell? ⟨g, 5, none⟩ = some (.slice A5 s.cv.length c5) := cell_of_row _ _ 5 _ _ _ hr
  have hi : decide ((0 : Int) < (s.cv.length : Int)) = decide (0 < s.cv.length) := by
    rcases Nat.eq_zero_or_pos s.cv.length with h | h
    · rw [h]; rfl
    · rw [decide_eq_true h, decide_eq_true (by omega)]
  have HI := Lib.hid hi
  generalize s.cv.length = n at *
  clear hr hi
  go_enter Tryd.func25, Tryd.ntmps25
  go_wp2_with fail
  go_ret
  exact ⟨rfl, rfl⟩
set_option maxRecDepth 100000 in
theorem phas_any (g : Nat) (b : Int) (s : Ch) (w : World) (h : CH w g s) : Calls Tryd.prog 38 #[.pointer (some ⟨g, 0, none⟩), .int .i64 b] w fun e w' => e = .returned (.bool (hasB s.lvl b)) ∧ w = w' := by
  obtain ⟨A0, A1, A2, A3, A5, c0, c1, c2, c3, c5, hr, _⟩ := h
  have q4 : w.cell? ⟨g, 4, none⟩ = some (.int .i64 s.lvl) := cell_of_row _ _ 4 _ _ _ hr
  unfold hasB
  generalize s.lvl = n at *
  clear hr
  go_enter Tryd.func38, Tryd.ntmps38
  go_wp2_with fail
  go_ret
  exact ⟨rfl, rfl⟩
set_option maxRecDepth 100000 in
theorem pcount_nil (w : World) : Calls Tryd.prog 13 #[.pointer none] w fun e w' => e = .returned (.int .i64 0) ∧ w = w' := by
  go_enter Tryd.func13, Tryd.ntmps13
  go_wp2_with (go_at_call 25; refine (pmade_nil _).mono ?_; rintro e w' ⟨rfl, rfl⟩)
  go_ret
  exact ⟨rfl, rfl⟩
set_option maxRecDepth 100000 in
theorem pcount_any (g : Nat) (s : Ch) (w : World) (h : CH w g s) : Calls Tryd.prog 13 #[.pointer (some ⟨g, 0, none⟩)] w fun e w' => e = .returned (.int .i64 (if s.cv.length = 0 then 0 else s.cnt)) ∧ w = w' := by
  have HM := Lib.hid (pmade_any g s w h)
  obtain ⟨A0, A1, A2, A3, A5, c0, c1, c2, c3, c5, hr, _⟩ := h
  have q4 : w.cell? ⟨g, 6, none⟩ = some (.int .i64 s.cnt) := cell_of_row _ _ 6 _ _ _ hr
  clear hr
  by_cases h0 : s.cv.length = 0
  · rw [if_pos h0]
    rw [h0] at HM
    go_enter Tryd.func13, Tryd.ntmps13
    go_wp2_with (go_at_call 25; refine HM.out.mono ?_; rintro e w' ⟨rfl, rfl⟩)
    go_ret
    exact ⟨rfl, rfl⟩
  · rw [if_neg h0]
    rw [decide_eq_true (by omega : 0 < s.cv.length)] at HM
    go_enter Tryd.func13, Tryd.ntmps13
    go_wp2_with (go_at_call 25; refine HM.out.mono ?_; rintro e w' ⟨rfl, rfl⟩)
    go_ret
    exact ⟨rfl, rfl⟩
set_option maxRecDepth 100000 in
theorem plevel_nil (w : World) : Calls Tryd.prog 17 #[.pointer none] w fun e w' => e = .returned (.int .i64 0) ∧ w = w' := by
  go_enter Tryd.func17, Tryd.ntmps17
  go_wp2_with (go_at_call 25; refine (pmade_nil _).mono ?_; rintro e w' ⟨rfl, rfl⟩)
  go_ret
  exact ⟨rfl, rfl⟩
set_option maxRecDepth 100000 in
theorem plevel_any (g : Nat) (s : Ch) (w : World) (h : CH w g s) : Calls Tryd.prog 17 #[.pointer (some ⟨g, 0, none⟩)] w fun e w' => e = .returned (.int .i64 (if s.cv.length = 0 then 0 else s.lvl)) ∧ w = w' := by
  have HM := Lib.hid (pmade_any g s w h)
  obtain ⟨A0, A1, A2, A3, A5, c0, c1, c2, c3, c5, hr, _⟩ := h
  have q4 : w.cell? ⟨g, 4, none⟩ = some (.int .i64 s.lvl) := cell_of_row _ _ 4 _ _ _ hr
  clear hr
  by_cases h0 : s.cv.length = 0
  · rw [if_pos h0]
    rw [h0] at HM
    go_enter Tryd.func17, Tryd.ntmps17
    go_wp2_with (go_at_call 25; refine HM.out.mono ?_; rintro e w' ⟨rfl, rfl⟩)
    go_ret
    exact ⟨rfl, rfl⟩
  · rw [if_neg h0]
    rw [decide_eq_true (by omega : 0 < s.cv.length)] at HM
    go_enter Tryd.func17, Tryd.ntmps17
    go_wp2_with (go_at_call 25; refine HM.out.mono ?_; rintro e w' ⟨rfl, rfl⟩)
    go_ret
    exact ⟨rfl, rfl⟩
set_option maxRecDepth 100000 in
theorem pdata_nil (w : World) : Calls Tryd.prog 21 #[.pointer none] w fun e w' => (∃ v', e = .returned v' ∧ SL w' w'.heap.size v' []) ∧ Below w.heap.size w w' := by
  go_enter Tryd.func21, Tryd.ntmps21
  go_wp2_with (go_at_call 25; refine (pmade_nil _).mono ?_; rintro e w' ⟨rfl, rfl⟩)
  go_ret
  exact ⟨⟨_, rfl, SL.nil _ _ _ _ (Nat.zero_le _)⟩, Below.refl _ _⟩
set_option maxRecDepth 100000 in
theorem pdata_any (g : Nat) (s : Ch) (w : World) (h : CH w g s) (hs : s.dat.length ≤ 1000) : Calls Tryd.prog 21 #[.pointer (some ⟨g, 0, none⟩)] w fun e w' => (∃ v', e = .returned v' ∧ SL w' w'.heap.size v' (if s.cv.length = 0 then [] else s.dat)) ∧ Below w.heap.size w w' := by
  have HM := Lib.hid (pmade_any g s w h)
  obtain ⟨A0, A1, A2, A3, A5, c0, c1, c2, c3, c5, hr, _, _, _, hd, _⟩ := h
  have HC := Lib.hid (clone_any s.dat _ w hd.sl (by omega))
  have q4 : w.cell? ⟨g, 3, none⟩ = some (.slice A3 s.dat.length c3) := cell_of_row _ _ 3 _ _ _ hr
  clear hr hd hs
  by_cases h0 : s.cv.length = 0
  · rw [if_pos h0]
    rw [h0] at HM
    go_enter Tryd.func21, Tryd.ntmps21
    go_wp2_with (go_at_call 25; refine HM.out.mono ?_; rintro e w' ⟨rfl, rfl⟩)
    go_ret
    exact ⟨⟨_, rfl, SL.nil _ _ _ _ (Nat.zero_le _)⟩, Below.refl _ _⟩
  · rw [if_neg h0]
    rw [decide_eq_true (by omega : 0 < s.cv.length)] at HM
    go_enter Tryd.func21, Tryd.ntmps21
    go_wp2_with (first
      | (go_at_call 25; refine HM.out.mono ?_; rintro e w' ⟨rfl, rfl⟩)
      | (go_at_call 23; refine HC.out.mono ?_; rintro e w2 ⟨v2, rfl, hv2, hb2⟩))
    go_ret
    exact ⟨⟨_, rfl, hv2⟩, hb2⟩
/-- A side that is closed. -/
def Ch.shut (s : Ch) : Ch := ⟨[], [], [], [], 0, s.cv, s.cnt, false, true⟩
end Go.Proofs.YtdalcldilmmgmaaDoor
