/-
  The walk of the reference's Flip.
-/
import Derived.Test.YtcojoohbhkhlnaaCeo
import Derived.Deep.RegionHeld3
namespace Go.Proofs.Ytcojoohbhkhlnaa
set_option linter.unusedVariables false
set_option linter.unusedSimpArgs false
open Go.RowKit

theorem heap_new1 (w : World) (cs : Array Value) (t : TypeId) (o : Obj) : ((w.alloc (.cells cs t)).alloc o).heap[w.heap.size]? = some (.cells cs t (0, 0)) := by
  rw [Below.heap_alloc _ _ _ (by rw [alloc_size]; omega)]
  exact heap_alloc_new w (.cells cs t)
theorem below_drewN {B : Nat} {a w : World} (h : Below B a w) (n : Nat) : Below B a (w.drewN n) := ⟨h.os, h.tape, h.output, h.size, h.block⟩

theorem put1_any {X : Nat → Prop} (l : List Nat) (v : Value) (w : World) (a x : Nat) (h : WX w X v l) (ha : a < l.length) (hl : l.length ≤ 65536) (hX : ∀ k, X k → k < w.heap.size) :
    Calls Try.prog 38 #[v, .int .i64 (a : Int), .int .u32 (x : Int)] w fun e w' => ∃ g c, e = .returned (.slice (some ⟨g, 0, none⟩) l.length c) ∧ WX w' X (.slice (some ⟨g, 0, none⟩) l.length c) (l.set a x) ∧ Below w.heap.size w w' := by
  refine (put0_any l v w a x h.sw ha hl).mono fun e w' hh => ?_
  obtain ⟨v', rfl, how, hb⟩ := hh
  have hwx := how.wx (X := X) (by rw [List.length_set]; omega) hX
  obtain ⟨g, c, hv, _⟩ := hwx
  rw [List.length_set] at hv
  subst hv
  exact ⟨g, c, rfl, how.wx (by rw [List.length_set]; omega) hX, hb⟩
theorem more1_any {X : Nat → Prop} (l : List Nat) (v : Value) (w : World) (a : Nat) (h : IX w X v l) (ha : a < l.length) (hl : l.length ≤ 65536) (hx : l.getD a 0 < 1000000) (hX : ∀ k, X k → k < w.heap.size) :
    Calls Try.prog 36 #[v, .int .i64 (a : Int)] w fun e w' => ∃ g c, e = .returned (.slice (some ⟨g, 0, none⟩) l.length c) ∧ IX w' X (.slice (some ⟨g, 0, none⟩) l.length c) (l.set a (l.getD a 0 + 1)) ∧ Below w.heap.size w w' := by
  refine (more_any l v w a h.si ha hl hx).mono fun e w' hh => ?_
  obtain ⟨v', rfl, how, hb⟩ := hh
  have hwx := how.ix (X := X) (by rw [List.length_set]; omega) hX
  obtain ⟨g, c, hv, _⟩ := hwx
  rw [List.length_set] at hv
  subst hv
  exact ⟨g, c, rfl, how.ix (by rw [List.length_set]; omega) hX, hb⟩

/-- What a call of the reference returns: a state and an error. -/
def RefR (X : Nat → Prop) (s : St) (q : Int) (w : World) (e : Ending) (w' : World) : Prop :=
  ∃ v1 v2, e = .returned (.tuple #[.agg (rrow v1 v2 s), .int .i64 q]) ∧ RV w' X s v1 v2 ∧ Below w.heap.size w w'

/-- Seven cells of a block turned, the others as they were. -/
theorem below_set7 {w w' : World} {B g : Nat} (h : Below B w w') (hg : B ≤ g) (x0 x1 x2 x3 x4 x5 x6 : Value) :
    Below B w (((((((w'.setCell ⟨g, 0, none⟩ x0).setCell ⟨g, 1, none⟩ x1).setCell ⟨g, 2, none⟩ x2).setCell ⟨g, 3, none⟩ x3).setCell ⟨g, 4, none⟩ x4).setCell ⟨g, 5, none⟩ x5).setCell ⟨g, 6, none⟩ x6) :=
  ((((((h.setCell (p := ⟨g, 0, none⟩) hg _).setCell (p := ⟨g, 1, none⟩) hg _).setCell (p := ⟨g, 2, none⟩) hg _).setCell (p := ⟨g, 3, none⟩) hg _).setCell (p := ⟨g, 4, none⟩) hg _).setCell (p := ⟨g, 5, none⟩) hg _).setCell (p := ⟨g, 6, none⟩) hg _

/-- The blocks of X and the two that a call of the reference lays first. -/
def X2 (X : Nat → Prop) (A : Nat) : Nat → Prop := fun k => X k ∨ k = A ∨ k = A + 1
theorem WX.lift {w w' : World} {X : Nat → Prop} {v : Value} {l : List Nat} (h : WX w X v l) (hb : Below w.heap.size w w') : WX w' (X2 X w.heap.size) v l := by
  obtain ⟨g, c, h1, h2, h3, h4, h5, h6⟩ := h.below hb
  obtain ⟨g', c', h1', _, _, _, h5', _⟩ := h
  rw [h1'] at h1
  simp only [Value.slice.injEq, Option.some.injEq, Addr.mk.injEq, and_true, true_and] at h1
  obtain ⟨rfl, rfl⟩ := h1
  exact ⟨_, _, h1', h2, h3, by rintro (hx | hx | hx) <;> first | exact h4 hx | omega, h5, h6⟩
theorem IX.lift {w w' : World} {X : Nat → Prop} {v : Value} {l : List Nat} (h : IX w X v l) (hb : Below w.heap.size w w') : IX w' (X2 X w.heap.size) v l := by
  obtain ⟨g, c, h1, h2, h3, h4, h5, h6⟩ := h.below hb
  obtain ⟨g', c', h1', _, _, _, h5', _⟩ := h
  rw [h1'] at h1
  simp only [Value.slice.injEq, Option.some.injEq, Addr.mk.injEq, and_true, true_and] at h1
  obtain ⟨rfl, rfl⟩ := h1
  exact ⟨_, _, h1', h2, h3, by rintro (hx | hx | hx) <;> first | exact h4 hx | omega, h5, h6⟩
theorem WX.drop {w : World} {X : Nat → Prop} {A : Nat} {v : Value} {l : List Nat} (h : WX w (X2 X A) v l) : WX w X v l := by
  obtain ⟨g, c, h1, h2, h3, h4, h5, h6⟩ := h
  exact ⟨g, c, h1, h2, h3, fun hx => h4 (.inl hx), h5, h6⟩
theorem IX.drop {w : World} {X : Nat → Prop} {A : Nat} {v : Value} {l : List Nat} (h : IX w (X2 X A) v l) : IX w X v l := by
  obtain ⟨g, c, h1, h2, h3, h4, h5, h6⟩ := h
  exact ⟨g, c, h1, h2, h3, fun hx => h4 (.inl hx), h5, h6⟩
theorem WX.set {w : World} {X : Nat → Prop} {v : Value} {l : List Nat} (h : WX w X v l) (p : Addr) (u : Value) (hp : X p.block) : WX (w.setCell p u) X v l := h.keep (set_size ..) fun k _ hk => set_blk (fun e => hk (e ▸ hp))
theorem IX.set {w : World} {X : Nat → Prop} {v : Value} {l : List Nat} (h : IX w X v l) (p : Addr) (u : Value) (hp : X p.block) : IX (w.setCell p u) X v l := h.keep (set_size ..) fun k _ hk => set_blk (fun e => hk (e ▸ hp))
theorem X2.a {X : Nat → Prop} {A : Nat} : X2 X A A := .inr (.inl rfl)
theorem X2.b {X : Nat → Prop} {A : Nat} : X2 X A (A + 1) := .inr (.inr rfl)
theorem WX.set7 {w : World} {X : Nat → Prop} {v : Value} {l : List Nat} {g : Nat} (h : WX w X v l) (hp : X g) (x0 x1 x2 x3 x4 x5 x6 : Value) : WX (((((((w.setCell ⟨g, 0, none⟩ x0).setCell ⟨g, 1, none⟩ x1).setCell ⟨g, 2, none⟩ x2).setCell ⟨g, 3, none⟩ x3).setCell ⟨g, 4, none⟩ x4).setCell ⟨g, 5, none⟩ x5).setCell ⟨g, 6, none⟩ x6) X v l :=
  ((((((h.set _ _ hp).set _ _ hp).set _ _ hp).set _ _ hp).set _ _ hp).set _ _ hp).set _ _ hp
theorem IX.set7 {w : World} {X : Nat → Prop} {v : Value} {l : List Nat} {g : Nat} (h : IX w X v l) (hp : X g) (x0 x1 x2 x3 x4 x5 x6 : Value) : IX (((((((w.setCell ⟨g, 0, none⟩ x0).setCell ⟨g, 1, none⟩ x1).setCell ⟨g, 2, none⟩ x2).setCell ⟨g, 3, none⟩ x3).setCell ⟨g, 4, none⟩ x4).setCell ⟨g, 5, none⟩ x5).setCell ⟨g, 6, none⟩ x6) X v l :=
  ((((((h.set _ _ hp).set _ _ hp).set _ _ hp).set _ _ hp).set _ _ hp).set _ _ hp).set _ _ hp

theorem rflip_bad {w : World} {X : Nat → Prop} {s : St} {v1 v2 : Value} (h : RV w X s v1 v2) (a k : Int) (ha : -9223372036854775808 ≤ a ∧ a < 9223372036854775808) (hk : -9223372036854775808 ≤ k ∧ k < 9223372036854775808) (hn : s.ws.length ≤ 65536) (hok : flOk s a k = false) :
    Calls Try.prog 29 #[.agg (rrow v1 v2 s), .int .i64 a, .int .i64 k] w (RefR X (flS s a k) (flE s a k) w) := by
  have HR := Lib.hid (h.below (below_new2 w (.cells (rrow v1 v2 s) 29) (.cells (rrow v1 v2 s) 29)))
  obtain ⟨g1, c1, rfl, h1, h2, _⟩ := h.ws
  obtain ⟨g2, c2, rfl, _⟩ := h.we
  unfold maxLen at h2
  clear h
  have HE : Hid (flE s a k = 2) := by show _ = _; unfold flE; rw [hok]; rfl
  have HS : Hid (flS s a k = s) := by show _ = _; unfold flS; rw [hok]; rfl
  have hno := of_decide_eq_false hok
  rw [HE.out, HS.out]
  unfold rrow at *
  by_cases q1 : a < 0
  · clear hno
    go_enter Try.func29, Try.ntmps29
    go_wp2
    exact bodyPost_ret (results_cell2 rfl _ _ (w.heap.size + 1) 29 _ (0, 0) _ rfl (heap_new2 ..) Try.underlying29 rfl (by kernel_rfl)) rfl ⟨_, _, rfl, HR.out, below_new2 ..⟩
  · by_cases q2 : (s.ws.length : Int) ≤ a
    · clear hno
      go_enter Try.func29, Try.ntmps29
      go_wp2
      exact bodyPost_ret (results_cell2 rfl _ _ (w.heap.size + 1) 29 _ (0, 0) _ rfl (heap_new2 ..) Try.underlying29 rfl (by kernel_rfl)) rfl ⟨_, _, rfl, HR.out, below_new2 ..⟩
    · by_cases q3 : k < 0
      · clear hno
        go_enter Try.func29, Try.ntmps29
        go_wp2
        exact bodyPost_ret (results_cell2 rfl _ _ (w.heap.size + 1) 29 _ (0, 0) _ rfl (heap_new2 ..) Try.underlying29 rfl (by kernel_rfl)) rfl ⟨_, _, rfl, HR.out, below_new2 ..⟩
      · have q4 : 31 < k := by omega
        clear hno
        go_enter Try.func29, Try.ntmps29
        go_wp2
        exact bodyPost_ret (results_cell2 rfl _ _ (w.heap.size + 1) 29 _ (0, 0) _ rfl (heap_new2 ..) Try.underlying29 rfl (by kernel_rfl)) rfl ⟨_, _, rfl, HR.out, below_new2 ..⟩

set_option maxHeartbeats 1600000 in
theorem rflip_ok {w : World} {X : Nat → Prop} {s : St} {v1 v2 : Value} (h : RV w X s v1 v2) (hX : ∀ k, X k → k < w.heap.size) (i j : Nat) (hi : i < s.ws.length) (hj : j < 32) (hn : s.ws.length ≤ 65536) (hx : s.ws.getD i 0 < 4294967296) :
    Calls Try.prog 29 #[.agg (rrow v1 v2 s), .int .i64 (i : Int), .int .i64 (j : Int)] w (RefR X { s with ws := s.ws.set i (s.ws.getD i 0 ^^^ 2 ^ j) } 0 w) := by
  have hw0 := h.ws
  have he0 := h.we
  have HW0 := Lib.hid h.ws
  have HI0 := Lib.hid h.we
  obtain ⟨g1, c1, rfl, h1, h2, h3, h4, h5⟩ := hw0
  obtain ⟨g2, c2, rfl, _⟩ := he0
  unfold maxLen at h2
  have hc := h5 i hi
  clear h h5
  have HXX := u32_xor_nat (s.ws.getD i 0) (2 ^ j) hx (u32_shl j hj)
  have hki : (i : Int) < (s.ws.length : Int) := by omega
  have hk0 : ¬ (i : Int) < 0 := by omega
  have hk1 : (0 : Int) ≤ (i : Int) := by omega
  unfold rrow
  have HB1 := below_new2 w (.cells #[.slice (some ⟨g1, 0, none⟩) s.ws.length c1, .slice (some ⟨g2, 0, none⟩) s.wear.length c2, .int .i64 (s.en : Int), .int .i64 (s.wr : Int), .int .i64 (s.cu : Int), .bool s.on, .int .i64 (cutI s)] 29) (.cells #[.slice none 0 0, .slice none 0 0, .int .i64 0, .int .i64 0, .int .i64 0, .bool false, .int .i64 0] 29)
  have RB := heap_new2 w (.cells #[.slice (some ⟨g1, 0, none⟩) s.ws.length c1, .slice (some ⟨g2, 0, none⟩) s.wear.length c2, .int .i64 (s.en : Int), .int .i64 (s.wr : Int), .int .i64 (s.cu : Int), .bool s.on, .int .i64 (cutI s)] 29) #[.slice none 0 0, .slice none 0 0, .int .i64 0, .int .i64 0, .int .i64 0, .bool false, .int .i64 0] 29
  have RA := heap_new1 w #[.slice (some ⟨g1, 0, none⟩) s.ws.length c1, .slice (some ⟨g2, 0, none⟩) s.wear.length c2, .int .i64 (s.en : Int), .int .i64 (s.wr : Int), .int .i64 (s.cu : Int), .bool s.on, .int .i64 (cutI s)] 29 (.cells #[.slice none 0 0, .slice none 0 0, .int .i64 0, .int .i64 0, .int .i64 0, .bool false, .int .i64 0] 29)
  have HB1 := Lib.hid HB1
  have RA := Lib.hid RA
  have RB := Lib.hid RB
  go_enter Try.func29, Try.ntmps29
  go_wp2_with fail
  generalize (w.alloc (.cells #[.slice (some ⟨g1, 0, none⟩) s.ws.length c1, .slice (some ⟨g2, 0, none⟩) s.wear.length c2, .int .i64 (s.en : Int), .int .i64 (s.wr : Int), .int .i64 (s.cu : Int), .bool s.on, .int .i64 (cutI s)] 29)).alloc (.cells #[.slice none 0 0, .slice none 0 0, .int .i64 0, .int .i64 0, .int .i64 0, .bool false, .int .i64 0] 29) = w1 at *
  have ra := RA.out
  have a0 := cell_of_row _ _ 0 _ _ _ ra
  have fa0 := frozen_of_row _ _ 0 _ _ ra
  have hc1 := (HB1.out.cell (p := ⟨g1, i, none⟩) h4).trans hc
  have HBIT := Lib.hid (fun W => bit_any j W hj)
  have HLT : Hid (w.heap.size + 2 ≤ w1.heap.size) := (Array.getElem?_eq_some_iff.1 RB.out).1
  have HP : Hid (∀ W, Below w1.heap.size w1 W → Calls Try.prog 38 #[.slice (some ⟨g1, 0, none⟩) s.ws.length c1, .int .i64 (i : Int), .int .u32 ((s.ws.getD i 0 ^^^ 2 ^ j : Nat) : Int)] W fun e w' => ∃ g c, e = .returned (.slice (some ⟨g, 0, none⟩) s.ws.length c) ∧ WX w' (X2 X w.heap.size) (.slice (some ⟨g, 0, none⟩) s.ws.length c) (s.ws.set i (s.ws.getD i 0 ^^^ 2 ^ j)) ∧ Below W.heap.size W w') := fun W hW =>
    put1_any s.ws _ W i _ ((HW0.out.lift HB1.out).below hW) hi hn (fun k hk => by
      have h1 := HLT.out; have h2 := hW.size
      rcases hk with hk | hk | hk
      · have := hX k hk; omega
      · omega
      · omega)
  have hltA : w.heap.size < w1.heap.size := by have := HLT.out; omega
  have hltG : g1 < w1.heap.size := by omega
  generalize s.ws.getD i 0 = x at *
  generalize x ^^^ 2 ^ j = y at *
  generalize 2 ^ j = p at *
  clear ra hc
  go_still_tail 11, (by kernel_rfl)
  still_call (HBIT.out _)
  still_step
  refine wpStill_nil ?_
  change wpList _ _ _ _ _ w1.drew
  have HD := Lib.hid ((Below.refl w1.heap.size w1).drew)
  have a0 : w1.drew.cell? ⟨w.heap.size, 0, none⟩ = _ := a0
  have hsd : w1.drew.heap.size = w1.heap.size := rfl
  have HP2 := Lib.hid (HP.out _ HD.out)
  generalize w1.drew = w2 at *
  go_wp2_with (
    go_at_call 38
    refine HP2.out.mono ?_
    rintro e w3 ⟨g3, c3, rfl, how, hb3⟩
    have hb13 := HD.out.trans (hb3.mono HD.out.size)
    have ra := (hb13.block w.heap.size hltA).trans RA.out
    have rb := (hb13.block (w.heap.size + 1) HLT.out).trans RB.out
    have HWS := Lib.hid how
    have HWE := Lib.hid ((HI0.out.lift HB1.out).below hb13)
    have HB3 := Lib.hid (HB1.out.trans (hb13.mono HB1.out.size))
    have HRB := Lib.hid rb
    have d0 := cell_of_row _ _ 0 _ _ _ ra
    have d1 := cell_of_row _ _ 1 _ _ _ ra
    have d2 := cell_of_row _ _ 2 _ _ _ ra
    have d3 := cell_of_row _ _ 3 _ _ _ ra
    have d4 := cell_of_row _ _ 4 _ _ _ ra
    have d5 := cell_of_row _ _ 5 _ _ _ ra
    have d6 := cell_of_row _ _ 6 _ _ _ ra
    have z0 := frozen_of_row _ _ 0 _ _ ra
    have e0 := cell_of_row _ _ 0 _ _ _ rb
    have e1 := cell_of_row _ _ 1 _ _ _ rb
    have e2 := cell_of_row _ _ 2 _ _ _ rb
    have e3 := cell_of_row _ _ 3 _ _ _ rb
    have e4 := cell_of_row _ _ 4 _ _ _ rb
    have e5 := cell_of_row _ _ 5 _ _ _ rb
    have e6 := cell_of_row _ _ 6 _ _ _ rb
    have y0 := frozen_of_row _ _ 0 _ _ rb
    have y1 := frozen_of_row _ _ 1 _ _ rb
    have y2 := frozen_of_row _ _ 2 _ _ rb
    have y3 := frozen_of_row _ _ 3 _ _ rb
    have y4 := frozen_of_row _ _ 4 _ _ rb
    have y5 := frozen_of_row _ _ 5 _ _ rb
    have y6 := frozen_of_row _ _ 6 _ _ rb
    clear how hb3 hb13 ra rb a0 fa0 hc1)
  exact bodyPost_ret (results_cell2 rfl _ _ (w.heap.size + 1) 29 _ (0, 0) _ rfl (row7_set _ _ _ _ _ _ _ _ _ _ _ _ _ _ _ _ _ (by rw [set_blk (by simp)]; exact HRB.out)) Try.underlying29 rfl (by kernel_rfl)) rfl
    ⟨.slice (some ⟨g3, 0, none⟩) s.ws.length c3, .slice (some ⟨g2, 0, none⟩) s.wear.length c2, by simp [rrow, cutI], ⟨((HWS.out.set ⟨w.heap.size, 0, none⟩ _ X2.a).set7 X2.b ..).drop, ((HWE.out.set ⟨w.heap.size, 0, none⟩ _ X2.a).set7 X2.b ..).drop⟩, below_set7 (HB3.out.setCell (p := ⟨w.heap.size, 0, none⟩) (Nat.le_refl _) _) (by omega) ..⟩
end Go.Proofs.Ytcojoohbhkhlnaa
