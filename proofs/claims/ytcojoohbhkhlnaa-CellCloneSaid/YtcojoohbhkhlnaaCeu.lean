/-
  The walk of do.
-/
import Derived.Test.YtcojoohbhkhlnaaCet
import Derived.Test.YtcojoohbhkhlnaaFrm
namespace Go.Proofs.Ytcojoohbhkhlnaa
set_option linter.unusedVariables false
set_option linter.unusedSimpArgs false
open Go.RowKit

theorem rwrite_any {w : World} {X : Nat → Prop} {s : St} {N : Nat} {v1 v2 : Value} (h : RV w X s v1 v2) (hX : ∀ k, X k → k < w.heap.size) (hF : Fine s N) (hN : N < 1000000) (hwl : s.wear.length = s.ws.length) (hn : s.ws.length ≤ 65536) (a : Int) (v : Nat) (ha : -9223372036854775808 ≤ a ∧ a < 9223372036854775808) (hv : v < 4294967296) :
    Calls Try.prog 26 #[.agg (rrow v1 v2 s), .int .i64 a, .int .u32 (v : Int)] w (RefR X (wrS s a v) (wrE s a) w) := by
  by_cases hz : accE s a = 0
  · obtain ⟨h1, h2, h3⟩ := acc_in hz
    obtain ⟨k, rfl⟩ : ∃ k : Nat, a = (k : Int) := ⟨a.toNat, by omega⟩
    have hw := hF.wr
    have hc := hF.cu
    have he := hF.we k
    rcases hcut : s.cut with _ | j
    · have e1 : wrS s k v = putS { s with cut := none } k v := by unfold wrS; rw [if_pos hz, hcut, Int.toNat_natCast]; show putS s k v = _; rw [show ({ s with cut := none } : St) = s by rw [← hcut]]
      have e2 : wrE s k = 0 := by unfold wrE; rw [if_pos hz, hcut, if_neg (by simp)]
      rw [e1, e2]
      exact rwrite_none h hX k v (by omega) hwl hn h1 hcut hv (by omega) (by omega) hF.en
    · rcases j with _ | j
      · have e1 : wrS s k v = { s with on := false, cu := s.cu + 1 } := by unfold wrS; rw [if_pos hz, hcut]
        have e2 : wrE s k = 7 := by unfold wrE; rw [if_pos hz, hcut, if_pos rfl]
        rw [e1, e2]
        have := rwrite_cut h k v (by omega) hn h1 hcut (by omega)
        exact this
      · have e1 : wrS s k v = putS { s with cut := some j } k v := by unfold wrS; rw [if_pos hz, hcut, Int.toNat_natCast]
        have e2 : wrE s k = 0 := by unfold wrE; rw [if_pos hz, hcut, if_neg (by simp)]
        rw [e1, e2]
        exact rwrite_some h hX k v (by omega) hwl hn h1 hcut (by have := hF.cut _ hcut; omega) hv (by omega) (by omega) hF.en
  · exact rwrite_no h a v ha hn hz
theorem rcutR_any {w : World} {X : Nat → Prop} {s : St} {v1 v2 : Value} (h : RV w X s v1 v2) (n : Int) (hn : -9223372036854775808 ≤ n ∧ n < 9223372036854775808) : Calls Try.prog 27 #[.agg (rrow v1 v2 s), .int .i64 n] w (RefR X (cutS s n) (cutE s n) w) :=
  (rcut_any h n hn).mono fun e w' hh => by
    obtain ⟨rfl, hb⟩ := hh
    have h' := h.below hb
    refine ⟨v1, v2, rfl, ?_, hb⟩
    unfold cutS
    split
    · exact ⟨h'.ws, h'.we⟩
    · exact h'
theorem rflip_any {w : World} {X : Nat → Prop} {s : St} {N : Nat} {v1 v2 : Value} (h : RV w X s v1 v2) (hX : ∀ k, X k → k < w.heap.size) (hF : Fine s N) (hn : s.ws.length ≤ 65536) (a k : Int) (ha : -9223372036854775808 ≤ a ∧ a < 9223372036854775808) (hk : -9223372036854775808 ≤ k ∧ k < 9223372036854775808) :
    Calls Try.prog 29 #[.agg (rrow v1 v2 s), .int .i64 a, .int .i64 k] w (RefR X (flS s a k) (flE s a k) w) := by
  by_cases hok : flOk s a k = true
  · obtain ⟨h1, h2, h3, h4⟩ := of_decide_eq_true hok
    obtain ⟨i, rfl⟩ : ∃ i : Nat, a = (i : Int) := ⟨a.toNat, by omega⟩
    obtain ⟨j, rfl⟩ : ∃ j : Nat, k = (j : Int) := ⟨k.toNat, by omega⟩
    have e1 : flS s i j = { s with ws := s.ws.set i (s.ws.getD i 0 ^^^ 2 ^ j) } := by unfold flS; rw [if_pos hok, Int.toNat_natCast, Int.toNat_natCast]
    have e2 : flE s i j = 0 := if_pos hok
    rw [e1, e2]
    exact rflip_ok h hX i j (by omega) (by omega) hn (hF.ws i)
  · exact rflip_bad h a k ha hk hn (by simpa using hok)

theorem rrestoreR_any {w : World} {X : Nat → Prop} {s : St} {v1 v2 : Value} (h : RV w X s v1 v2) : Calls Try.prog 28 #[.agg (rrow v1 v2 s)] w fun e w' => ∃ v1 v2, e = .returned (.agg (rrow v1 v2 (resS s))) ∧ RV w' X (resS s) v1 v2 ∧ Below w.heap.size w w' :=
  (rrestore_any h).mono fun e w' hh => by
    obtain ⟨rfl, hb⟩ := hh
    have h' := h.below hb
    exact ⟨v1, v2, rfl, ⟨h'.ws, h'.we⟩, hb⟩

/-- The state behind a call of do. -/
def doS (s : St) (c : Cl) : St := if c.op = 0 then wrS s c.a c.v else if c.op = 1 then cutS s c.n else if c.op = 2 then resS s else if c.op = 3 then flS s c.a c.n else s
def X3 (X : Nat → Prop) (A : Nat) : Nat → Prop := fun k => X k ∨ A ≤ k ∧ k ≤ A + 2
/-- What do returns. -/
def DoR (b g : Nat) (X : Nat → Prop) (s : St) (w : World) (e : Ending) (w' : World) : Prop :=
  ∃ v1 v2, e = .returned (.tuple #[.agg (rrow v1 v2 s), .bool true]) ∧ (∃ lf, MA w' b g s lf) ∧ RV w' X s v1 v2 ∧ Kp b g w w'
def crow (c : Cl) : Array Value := #[.int .i64 c.op, .int .i64 c.a, .int .i64 c.n, .int .u32 (c.v : Int)]
theorem heap_new3 (w : World) (o o' : Obj) (cs : Array Value) (t : TypeId) : (((w.alloc o).alloc o').alloc (.cells cs t)).heap[w.heap.size + 1 + 1]? = some (.cells cs t (0, 0)) := by
  have := heap_alloc_new ((w.alloc o).alloc o') (.cells cs t)
  rw [show ((w.alloc o).alloc o').heap.size = w.heap.size + 1 + 1 by simp] at this
  exact this
theorem heap_new31 (w : World) (cs : Array Value) (t : TypeId) (o o' : Obj) : (((w.alloc (.cells cs t)).alloc o).alloc o').heap[w.heap.size]? = some (.cells cs t (0, 0)) := by
  rw [Below.heap_alloc _ _ _ (by simp; omega)]
  exact heap_new1 ..
theorem heap_new32 (w : World) (o : Obj) (cs : Array Value) (t : TypeId) (o' : Obj) : (((w.alloc o).alloc (.cells cs t)).alloc o').heap[w.heap.size + 1]? = some (.cells cs t (0, 0)) := by
  rw [Below.heap_alloc _ _ _ (by simp)]
  exact heap_new2 ..
theorem below_new3 (w : World) (o o' o'' : Obj) : Below w.heap.size w (((w.alloc o).alloc o').alloc o'') := (below_new2 w o o').alloc (by simp; omega) o''
theorem RV.kp {w w' : World} {X : Nat → Prop} {b g : Nat} {s : St} {v1 v2 : Value} (h : RV w X s v1 v2) (hk : Kp b g w w') (hb : X b) (hg : X g) : RV w' X s v1 v2 :=
  ⟨h.ws.keep hk.size fun k hk' hx => hk.block k hk' (fun e => hx (e ▸ hb)) (fun e => hx (e ▸ hg)), h.we.keep hk.size fun k hk' hx => hk.block k hk' (fun e => hx (e ▸ hb)) (fun e => hx (e ▸ hg))⟩
theorem Kp.far {b g : Nat} {x y : World} (h : Kp b g x y) (p : Addr) (u : Value) (hp : x.heap.size ≤ p.block) : Kp b g x (y.setCell p u) :=
  ⟨h.os, h.tape, h.output, Nat.le_trans h.size (set_size ..), fun k hk h1 h2 => (set_blk (by omega)).trans (h.block k hk h1 h2)⟩
theorem Kp.far7 {b g k : Nat} {x y : World} (h : Kp b g x y) (hk : x.heap.size ≤ k) (x0 x1 x2 x3 x4 x5 x6 : Value) :
    Kp b g x (((((((y.setCell ⟨k, 0, none⟩ x0).setCell ⟨k, 1, none⟩ x1).setCell ⟨k, 2, none⟩ x2).setCell ⟨k, 3, none⟩ x3).setCell ⟨k, 4, none⟩ x4).setCell ⟨k, 5, none⟩ x5).setCell ⟨k, 6, none⟩ x6) :=
  ((((((h.far _ _ hk).far _ _ hk).far _ _ hk).far _ _ hk).far _ _ hk).far _ _ hk).far _ _ hk
theorem blk_set7 {w : World} {k j : Nat} (h : j ≠ k) (x0 x1 x2 x3 x4 x5 x6 : Value) :
    (((((((w.setCell ⟨k, 0, none⟩ x0).setCell ⟨k, 1, none⟩ x1).setCell ⟨k, 2, none⟩ x2).setCell ⟨k, 3, none⟩ x3).setCell ⟨k, 4, none⟩ x4).setCell ⟨k, 5, none⟩ x5).setCell ⟨k, 6, none⟩ x6).heap[j]? = w.heap[j]? := by
  rw [set_blk h, set_blk h, set_blk h, set_blk h, set_blk h, set_blk h, set_blk h]
theorem WX.lift3 {w w' : World} {X : Nat → Prop} {v : Value} {l : List Nat} (h : WX w X v l) (hb : Below w.heap.size w w') : WX w' (X3 X w.heap.size) v l := by
  obtain ⟨g, c, h1, h2, h3, h4, h5, h6⟩ := h
  obtain ⟨g', c', h1', h2', h3', h4', h5', h6'⟩ := (show WX w X v l from ⟨g, c, h1, h2, h3, h4, h5, h6⟩).below hb
  subst h1
  simp only [Value.slice.injEq, Option.some.injEq, Addr.mk.injEq, and_true, true_and] at h1'
  obtain ⟨rfl, rfl⟩ := h1'
  exact ⟨_, _, rfl, h2, h3, by rintro (hx | hx) <;> first | exact h4 hx | omega, h5', h6'⟩
theorem IX.lift3 {w w' : World} {X : Nat → Prop} {v : Value} {l : List Nat} (h : IX w X v l) (hb : Below w.heap.size w w') : IX w' (X3 X w.heap.size) v l := by
  obtain ⟨g, c, h1, h2, h3, h4, h5, h6⟩ := h
  obtain ⟨g', c', h1', h2', h3', h4', h5', h6'⟩ := (show IX w X v l from ⟨g, c, h1, h2, h3, h4, h5, h6⟩).below hb
  subst h1
  simp only [Value.slice.injEq, Option.some.injEq, Addr.mk.injEq, and_true, true_and] at h1'
  obtain ⟨rfl, rfl⟩ := h1'
  exact ⟨_, _, rfl, h2, h3, by rintro (hx | hx) <;> first | exact h4 hx | omega, h5', h6'⟩
theorem WX.imp {w : World} {X Y : Nat → Prop} {v : Value} {l : List Nat} (h : WX w X v l) (hy : ∀ k, Y k → X k) : WX w Y v l := by
  obtain ⟨g, c, h1, h2, h3, h4, h5, h6⟩ := h
  exact ⟨g, c, h1, h2, h3, fun hx => h4 (hy _ hx), h5, h6⟩
theorem IX.imp {w : World} {X Y : Nat → Prop} {v : Value} {l : List Nat} (h : IX w X v l) (hy : ∀ k, Y k → X k) : IX w Y v l := by
  obtain ⟨g, c, h1, h2, h3, h4, h5, h6⟩ := h
  exact ⟨g, c, h1, h2, h3, fun hx => h4 (hy _ hx), h5, h6⟩

set_option maxRecDepth 100000 in
set_option maxHeartbeats 3200000 in
theorem do_write {w : World} {X : Nat → Prop} {b g lf N : Nat} {s : St} {v1 v2 : Value} (hm : MA w b g s lf) (h : RV w X s v1 v2) (hb : X b) (hg : X g) (hX : ∀ k, X k → k < w.heap.size) (hF : Fine s N) (hN : N < 1000000) (a n : Int) (v : Nat) (ha : I64 a) (hn : I64 n) (hv : v < 4294967296) :
    Calls Try.prog 10 #[.pointer (some ⟨b, 0, none⟩), .agg (rrow v1 v2 s), .agg #[.int .i64 0, .int .i64 a, .int .i64 n, .int .u32 (v : Int)]] w (DoR b g X (wrS s a v) w) := by
  have HW0 := Lib.hid h.ws
  have HI0 := Lib.hid h.we
  have hltb := hm.ltb
  have hltg := hm.ltg
  obtain ⟨g1, c1, rfl, _⟩ := h.ws
  obtain ⟨g2, c2, rfl, _⟩ := h.we
  have HB1 := Lib.hid (below_new3 w (.cells #[.slice (some ⟨g1, 0, none⟩) s.ws.length c1, .slice (some ⟨g2, 0, none⟩) s.wear.length c2, .int .i64 (s.en : Int), .int .i64 (s.wr : Int), .int .i64 (s.cu : Int), .bool s.on, .int .i64 (cutI s)] 29) (.cells #[.int .i64 0, .int .i64 a, .int .i64 n, .int .u32 (v : Int)] 37) (.cells #[.slice none 0 0, .slice none 0 0, .int .i64 0, .int .i64 0, .int .i64 0, .bool false, .int .i64 0] 29))
  have RA := Lib.hid (heap_new31 w #[.slice (some ⟨g1, 0, none⟩) s.ws.length c1, .slice (some ⟨g2, 0, none⟩) s.wear.length c2, .int .i64 (s.en : Int), .int .i64 (s.wr : Int), .int .i64 (s.cu : Int), .bool s.on, .int .i64 (cutI s)] 29 (.cells #[.int .i64 0, .int .i64 a, .int .i64 n, .int .u32 (v : Int)] 37) (.cells #[.slice none 0 0, .slice none 0 0, .int .i64 0, .int .i64 0, .int .i64 0, .bool false, .int .i64 0] 29))
  have RC := Lib.hid (heap_new32 w (.cells #[.slice (some ⟨g1, 0, none⟩) s.ws.length c1, .slice (some ⟨g2, 0, none⟩) s.wear.length c2, .int .i64 (s.en : Int), .int .i64 (s.wr : Int), .int .i64 (s.cu : Int), .bool s.on, .int .i64 (cutI s)] 29) #[.int .i64 0, .int .i64 a, .int .i64 n, .int .u32 (v : Int)] 37 (.cells #[.slice none 0 0, .slice none 0 0, .int .i64 0, .int .i64 0, .int .i64 0, .bool false, .int .i64 0] 29))
  have RB := Lib.hid (heap_new3 w (.cells #[.slice (some ⟨g1, 0, none⟩) s.ws.length c1, .slice (some ⟨g2, 0, none⟩) s.wear.length c2, .int .i64 (s.en : Int), .int .i64 (s.wr : Int), .int .i64 (s.cu : Int), .bool s.on, .int .i64 (cutI s)] 29) (.cells #[.int .i64 0, .int .i64 a, .int .i64 n, .int .u32 (v : Int)] 37) #[.slice none 0 0, .slice none 0 0, .int .i64 0, .int .i64 0, .int .i64 0, .bool false, .int .i64 0] 29)
  have HM := Lib.hid hm
  have HF := Lib.hid hF
  have HA : Hid (I64 a) := ha
  have HNN : Hid (I64 n) := hn
  clear h hm hF ha hn
  unfold rrow
  go_enter Try.func10, Try.ntmps10
  go_wp2_with fail
  generalize ((w.alloc (.cells #[.slice (some ⟨g1, 0, none⟩) s.ws.length c1, .slice (some ⟨g2, 0, none⟩) s.wear.length c2, .int .i64 (s.en : Int), .int .i64 (s.wr : Int), .int .i64 (s.cu : Int), .bool s.on, .int .i64 (cutI s)] 29)).alloc (.cells #[.int .i64 0, .int .i64 a, .int .i64 n, .int .u32 (v : Int)] 37)).alloc (.cells #[.slice none 0 0, .slice none 0 0, .int .i64 0, .int .i64 0, .int .i64 0, .bool false, .int .i64 0] 29) = w1 at *
  have HLT : Hid (w.heap.size + 3 ≤ w1.heap.size) := (Array.getElem?_eq_some_iff.1 RB.out).1
  have hm1 := HM.out.on HB1.out
  refine (write_any hm1 HF.out hN a v HA.out hv).mono ?_
  rintro e w2 ⟨rfl, hm2, hk2⟩
  have HM2 := Lib.hid hm2
  have HK2 := Lib.hid hk2
  have HB3 : Hid (X3 X w.heap.size b) := .inl hb
  have HG3 : Hid (X3 X w.heap.size g) := .inl hg
  have hrv2 : RV w2 (X3 X w.heap.size) s (.slice (some ⟨g1, 0, none⟩) s.ws.length c1) (.slice (some ⟨g2, 0, none⟩) s.wear.length c2) := RV.kp ⟨HW0.out.lift3 HB1.out, HI0.out.lift3 HB1.out⟩ hk2 HB3.out HG3.out
  have HX3 : Hid (∀ k, X3 X w.heap.size k → k < w2.heap.size) := fun k hk => by
    have h1 := HLT.out; have h2 := hk2.size
    rcases hk with hk | hk
    · have := hX k hk; omega
    · omega
  have ra := (hk2.block w.heap.size (by have := HLT.out; omega) (by omega) (by omega)).trans RA.out
  have rc := (hk2.block (w.heap.size + 1) (by have := HLT.out; omega) (by omega) (by omega)).trans RC.out
  have rb := (hk2.block (w.heap.size + 1 + 1) (by have := HLT.out; omega) (by omega) (by omega)).trans RB.out
  have HRA2 := Lib.hid ra
  have HRB2 := Lib.hid rb
  have x0 := cell_of_row _ _ 0 _ _ _ ra
  have x1 := cell_of_row _ _ 1 _ _ _ ra
  have x2 := cell_of_row _ _ 2 _ _ _ ra
  have x3 := cell_of_row _ _ 3 _ _ _ ra
  have x4 := cell_of_row _ _ 4 _ _ _ ra
  have x5 := cell_of_row _ _ 5 _ _ _ ra
  have x6 := cell_of_row _ _ 6 _ _ _ ra
  have q0 := cell_of_row _ _ 0 _ _ _ rc
  have q1 := cell_of_row _ _ 1 _ _ _ rc
  have q2 := cell_of_row _ _ 2 _ _ _ rc
  have q3 := cell_of_row _ _ 3 _ _ _ rc
  have HRV2 := Lib.hid hrv2
  clear hm2 hk2 hrv2 ra rc rb hm1
  go_wp2_with fail
  refine (rwrite_any HRV2.out HX3.out HF.out hN HM.out.wl HM.out.n2 a v HA.out hv).mono ?_
  rintro e w3 ⟨u1, u2, rfl, hrv3, hb3⟩
  obtain ⟨g3, c3, rfl, _⟩ := hrv3.ws
  obtain ⟨g4, c4, rfl, _⟩ := hrv3.we
  have HRV3 := Lib.hid hrv3
  have HM3 := Lib.hid (HM2.out.imp fun _ h => h.on hb3)
  have HK3 := Lib.hid (((Kp.of_below HB1.out : Kp b g w w1).trans HK2.out).trans (Kp.of_below hb3))
  have hltA : w.heap.size + 3 ≤ w2.heap.size := by have h1 := HLT.out; have h2 := HK2.out.size; omega
  have ra := (hb3.block w.heap.size (by omega)).trans HRA2.out
  have rb := (hb3.block (w.heap.size + 1 + 1) (by omega)).trans HRB2.out
  have HRB3 := Lib.hid rb
  generalize (wrS s a v) = t at *
  have d0 := cell_of_row _ _ 0 _ _ _ ra
  have z0 := frozen_of_row _ _ 0 _ _ ra
  have e0 := cell_of_row _ _ 0 _ _ _ rb
  have y0 := frozen_of_row _ _ 0 _ _ rb
  have d1 := cell_of_row _ _ 1 _ _ _ ra
  have z1 := frozen_of_row _ _ 1 _ _ ra
  have e1 := cell_of_row _ _ 1 _ _ _ rb
  have y1 := frozen_of_row _ _ 1 _ _ rb
  have d2 := cell_of_row _ _ 2 _ _ _ ra
  have z2 := frozen_of_row _ _ 2 _ _ ra
  have e2 := cell_of_row _ _ 2 _ _ _ rb
  have y2 := frozen_of_row _ _ 2 _ _ rb
  have d3 := cell_of_row _ _ 3 _ _ _ ra
  have z3 := frozen_of_row _ _ 3 _ _ ra
  have e3 := cell_of_row _ _ 3 _ _ _ rb
  have y3 := frozen_of_row _ _ 3 _ _ rb
  have d4 := cell_of_row _ _ 4 _ _ _ ra
  have z4 := frozen_of_row _ _ 4 _ _ ra
  have e4 := cell_of_row _ _ 4 _ _ _ rb
  have y4 := frozen_of_row _ _ 4 _ _ rb
  have d5 := cell_of_row _ _ 5 _ _ _ ra
  have z5 := frozen_of_row _ _ 5 _ _ ra
  have e5 := cell_of_row _ _ 5 _ _ _ rb
  have y5 := frozen_of_row _ _ 5 _ _ rb
  have d6 := cell_of_row _ _ 6 _ _ _ ra
  have z6 := frozen_of_row _ _ 6 _ _ ra
  have e6 := cell_of_row _ _ 6 _ _ _ rb
  have y6 := frozen_of_row _ _ 6 _ _ rb
  clear hrv3 hb3 ra rb x0 x1 x2 x3 x4 x5 x6 q0 q1 q2 q3
  unfold rrow
  go_wp2_with fail
  have hR := row7_set (((((((w3.setCell ⟨w.heap.size, 0, none⟩ (.slice (some ⟨g3, 0, none⟩) t.ws.length c3)).setCell ⟨w.heap.size, 1, none⟩ (.slice (some ⟨g4, 0, none⟩) t.wear.length c4)).setCell ⟨w.heap.size, 2, none⟩ (.int .i64 (t.en : Int))).setCell ⟨w.heap.size, 3, none⟩ (.int .i64 (t.wr : Int))).setCell ⟨w.heap.size, 4, none⟩ (.int .i64 (t.cu : Int))).setCell ⟨w.heap.size, 5, none⟩ (.bool t.on)).setCell ⟨w.heap.size, 6, none⟩ (.int .i64 (cutI t))) (w.heap.size + 1 + 1) 29 _ _ _ _ _ _ _ (.slice (some ⟨g3, 0, none⟩) t.ws.length c3) (.slice (some ⟨g4, 0, none⟩) t.wear.length c4) (.int .i64 (t.en : Int)) (.int .i64 (t.wr : Int)) (.int .i64 (t.cu : Int)) (.bool t.on) (.int .i64 (cutI t)) ((blk_set7 (by omega) ..).trans HRB3.out)
  have hMM := HM3.out.imp fun _ h => (h.far7 (k := w.heap.size) (by omega) (by omega) (.slice (some ⟨g3, 0, none⟩) t.ws.length c3) (.slice (some ⟨g4, 0, none⟩) t.wear.length c4) (.int .i64 (t.en : Int)) (.int .i64 (t.wr : Int)) (.int .i64 (t.cu : Int)) (.bool t.on) (.int .i64 (cutI t))).far7 (k := w.heap.size + 1 + 1) (by omega) (by omega) (.slice (some ⟨g3, 0, none⟩) t.ws.length c3) (.slice (some ⟨g4, 0, none⟩) t.wear.length c4) (.int .i64 (t.en : Int)) (.int .i64 (t.wr : Int)) (.int .i64 (t.cu : Int)) (.bool t.on) (.int .i64 (cutI t))
  have hXA : X3 X w.heap.size w.heap.size := .inr ⟨by omega, by omega⟩
  have hXB : X3 X w.heap.size (w.heap.size + 1 + 1) := .inr ⟨by omega, by omega⟩
  have hWW := ((HRV3.out.ws.set7 hXA (.slice (some ⟨g3, 0, none⟩) t.ws.length c3) (.slice (some ⟨g4, 0, none⟩) t.wear.length c4) (.int .i64 (t.en : Int)) (.int .i64 (t.wr : Int)) (.int .i64 (t.cu : Int)) (.bool t.on) (.int .i64 (cutI t))).set7 hXB (.slice (some ⟨g3, 0, none⟩) t.ws.length c3) (.slice (some ⟨g4, 0, none⟩) t.wear.length c4) (.int .i64 (t.en : Int)) (.int .i64 (t.wr : Int)) (.int .i64 (t.cu : Int)) (.bool t.on) (.int .i64 (cutI t))).imp (Y := X) (fun k hk => .inl hk)
  have hII := ((HRV3.out.we.set7 hXA (.slice (some ⟨g3, 0, none⟩) t.ws.length c3) (.slice (some ⟨g4, 0, none⟩) t.wear.length c4) (.int .i64 (t.en : Int)) (.int .i64 (t.wr : Int)) (.int .i64 (t.cu : Int)) (.bool t.on) (.int .i64 (cutI t))).set7 hXB (.slice (some ⟨g3, 0, none⟩) t.ws.length c3) (.slice (some ⟨g4, 0, none⟩) t.wear.length c4) (.int .i64 (t.en : Int)) (.int .i64 (t.wr : Int)) (.int .i64 (t.cu : Int)) (.bool t.on) (.int .i64 (cutI t))).imp (Y := X) (fun k hk => .inl hk)
  have hKK := (HK3.out.far7 (k := w.heap.size) (Nat.le_refl _) (.slice (some ⟨g3, 0, none⟩) t.ws.length c3) (.slice (some ⟨g4, 0, none⟩) t.wear.length c4) (.int .i64 (t.en : Int)) (.int .i64 (t.wr : Int)) (.int .i64 (t.cu : Int)) (.bool t.on) (.int .i64 (cutI t))).far7 (k := w.heap.size + 1 + 1) (by omega) (.slice (some ⟨g3, 0, none⟩) t.ws.length c3) (.slice (some ⟨g4, 0, none⟩) t.wear.length c4) (.int .i64 (t.en : Int)) (.int .i64 (t.wr : Int)) (.int .i64 (t.cu : Int)) (.bool t.on) (.int .i64 (cutI t))
  clear HM3 HRV3 HK3 HRB3
  generalize (((((((((((((w3.setCell ⟨w.heap.size, 0, none⟩ (.slice (some ⟨g3, 0, none⟩) t.ws.length c3)).setCell ⟨w.heap.size, 1, none⟩ (.slice (some ⟨g4, 0, none⟩) t.wear.length c4)).setCell ⟨w.heap.size, 2, none⟩ (.int .i64 (t.en : Int))).setCell ⟨w.heap.size, 3, none⟩ (.int .i64 (t.wr : Int))).setCell ⟨w.heap.size, 4, none⟩ (.int .i64 (t.cu : Int))).setCell ⟨w.heap.size, 5, none⟩ (.bool t.on)).setCell ⟨w.heap.size, 6, none⟩ (.int .i64 (cutI t))).setCell ⟨w.heap.size + 1 + 1, 0, none⟩ (.slice (some ⟨g3, 0, none⟩) t.ws.length c3)).setCell ⟨w.heap.size + 1 + 1, 1, none⟩ (.slice (some ⟨g4, 0, none⟩) t.wear.length c4)).setCell ⟨w.heap.size + 1 + 1, 2, none⟩ (.int .i64 (t.en : Int))).setCell ⟨w.heap.size + 1 + 1, 3, none⟩ (.int .i64 (t.wr : Int))).setCell ⟨w.heap.size + 1 + 1, 4, none⟩ (.int .i64 (t.cu : Int))).setCell ⟨w.heap.size + 1 + 1, 5, none⟩ (.bool t.on)).setCell ⟨w.heap.size + 1 + 1, 6, none⟩ (.int .i64 (cutI t)) = w5 at *
  exact bodyPost_ret (results_cell2 rfl _ _ (w.heap.size + 1 + 1) 29 _ (0, 0) _ rfl hR Try.underlying29 rfl (by kernel_rfl)) rfl ⟨.slice (some ⟨g3, 0, none⟩) t.ws.length c3, .slice (some ⟨g4, 0, none⟩) t.wear.length c4, by unfold rrow; simp, hMM, ⟨hWW, hII⟩, hKK⟩

set_option maxRecDepth 100000 in
set_option maxHeartbeats 3200000 in
theorem do_cut {w : World} {X : Nat → Prop} {b g lf N : Nat} {s : St} {v1 v2 : Value} (hm : MA w b g s lf) (h : RV w X s v1 v2) (hb : X b) (hg : X g) (hX : ∀ k, X k → k < w.heap.size) (hF : Fine s N) (hN : N < 1000000) (a n : Int) (v : Nat) (ha : I64 a) (hn : I64 n) (hv : v < 4294967296) :
    Calls Try.prog 10 #[.pointer (some ⟨b, 0, none⟩), .agg (rrow v1 v2 s), .agg #[.int .i64 1, .int .i64 a, .int .i64 n, .int .u32 (v : Int)]] w (DoR b g X (cutS s n) w) := by
  have HW0 := Lib.hid h.ws
  have HI0 := Lib.hid h.we
  have hltb := hm.ltb
  have hltg := hm.ltg
  obtain ⟨g1, c1, rfl, _⟩ := h.ws
  obtain ⟨g2, c2, rfl, _⟩ := h.we
  have HB1 := Lib.hid (below_new3 w (.cells #[.slice (some ⟨g1, 0, none⟩) s.ws.length c1, .slice (some ⟨g2, 0, none⟩) s.wear.length c2, .int .i64 (s.en : Int), .int .i64 (s.wr : Int), .int .i64 (s.cu : Int), .bool s.on, .int .i64 (cutI s)] 29) (.cells #[.int .i64 1, .int .i64 a, .int .i64 n, .int .u32 (v : Int)] 37) (.cells #[.slice none 0 0, .slice none 0 0, .int .i64 0, .int .i64 0, .int .i64 0, .bool false, .int .i64 0] 29))
  have RA := Lib.hid (heap_new31 w #[.slice (some ⟨g1, 0, none⟩) s.ws.length c1, .slice (some ⟨g2, 0, none⟩) s.wear.length c2, .int .i64 (s.en : Int), .int .i64 (s.wr : Int), .int .i64 (s.cu : Int), .bool s.on, .int .i64 (cutI s)] 29 (.cells #[.int .i64 1, .int .i64 a, .int .i64 n, .int .u32 (v : Int)] 37) (.cells #[.slice none 0 0, .slice none 0 0, .int .i64 0, .int .i64 0, .int .i64 0, .bool false, .int .i64 0] 29))
  have RC := Lib.hid (heap_new32 w (.cells #[.slice (some ⟨g1, 0, none⟩) s.ws.length c1, .slice (some ⟨g2, 0, none⟩) s.wear.length c2, .int .i64 (s.en : Int), .int .i64 (s.wr : Int), .int .i64 (s.cu : Int), .bool s.on, .int .i64 (cutI s)] 29) #[.int .i64 1, .int .i64 a, .int .i64 n, .int .u32 (v : Int)] 37 (.cells #[.slice none 0 0, .slice none 0 0, .int .i64 0, .int .i64 0, .int .i64 0, .bool false, .int .i64 0] 29))
  have RB := Lib.hid (heap_new3 w (.cells #[.slice (some ⟨g1, 0, none⟩) s.ws.length c1, .slice (some ⟨g2, 0, none⟩) s.wear.length c2, .int .i64 (s.en : Int), .int .i64 (s.wr : Int), .int .i64 (s.cu : Int), .bool s.on, .int .i64 (cutI s)] 29) (.cells #[.int .i64 1, .int .i64 a, .int .i64 n, .int .u32 (v : Int)] 37) #[.slice none 0 0, .slice none 0 0, .int .i64 0, .int .i64 0, .int .i64 0, .bool false, .int .i64 0] 29)
  have HM := Lib.hid hm
  have HF := Lib.hid hF
  have HA : Hid (I64 a) := ha
  have HNN : Hid (I64 n) := hn
  clear h hm hF ha hn
  unfold rrow
  go_enter Try.func10, Try.ntmps10
  go_wp2_with fail
  generalize ((w.alloc (.cells #[.slice (some ⟨g1, 0, none⟩) s.ws.length c1, .slice (some ⟨g2, 0, none⟩) s.wear.length c2, .int .i64 (s.en : Int), .int .i64 (s.wr : Int), .int .i64 (s.cu : Int), .bool s.on, .int .i64 (cutI s)] 29)).alloc (.cells #[.int .i64 1, .int .i64 a, .int .i64 n, .int .u32 (v : Int)] 37)).alloc (.cells #[.slice none 0 0, .slice none 0 0, .int .i64 0, .int .i64 0, .int .i64 0, .bool false, .int .i64 0] 29) = w1 at *
  have HLT : Hid (w.heap.size + 3 ≤ w1.heap.size) := (Array.getElem?_eq_some_iff.1 RB.out).1
  have hm1 := HM.out.on HB1.out
  refine (cut_any hm1 n).mono ?_
  rintro e w2 ⟨rfl, hm2, hk2⟩
  have HM2 := Lib.hid hm2
  have HK2 := Lib.hid hk2
  have HB3 : Hid (X3 X w.heap.size b) := .inl hb
  have HG3 : Hid (X3 X w.heap.size g) := .inl hg
  have hrv2 : RV w2 (X3 X w.heap.size) s (.slice (some ⟨g1, 0, none⟩) s.ws.length c1) (.slice (some ⟨g2, 0, none⟩) s.wear.length c2) := RV.kp ⟨HW0.out.lift3 HB1.out, HI0.out.lift3 HB1.out⟩ hk2 HB3.out HG3.out
  have HX3 : Hid (∀ k, X3 X w.heap.size k → k < w2.heap.size) := fun k hk => by
    have h1 := HLT.out; have h2 := hk2.size
    rcases hk with hk | hk
    · have := hX k hk; omega
    · omega
  have ra := (hk2.block w.heap.size (by have := HLT.out; omega) (by omega) (by omega)).trans RA.out
  have rc := (hk2.block (w.heap.size + 1) (by have := HLT.out; omega) (by omega) (by omega)).trans RC.out
  have rb := (hk2.block (w.heap.size + 1 + 1) (by have := HLT.out; omega) (by omega) (by omega)).trans RB.out
  have HRA2 := Lib.hid ra
  have HRB2 := Lib.hid rb
  have x0 := cell_of_row _ _ 0 _ _ _ ra
  have x1 := cell_of_row _ _ 1 _ _ _ ra
  have x2 := cell_of_row _ _ 2 _ _ _ ra
  have x3 := cell_of_row _ _ 3 _ _ _ ra
  have x4 := cell_of_row _ _ 4 _ _ _ ra
  have x5 := cell_of_row _ _ 5 _ _ _ ra
  have x6 := cell_of_row _ _ 6 _ _ _ ra
  have q0 := cell_of_row _ _ 0 _ _ _ rc
  have q1 := cell_of_row _ _ 1 _ _ _ rc
  have q2 := cell_of_row _ _ 2 _ _ _ rc
  have q3 := cell_of_row _ _ 3 _ _ _ rc
  have HRV2 := Lib.hid hrv2
  clear hm2 hk2 hrv2 ra rc rb hm1
  go_wp2_with fail
  refine (rcutR_any HRV2.out n HNN.out).mono ?_
  rintro e w3 ⟨u1, u2, rfl, hrv3, hb3⟩
  obtain ⟨g3, c3, rfl, _⟩ := hrv3.ws
  obtain ⟨g4, c4, rfl, _⟩ := hrv3.we
  have HRV3 := Lib.hid hrv3
  have HM3 := Lib.hid (HM2.out.imp fun _ h => h.on hb3)
  have HK3 := Lib.hid (((Kp.of_below HB1.out : Kp b g w w1).trans HK2.out).trans (Kp.of_below hb3))
  have hltA : w.heap.size + 3 ≤ w2.heap.size := by have h1 := HLT.out; have h2 := HK2.out.size; omega
  have ra := (hb3.block w.heap.size (by omega)).trans HRA2.out
  have rb := (hb3.block (w.heap.size + 1 + 1) (by omega)).trans HRB2.out
  have HRB3 := Lib.hid rb
  generalize (cutS s n) = t at *
  have d0 := cell_of_row _ _ 0 _ _ _ ra
  have z0 := frozen_of_row _ _ 0 _ _ ra
  have e0 := cell_of_row _ _ 0 _ _ _ rb
  have y0 := frozen_of_row _ _ 0 _ _ rb
  have d1 := cell_of_row _ _ 1 _ _ _ ra
  have z1 := frozen_of_row _ _ 1 _ _ ra
  have e1 := cell_of_row _ _ 1 _ _ _ rb
  have y1 := frozen_of_row _ _ 1 _ _ rb
  have d2 := cell_of_row _ _ 2 _ _ _ ra
  have z2 := frozen_of_row _ _ 2 _ _ ra
  have e2 := cell_of_row _ _ 2 _ _ _ rb
  have y2 := frozen_of_row _ _ 2 _ _ rb
  have d3 := cell_of_row _ _ 3 _ _ _ ra
  have z3 := frozen_of_row _ _ 3 _ _ ra
  have e3 := cell_of_row _ _ 3 _ _ _ rb
  have y3 := frozen_of_row _ _ 3 _ _ rb
  have d4 := cell_of_row _ _ 4 _ _ _ ra
  have z4 := frozen_of_row _ _ 4 _ _ ra
  have e4 := cell_of_row _ _ 4 _ _ _ rb
  have y4 := frozen_of_row _ _ 4 _ _ rb
  have d5 := cell_of_row _ _ 5 _ _ _ ra
  have z5 := frozen_of_row _ _ 5 _ _ ra
  have e5 := cell_of_row _ _ 5 _ _ _ rb
  have y5 := frozen_of_row _ _ 5 _ _ rb
  have d6 := cell_of_row _ _ 6 _ _ _ ra
  have z6 := frozen_of_row _ _ 6 _ _ ra
  have e6 := cell_of_row _ _ 6 _ _ _ rb
  have y6 := frozen_of_row _ _ 6 _ _ rb
  clear hrv3 hb3 ra rb x0 x1 x2 x3 x4 x5 x6 q0 q1 q2 q3
  unfold rrow
  go_wp2_with fail
  have hR := row7_set (((((((w3.setCell ⟨w.heap.size, 0, none⟩ (.slice (some ⟨g3, 0, none⟩) t.ws.length c3)).setCell ⟨w.heap.size, 1, none⟩ (.slice (some ⟨g4, 0, none⟩) t.wear.length c4)).setCell ⟨w.heap.size, 2, none⟩ (.int .i64 (t.en : Int))).setCell ⟨w.heap.size, 3, none⟩ (.int .i64 (t.wr : Int))).setCell ⟨w.heap.size, 4, none⟩ (.int .i64 (t.cu : Int))).setCell ⟨w.heap.size, 5, none⟩ (.bool t.on)).setCell ⟨w.heap.size, 6, none⟩ (.int .i64 (cutI t))) (w.heap.size + 1 + 1) 29 _ _ _ _ _ _ _ (.slice (some ⟨g3, 0, none⟩) t.ws.length c3) (.slice (some ⟨g4, 0, none⟩) t.wear.length c4) (.int .i64 (t.en : Int)) (.int .i64 (t.wr : Int)) (.int .i64 (t.cu : Int)) (.bool t.on) (.int .i64 (cutI t)) ((blk_set7 (by omega) ..).trans HRB3.out)
  have hMM := HM3.out.imp fun _ h => (h.far7 (k := w.heap.size) (by omega) (by omega) (.slice (some ⟨g3, 0, none⟩) t.ws.length c3) (.slice (some ⟨g4, 0, none⟩) t.wear.length c4) (.int .i64 (t.en : Int)) (.int .i64 (t.wr : Int)) (.int .i64 (t.cu : Int)) (.bool t.on) (.int .i64 (cutI t))).far7 (k := w.heap.size + 1 + 1) (by omega) (by omega) (.slice (some ⟨g3, 0, none⟩) t.ws.length c3) (.slice (some ⟨g4, 0, none⟩) t.wear.length c4) (.int .i64 (t.en : Int)) (.int .i64 (t.wr : Int)) (.int .i64 (t.cu : Int)) (.bool t.on) (.int .i64 (cutI t))
  have hXA : X3 X w.heap.size w.heap.size := .inr ⟨by omega, by omega⟩
  have hXB : X3 X w.heap.size (w.heap.size + 1 + 1) := .inr ⟨by omega, by omega⟩
  have hWW := ((HRV3.out.ws.set7 hXA (.slice (some ⟨g3, 0, none⟩) t.ws.length c3) (.slice (some ⟨g4, 0, none⟩) t.wear.length c4) (.int .i64 (t.en : Int)) (.int .i64 (t.wr : Int)) (.int .i64 (t.cu : Int)) (.bool t.on) (.int .i64 (cutI t))).set7 hXB (.slice (some ⟨g3, 0, none⟩) t.ws.length c3) (.slice (some ⟨g4, 0, none⟩) t.wear.length c4) (.int .i64 (t.en : Int)) (.int .i64 (t.wr : Int)) (.int .i64 (t.cu : Int)) (.bool t.on) (.int .i64 (cutI t))).imp (Y := X) (fun k hk => .inl hk)
  have hII := ((HRV3.out.we.set7 hXA (.slice (some ⟨g3, 0, none⟩) t.ws.length c3) (.slice (some ⟨g4, 0, none⟩) t.wear.length c4) (.int .i64 (t.en : Int)) (.int .i64 (t.wr : Int)) (.int .i64 (t.cu : Int)) (.bool t.on) (.int .i64 (cutI t))).set7 hXB (.slice (some ⟨g3, 0, none⟩) t.ws.length c3) (.slice (some ⟨g4, 0, none⟩) t.wear.length c4) (.int .i64 (t.en : Int)) (.int .i64 (t.wr : Int)) (.int .i64 (t.cu : Int)) (.bool t.on) (.int .i64 (cutI t))).imp (Y := X) (fun k hk => .inl hk)
  have hKK := (HK3.out.far7 (k := w.heap.size) (Nat.le_refl _) (.slice (some ⟨g3, 0, none⟩) t.ws.length c3) (.slice (some ⟨g4, 0, none⟩) t.wear.length c4) (.int .i64 (t.en : Int)) (.int .i64 (t.wr : Int)) (.int .i64 (t.cu : Int)) (.bool t.on) (.int .i64 (cutI t))).far7 (k := w.heap.size + 1 + 1) (by omega) (.slice (some ⟨g3, 0, none⟩) t.ws.length c3) (.slice (some ⟨g4, 0, none⟩) t.wear.length c4) (.int .i64 (t.en : Int)) (.int .i64 (t.wr : Int)) (.int .i64 (t.cu : Int)) (.bool t.on) (.int .i64 (cutI t))
  clear HM3 HRV3 HK3 HRB3
  generalize (((((((((((((w3.setCell ⟨w.heap.size, 0, none⟩ (.slice (some ⟨g3, 0, none⟩) t.ws.length c3)).setCell ⟨w.heap.size, 1, none⟩ (.slice (some ⟨g4, 0, none⟩) t.wear.length c4)).setCell ⟨w.heap.size, 2, none⟩ (.int .i64 (t.en : Int))).setCell ⟨w.heap.size, 3, none⟩ (.int .i64 (t.wr : Int))).setCell ⟨w.heap.size, 4, none⟩ (.int .i64 (t.cu : Int))).setCell ⟨w.heap.size, 5, none⟩ (.bool t.on)).setCell ⟨w.heap.size, 6, none⟩ (.int .i64 (cutI t))).setCell ⟨w.heap.size + 1 + 1, 0, none⟩ (.slice (some ⟨g3, 0, none⟩) t.ws.length c3)).setCell ⟨w.heap.size + 1 + 1, 1, none⟩ (.slice (some ⟨g4, 0, none⟩) t.wear.length c4)).setCell ⟨w.heap.size + 1 + 1, 2, none⟩ (.int .i64 (t.en : Int))).setCell ⟨w.heap.size + 1 + 1, 3, none⟩ (.int .i64 (t.wr : Int))).setCell ⟨w.heap.size + 1 + 1, 4, none⟩ (.int .i64 (t.cu : Int))).setCell ⟨w.heap.size + 1 + 1, 5, none⟩ (.bool t.on)).setCell ⟨w.heap.size + 1 + 1, 6, none⟩ (.int .i64 (cutI t)) = w5 at *
  exact bodyPost_ret (results_cell2 rfl _ _ (w.heap.size + 1 + 1) 29 _ (0, 0) _ rfl hR Try.underlying29 rfl (by kernel_rfl)) rfl ⟨.slice (some ⟨g3, 0, none⟩) t.ws.length c3, .slice (some ⟨g4, 0, none⟩) t.wear.length c4, by unfold rrow; simp, hMM, ⟨hWW, hII⟩, hKK⟩

set_option maxRecDepth 100000 in
set_option maxHeartbeats 3200000 in
theorem do_flip {w : World} {X : Nat → Prop} {b g lf N : Nat} {s : St} {v1 v2 : Value} (hm : MA w b g s lf) (h : RV w X s v1 v2) (hb : X b) (hg : X g) (hX : ∀ k, X k → k < w.heap.size) (hF : Fine s N) (hN : N < 1000000) (a n : Int) (v : Nat) (ha : I64 a) (hn : I64 n) (hv : v < 4294967296) :
    Calls Try.prog 10 #[.pointer (some ⟨b, 0, none⟩), .agg (rrow v1 v2 s), .agg #[.int .i64 3, .int .i64 a, .int .i64 n, .int .u32 (v : Int)]] w (DoR b g X (flS s a n) w) := by
  have HW0 := Lib.hid h.ws
  have HI0 := Lib.hid h.we
  have hltb := hm.ltb
  have hltg := hm.ltg
  obtain ⟨g1, c1, rfl, _⟩ := h.ws
  obtain ⟨g2, c2, rfl, _⟩ := h.we
  have HB1 := Lib.hid (below_new3 w (.cells #[.slice (some ⟨g1, 0, none⟩) s.ws.length c1, .slice (some ⟨g2, 0, none⟩) s.wear.length c2, .int .i64 (s.en : Int), .int .i64 (s.wr : Int), .int .i64 (s.cu : Int), .bool s.on, .int .i64 (cutI s)] 29) (.cells #[.int .i64 3, .int .i64 a, .int .i64 n, .int .u32 (v : Int)] 37) (.cells #[.slice none 0 0, .slice none 0 0, .int .i64 0, .int .i64 0, .int .i64 0, .bool false, .int .i64 0] 29))
  have RA := Lib.hid (heap_new31 w #[.slice (some ⟨g1, 0, none⟩) s.ws.length c1, .slice (some ⟨g2, 0, none⟩) s.wear.length c2, .int .i64 (s.en : Int), .int .i64 (s.wr : Int), .int .i64 (s.cu : Int), .bool s.on, .int .i64 (cutI s)] 29 (.cells #[.int .i64 3, .int .i64 a, .int .i64 n, .int .u32 (v : Int)] 37) (.cells #[.slice none 0 0, .slice none 0 0, .int .i64 0, .int .i64 0, .int .i64 0, .bool false, .int .i64 0] 29))
  have RC := Lib.hid (heap_new32 w (.cells #[.slice (some ⟨g1, 0, none⟩) s.ws.length c1, .slice (some ⟨g2, 0, none⟩) s.wear.length c2, .int .i64 (s.en : Int), .int .i64 (s.wr : Int), .int .i64 (s.cu : Int), .bool s.on, .int .i64 (cutI s)] 29) #[.int .i64 3, .int .i64 a, .int .i64 n, .int .u32 (v : Int)] 37 (.cells #[.slice none 0 0, .slice none 0 0, .int .i64 0, .int .i64 0, .int .i64 0, .bool false, .int .i64 0] 29))
  have RB := Lib.hid (heap_new3 w (.cells #[.slice (some ⟨g1, 0, none⟩) s.ws.length c1, .slice (some ⟨g2, 0, none⟩) s.wear.length c2, .int .i64 (s.en : Int), .int .i64 (s.wr : Int), .int .i64 (s.cu : Int), .bool s.on, .int .i64 (cutI s)] 29) (.cells #[.int .i64 3, .int .i64 a, .int .i64 n, .int .u32 (v : Int)] 37) #[.slice none 0 0, .slice none 0 0, .int .i64 0, .int .i64 0, .int .i64 0, .bool false, .int .i64 0] 29)
  have HM := Lib.hid hm
  have HF := Lib.hid hF
  have HA : Hid (I64 a) := ha
  have HNN : Hid (I64 n) := hn
  clear h hm hF ha hn
  unfold rrow
  go_enter Try.func10, Try.ntmps10
  go_wp2_with fail
  generalize ((w.alloc (.cells #[.slice (some ⟨g1, 0, none⟩) s.ws.length c1, .slice (some ⟨g2, 0, none⟩) s.wear.length c2, .int .i64 (s.en : Int), .int .i64 (s.wr : Int), .int .i64 (s.cu : Int), .bool s.on, .int .i64 (cutI s)] 29)).alloc (.cells #[.int .i64 3, .int .i64 a, .int .i64 n, .int .u32 (v : Int)] 37)).alloc (.cells #[.slice none 0 0, .slice none 0 0, .int .i64 0, .int .i64 0, .int .i64 0, .bool false, .int .i64 0] 29) = w1 at *
  have HLT : Hid (w.heap.size + 3 ≤ w1.heap.size) := (Array.getElem?_eq_some_iff.1 RB.out).1
  have hm1 := HM.out.on HB1.out
  refine ((flip_any hm1 HF.out a n HA.out HNN.out).mono (fun e w2 (h : _ ∧ MA w2 b g (flS s a n) lf ∧ Kp b g w1 w2) => (⟨h.1, ⟨lf, h.2.1⟩, h.2.2⟩ : e = .returned (.int .i64 (flE s a n)) ∧ (∃ lf, MA w2 b g (flS s a n) lf) ∧ Kp b g w1 w2))).mono ?_
  rintro e w2 ⟨rfl, hm2, hk2⟩
  have HM2 := Lib.hid hm2
  have HK2 := Lib.hid hk2
  have HB3 : Hid (X3 X w.heap.size b) := .inl hb
  have HG3 : Hid (X3 X w.heap.size g) := .inl hg
  have hrv2 : RV w2 (X3 X w.heap.size) s (.slice (some ⟨g1, 0, none⟩) s.ws.length c1) (.slice (some ⟨g2, 0, none⟩) s.wear.length c2) := RV.kp ⟨HW0.out.lift3 HB1.out, HI0.out.lift3 HB1.out⟩ hk2 HB3.out HG3.out
  have HX3 : Hid (∀ k, X3 X w.heap.size k → k < w2.heap.size) := fun k hk => by
    have h1 := HLT.out; have h2 := hk2.size
    rcases hk with hk | hk
    · have := hX k hk; omega
    · omega
  have ra := (hk2.block w.heap.size (by have := HLT.out; omega) (by omega) (by omega)).trans RA.out
  have rc := (hk2.block (w.heap.size + 1) (by have := HLT.out; omega) (by omega) (by omega)).trans RC.out
  have rb := (hk2.block (w.heap.size + 1 + 1) (by have := HLT.out; omega) (by omega) (by omega)).trans RB.out
  have HRA2 := Lib.hid ra
  have HRB2 := Lib.hid rb
  have x0 := cell_of_row _ _ 0 _ _ _ ra
  have x1 := cell_of_row _ _ 1 _ _ _ ra
  have x2 := cell_of_row _ _ 2 _ _ _ ra
  have x3 := cell_of_row _ _ 3 _ _ _ ra
  have x4 := cell_of_row _ _ 4 _ _ _ ra
  have x5 := cell_of_row _ _ 5 _ _ _ ra
  have x6 := cell_of_row _ _ 6 _ _ _ ra
  have q0 := cell_of_row _ _ 0 _ _ _ rc
  have q1 := cell_of_row _ _ 1 _ _ _ rc
  have q2 := cell_of_row _ _ 2 _ _ _ rc
  have q3 := cell_of_row _ _ 3 _ _ _ rc
  have HRV2 := Lib.hid hrv2
  clear hm2 hk2 hrv2 ra rc rb hm1
  go_wp2_with fail
  refine (rflip_any HRV2.out HX3.out HF.out HM.out.n2 a n HA.out HNN.out).mono ?_
  rintro e w3 ⟨u1, u2, rfl, hrv3, hb3⟩
  obtain ⟨g3, c3, rfl, _⟩ := hrv3.ws
  obtain ⟨g4, c4, rfl, _⟩ := hrv3.we
  have HRV3 := Lib.hid hrv3
  have HM3 := Lib.hid (HM2.out.imp fun _ h => h.on hb3)
  have HK3 := Lib.hid (((Kp.of_below HB1.out : Kp b g w w1).trans HK2.out).trans (Kp.of_below hb3))
  have hltA : w.heap.size + 3 ≤ w2.heap.size := by have h1 := HLT.out; have h2 := HK2.out.size; omega
  have ra := (hb3.block w.heap.size (by omega)).trans HRA2.out
  have rb := (hb3.block (w.heap.size + 1 + 1) (by omega)).trans HRB2.out
  have HRB3 := Lib.hid rb
  generalize (flS s a n) = t at *
  have d0 := cell_of_row _ _ 0 _ _ _ ra
  have z0 := frozen_of_row _ _ 0 _ _ ra
  have e0 := cell_of_row _ _ 0 _ _ _ rb
  have y0 := frozen_of_row _ _ 0 _ _ rb
  have d1 := cell_of_row _ _ 1 _ _ _ ra
  have z1 := frozen_of_row _ _ 1 _ _ ra
  have e1 := cell_of_row _ _ 1 _ _ _ rb
  have y1 := frozen_of_row _ _ 1 _ _ rb
  have d2 := cell_of_row _ _ 2 _ _ _ ra
  have z2 := frozen_of_row _ _ 2 _ _ ra
  have e2 := cell_of_row _ _ 2 _ _ _ rb
  have y2 := frozen_of_row _ _ 2 _ _ rb
  have d3 := cell_of_row _ _ 3 _ _ _ ra
  have z3 := frozen_of_row _ _ 3 _ _ ra
  have e3 := cell_of_row _ _ 3 _ _ _ rb
  have y3 := frozen_of_row _ _ 3 _ _ rb
  have d4 := cell_of_row _ _ 4 _ _ _ ra
  have z4 := frozen_of_row _ _ 4 _ _ ra
  have e4 := cell_of_row _ _ 4 _ _ _ rb
  have y4 := frozen_of_row _ _ 4 _ _ rb
  have d5 := cell_of_row _ _ 5 _ _ _ ra
  have z5 := frozen_of_row _ _ 5 _ _ ra
  have e5 := cell_of_row _ _ 5 _ _ _ rb
  have y5 := frozen_of_row _ _ 5 _ _ rb
  have d6 := cell_of_row _ _ 6 _ _ _ ra
  have z6 := frozen_of_row _ _ 6 _ _ ra
  have e6 := cell_of_row _ _ 6 _ _ _ rb
  have y6 := frozen_of_row _ _ 6 _ _ rb
  clear hrv3 hb3 ra rb x0 x1 x2 x3 x4 x5 x6 q0 q1 q2 q3
  unfold rrow
  go_wp2_with fail
  have hR := row7_set (((((((w3.setCell ⟨w.heap.size, 0, none⟩ (.slice (some ⟨g3, 0, none⟩) t.ws.length c3)).setCell ⟨w.heap.size, 1, none⟩ (.slice (some ⟨g4, 0, none⟩) t.wear.length c4)).setCell ⟨w.heap.size, 2, none⟩ (.int .i64 (t.en : Int))).setCell ⟨w.heap.size, 3, none⟩ (.int .i64 (t.wr : Int))).setCell ⟨w.heap.size, 4, none⟩ (.int .i64 (t.cu : Int))).setCell ⟨w.heap.size, 5, none⟩ (.bool t.on)).setCell ⟨w.heap.size, 6, none⟩ (.int .i64 (cutI t))) (w.heap.size + 1 + 1) 29 _ _ _ _ _ _ _ (.slice (some ⟨g3, 0, none⟩) t.ws.length c3) (.slice (some ⟨g4, 0, none⟩) t.wear.length c4) (.int .i64 (t.en : Int)) (.int .i64 (t.wr : Int)) (.int .i64 (t.cu : Int)) (.bool t.on) (.int .i64 (cutI t)) ((blk_set7 (by omega) ..).trans HRB3.out)
  have hMM := HM3.out.imp fun _ h => (h.far7 (k := w.heap.size) (by omega) (by omega) (.slice (some ⟨g3, 0, none⟩) t.ws.length c3) (.slice (some ⟨g4, 0, none⟩) t.wear.length c4) (.int .i64 (t.en : Int)) (.int .i64 (t.wr : Int)) (.int .i64 (t.cu : Int)) (.bool t.on) (.int .i64 (cutI t))).far7 (k := w.heap.size + 1 + 1) (by omega) (by omega) (.slice (some ⟨g3, 0, none⟩) t.ws.length c3) (.slice (some ⟨g4, 0, none⟩) t.wear.length c4) (.int .i64 (t.en : Int)) (.int .i64 (t.wr : Int)) (.int .i64 (t.cu : Int)) (.bool t.on) (.int .i64 (cutI t))
  have hXA : X3 X w.heap.size w.heap.size := .inr ⟨by omega, by omega⟩
  have hXB : X3 X w.heap.size (w.heap.size + 1 + 1) := .inr ⟨by omega, by omega⟩
  have hWW := ((HRV3.out.ws.set7 hXA (.slice (some ⟨g3, 0, none⟩) t.ws.length c3) (.slice (some ⟨g4, 0, none⟩) t.wear.length c4) (.int .i64 (t.en : Int)) (.int .i64 (t.wr : Int)) (.int .i64 (t.cu : Int)) (.bool t.on) (.int .i64 (cutI t))).set7 hXB (.slice (some ⟨g3, 0, none⟩) t.ws.length c3) (.slice (some ⟨g4, 0, none⟩) t.wear.length c4) (.int .i64 (t.en : Int)) (.int .i64 (t.wr : Int)) (.int .i64 (t.cu : Int)) (.bool t.on) (.int .i64 (cutI t))).imp (Y := X) (fun k hk => .inl hk)
  have hII := ((HRV3.out.we.set7 hXA (.slice (some ⟨g3, 0, none⟩) t.ws.length c3) (.slice (some ⟨g4, 0, none⟩) t.wear.length c4) (.int .i64 (t.en : Int)) (.int .i64 (t.wr : Int)) (.int .i64 (t.cu : Int)) (.bool t.on) (.int .i64 (cutI t))).set7 hXB (.slice (some ⟨g3, 0, none⟩) t.ws.length c3) (.slice (some ⟨g4, 0, none⟩) t.wear.length c4) (.int .i64 (t.en : Int)) (.int .i64 (t.wr : Int)) (.int .i64 (t.cu : Int)) (.bool t.on) (.int .i64 (cutI t))).imp (Y := X) (fun k hk => .inl hk)
  have hKK := (HK3.out.far7 (k := w.heap.size) (Nat.le_refl _) (.slice (some ⟨g3, 0, none⟩) t.ws.length c3) (.slice (some ⟨g4, 0, none⟩) t.wear.length c4) (.int .i64 (t.en : Int)) (.int .i64 (t.wr : Int)) (.int .i64 (t.cu : Int)) (.bool t.on) (.int .i64 (cutI t))).far7 (k := w.heap.size + 1 + 1) (by omega) (.slice (some ⟨g3, 0, none⟩) t.ws.length c3) (.slice (some ⟨g4, 0, none⟩) t.wear.length c4) (.int .i64 (t.en : Int)) (.int .i64 (t.wr : Int)) (.int .i64 (t.cu : Int)) (.bool t.on) (.int .i64 (cutI t))
  clear HM3 HRV3 HK3 HRB3
  generalize (((((((((((((w3.setCell ⟨w.heap.size, 0, none⟩ (.slice (some ⟨g3, 0, none⟩) t.ws.length c3)).setCell ⟨w.heap.size, 1, none⟩ (.slice (some ⟨g4, 0, none⟩) t.wear.length c4)).setCell ⟨w.heap.size, 2, none⟩ (.int .i64 (t.en : Int))).setCell ⟨w.heap.size, 3, none⟩ (.int .i64 (t.wr : Int))).setCell ⟨w.heap.size, 4, none⟩ (.int .i64 (t.cu : Int))).setCell ⟨w.heap.size, 5, none⟩ (.bool t.on)).setCell ⟨w.heap.size, 6, none⟩ (.int .i64 (cutI t))).setCell ⟨w.heap.size + 1 + 1, 0, none⟩ (.slice (some ⟨g3, 0, none⟩) t.ws.length c3)).setCell ⟨w.heap.size + 1 + 1, 1, none⟩ (.slice (some ⟨g4, 0, none⟩) t.wear.length c4)).setCell ⟨w.heap.size + 1 + 1, 2, none⟩ (.int .i64 (t.en : Int))).setCell ⟨w.heap.size + 1 + 1, 3, none⟩ (.int .i64 (t.wr : Int))).setCell ⟨w.heap.size + 1 + 1, 4, none⟩ (.int .i64 (t.cu : Int))).setCell ⟨w.heap.size + 1 + 1, 5, none⟩ (.bool t.on)).setCell ⟨w.heap.size + 1 + 1, 6, none⟩ (.int .i64 (cutI t)) = w5 at *
  exact bodyPost_ret (results_cell2 rfl _ _ (w.heap.size + 1 + 1) 29 _ (0, 0) _ rfl hR Try.underlying29 rfl (by kernel_rfl)) rfl ⟨.slice (some ⟨g3, 0, none⟩) t.ws.length c3, .slice (some ⟨g4, 0, none⟩) t.wear.length c4, by unfold rrow; simp, hMM, ⟨hWW, hII⟩, hKK⟩

set_option maxRecDepth 100000 in
set_option maxHeartbeats 3200000 in
theorem do_restore {w : World} {X : Nat → Prop} {b g lf N : Nat} {s : St} {v1 v2 : Value} (hm : MA w b g s lf) (h : RV w X s v1 v2) (hb : X b) (hg : X g) (hX : ∀ k, X k → k < w.heap.size) (hF : Fine s N) (hN : N < 1000000) (a n : Int) (v : Nat) (ha : I64 a) (hn : I64 n) (hv : v < 4294967296) :
    Calls Try.prog 10 #[.pointer (some ⟨b, 0, none⟩), .agg (rrow v1 v2 s), .agg #[.int .i64 2, .int .i64 a, .int .i64 n, .int .u32 (v : Int)]] w (DoR b g X (resS s) w) := by
  have HW0 := Lib.hid h.ws
  have HI0 := Lib.hid h.we
  have hltb := hm.ltb
  have hltg := hm.ltg
  obtain ⟨g1, c1, rfl, _⟩ := h.ws
  obtain ⟨g2, c2, rfl, _⟩ := h.we
  have HB1 := Lib.hid (below_new3 w (.cells #[.slice (some ⟨g1, 0, none⟩) s.ws.length c1, .slice (some ⟨g2, 0, none⟩) s.wear.length c2, .int .i64 (s.en : Int), .int .i64 (s.wr : Int), .int .i64 (s.cu : Int), .bool s.on, .int .i64 (cutI s)] 29) (.cells #[.int .i64 2, .int .i64 a, .int .i64 n, .int .u32 (v : Int)] 37) (.cells #[.slice none 0 0, .slice none 0 0, .int .i64 0, .int .i64 0, .int .i64 0, .bool false, .int .i64 0] 29))
  have RA := Lib.hid (heap_new31 w #[.slice (some ⟨g1, 0, none⟩) s.ws.length c1, .slice (some ⟨g2, 0, none⟩) s.wear.length c2, .int .i64 (s.en : Int), .int .i64 (s.wr : Int), .int .i64 (s.cu : Int), .bool s.on, .int .i64 (cutI s)] 29 (.cells #[.int .i64 2, .int .i64 a, .int .i64 n, .int .u32 (v : Int)] 37) (.cells #[.slice none 0 0, .slice none 0 0, .int .i64 0, .int .i64 0, .int .i64 0, .bool false, .int .i64 0] 29))
  have RC := Lib.hid (heap_new32 w (.cells #[.slice (some ⟨g1, 0, none⟩) s.ws.length c1, .slice (some ⟨g2, 0, none⟩) s.wear.length c2, .int .i64 (s.en : Int), .int .i64 (s.wr : Int), .int .i64 (s.cu : Int), .bool s.on, .int .i64 (cutI s)] 29) #[.int .i64 2, .int .i64 a, .int .i64 n, .int .u32 (v : Int)] 37 (.cells #[.slice none 0 0, .slice none 0 0, .int .i64 0, .int .i64 0, .int .i64 0, .bool false, .int .i64 0] 29))
  have RB := Lib.hid (heap_new3 w (.cells #[.slice (some ⟨g1, 0, none⟩) s.ws.length c1, .slice (some ⟨g2, 0, none⟩) s.wear.length c2, .int .i64 (s.en : Int), .int .i64 (s.wr : Int), .int .i64 (s.cu : Int), .bool s.on, .int .i64 (cutI s)] 29) (.cells #[.int .i64 2, .int .i64 a, .int .i64 n, .int .u32 (v : Int)] 37) #[.slice none 0 0, .slice none 0 0, .int .i64 0, .int .i64 0, .int .i64 0, .bool false, .int .i64 0] 29)
  have HM := Lib.hid hm
  have HF := Lib.hid hF
  have HA : Hid (I64 a) := ha
  have HNN : Hid (I64 n) := hn
  clear h hm hF ha hn
  unfold rrow
  go_enter Try.func10, Try.ntmps10
  go_wp2_with fail
  generalize ((w.alloc (.cells #[.slice (some ⟨g1, 0, none⟩) s.ws.length c1, .slice (some ⟨g2, 0, none⟩) s.wear.length c2, .int .i64 (s.en : Int), .int .i64 (s.wr : Int), .int .i64 (s.cu : Int), .bool s.on, .int .i64 (cutI s)] 29)).alloc (.cells #[.int .i64 2, .int .i64 a, .int .i64 n, .int .u32 (v : Int)] 37)).alloc (.cells #[.slice none 0 0, .slice none 0 0, .int .i64 0, .int .i64 0, .int .i64 0, .bool false, .int .i64 0] 29) = w1 at *
  have HLT : Hid (w.heap.size + 3 ≤ w1.heap.size) := (Array.getElem?_eq_some_iff.1 RB.out).1
  have hm1 := HM.out.on HB1.out
  refine ((restore_any hm1).mono (fun e w2 (h : _ ∧ MA w2 b g (resS s) lf ∧ Kp b g w1 w2) => (⟨h.1, ⟨lf, h.2.1⟩, h.2.2⟩ : e = .returned (.tuple #[]) ∧ (∃ lf, MA w2 b g (resS s) lf) ∧ Kp b g w1 w2))).mono ?_
  rintro e w2 ⟨rfl, hm2, hk2⟩
  have HM2 := Lib.hid hm2
  have HK2 := Lib.hid hk2
  have HB3 : Hid (X3 X w.heap.size b) := .inl hb
  have HG3 : Hid (X3 X w.heap.size g) := .inl hg
  have hrv2 : RV w2 (X3 X w.heap.size) s (.slice (some ⟨g1, 0, none⟩) s.ws.length c1) (.slice (some ⟨g2, 0, none⟩) s.wear.length c2) := RV.kp ⟨HW0.out.lift3 HB1.out, HI0.out.lift3 HB1.out⟩ hk2 HB3.out HG3.out
  have HX3 : Hid (∀ k, X3 X w.heap.size k → k < w2.heap.size) := fun k hk => by
    have h1 := HLT.out; have h2 := hk2.size
    rcases hk with hk | hk
    · have := hX k hk; omega
    · omega
  have ra := (hk2.block w.heap.size (by have := HLT.out; omega) (by omega) (by omega)).trans RA.out
  have rc := (hk2.block (w.heap.size + 1) (by have := HLT.out; omega) (by omega) (by omega)).trans RC.out
  have rb := (hk2.block (w.heap.size + 1 + 1) (by have := HLT.out; omega) (by omega) (by omega)).trans RB.out
  have HRA2 := Lib.hid ra
  have HRB2 := Lib.hid rb
  have x0 := cell_of_row _ _ 0 _ _ _ ra
  have x1 := cell_of_row _ _ 1 _ _ _ ra
  have x2 := cell_of_row _ _ 2 _ _ _ ra
  have x3 := cell_of_row _ _ 3 _ _ _ ra
  have x4 := cell_of_row _ _ 4 _ _ _ ra
  have x5 := cell_of_row _ _ 5 _ _ _ ra
  have x6 := cell_of_row _ _ 6 _ _ _ ra
  have q0 := cell_of_row _ _ 0 _ _ _ rc
  have q1 := cell_of_row _ _ 1 _ _ _ rc
  have q2 := cell_of_row _ _ 2 _ _ _ rc
  have q3 := cell_of_row _ _ 3 _ _ _ rc
  have HRV2 := Lib.hid hrv2
  clear hm2 hk2 hrv2 ra rc rb hm1
  go_wp2_with fail
  refine (rrestoreR_any HRV2.out).mono ?_
  rintro e w3 ⟨u1, u2, rfl, hrv3, hb3⟩
  obtain ⟨g3, c3, rfl, _⟩ := hrv3.ws
  obtain ⟨g4, c4, rfl, _⟩ := hrv3.we
  have HRV3 := Lib.hid hrv3
  have HM3 := Lib.hid (HM2.out.imp fun _ h => h.on hb3)
  have HK3 := Lib.hid (((Kp.of_below HB1.out : Kp b g w w1).trans HK2.out).trans (Kp.of_below hb3))
  have hltA : w.heap.size + 3 ≤ w2.heap.size := by have h1 := HLT.out; have h2 := HK2.out.size; omega
  have ra := (hb3.block w.heap.size (by omega)).trans HRA2.out
  have rb := (hb3.block (w.heap.size + 1 + 1) (by omega)).trans HRB2.out
  have HRB3 := Lib.hid rb
  generalize (resS s) = t at *
  have d0 := cell_of_row _ _ 0 _ _ _ ra
  have z0 := frozen_of_row _ _ 0 _ _ ra
  have e0 := cell_of_row _ _ 0 _ _ _ rb
  have y0 := frozen_of_row _ _ 0 _ _ rb
  have d1 := cell_of_row _ _ 1 _ _ _ ra
  have z1 := frozen_of_row _ _ 1 _ _ ra
  have e1 := cell_of_row _ _ 1 _ _ _ rb
  have y1 := frozen_of_row _ _ 1 _ _ rb
  have d2 := cell_of_row _ _ 2 _ _ _ ra
  have z2 := frozen_of_row _ _ 2 _ _ ra
  have e2 := cell_of_row _ _ 2 _ _ _ rb
  have y2 := frozen_of_row _ _ 2 _ _ rb
  have d3 := cell_of_row _ _ 3 _ _ _ ra
  have z3 := frozen_of_row _ _ 3 _ _ ra
  have e3 := cell_of_row _ _ 3 _ _ _ rb
  have y3 := frozen_of_row _ _ 3 _ _ rb
  have d4 := cell_of_row _ _ 4 _ _ _ ra
  have z4 := frozen_of_row _ _ 4 _ _ ra
  have e4 := cell_of_row _ _ 4 _ _ _ rb
  have y4 := frozen_of_row _ _ 4 _ _ rb
  have d5 := cell_of_row _ _ 5 _ _ _ ra
  have z5 := frozen_of_row _ _ 5 _ _ ra
  have e5 := cell_of_row _ _ 5 _ _ _ rb
  have y5 := frozen_of_row _ _ 5 _ _ rb
  have d6 := cell_of_row _ _ 6 _ _ _ ra
  have z6 := frozen_of_row _ _ 6 _ _ ra
  have e6 := cell_of_row _ _ 6 _ _ _ rb
  have y6 := frozen_of_row _ _ 6 _ _ rb
  clear hrv3 hb3 ra rb x0 x1 x2 x3 x4 x5 x6 q0 q1 q2 q3
  unfold rrow
  go_wp2_with fail
  have hR := row7_set (((((((w3.setCell ⟨w.heap.size, 0, none⟩ (.slice (some ⟨g3, 0, none⟩) t.ws.length c3)).setCell ⟨w.heap.size, 1, none⟩ (.slice (some ⟨g4, 0, none⟩) t.wear.length c4)).setCell ⟨w.heap.size, 2, none⟩ (.int .i64 (t.en : Int))).setCell ⟨w.heap.size, 3, none⟩ (.int .i64 (t.wr : Int))).setCell ⟨w.heap.size, 4, none⟩ (.int .i64 (t.cu : Int))).setCell ⟨w.heap.size, 5, none⟩ (.bool t.on)).setCell ⟨w.heap.size, 6, none⟩ (.int .i64 (cutI t))) (w.heap.size + 1 + 1) 29 _ _ _ _ _ _ _ (.slice (some ⟨g3, 0, none⟩) t.ws.length c3) (.slice (some ⟨g4, 0, none⟩) t.wear.length c4) (.int .i64 (t.en : Int)) (.int .i64 (t.wr : Int)) (.int .i64 (t.cu : Int)) (.bool t.on) (.int .i64 (cutI t)) ((blk_set7 (by omega) ..).trans HRB3.out)
  have hMM := HM3.out.imp fun _ h => (h.far7 (k := w.heap.size) (by omega) (by omega) (.slice (some ⟨g3, 0, none⟩) t.ws.length c3) (.slice (some ⟨g4, 0, none⟩) t.wear.length c4) (.int .i64 (t.en : Int)) (.int .i64 (t.wr : Int)) (.int .i64 (t.cu : Int)) (.bool t.on) (.int .i64 (cutI t))).far7 (k := w.heap.size + 1 + 1) (by omega) (by omega) (.slice (some ⟨g3, 0, none⟩) t.ws.length c3) (.slice (some ⟨g4, 0, none⟩) t.wear.length c4) (.int .i64 (t.en : Int)) (.int .i64 (t.wr : Int)) (.int .i64 (t.cu : Int)) (.bool t.on) (.int .i64 (cutI t))
  have hXA : X3 X w.heap.size w.heap.size := .inr ⟨by omega, by omega⟩
  have hXB : X3 X w.heap.size (w.heap.size + 1 + 1) := .inr ⟨by omega, by omega⟩
  have hWW := ((HRV3.out.ws.set7 hXA (.slice (some ⟨g3, 0, none⟩) t.ws.length c3) (.slice (some ⟨g4, 0, none⟩) t.wear.length c4) (.int .i64 (t.en : Int)) (.int .i64 (t.wr : Int)) (.int .i64 (t.cu : Int)) (.bool t.on) (.int .i64 (cutI t))).set7 hXB (.slice (some ⟨g3, 0, none⟩) t.ws.length c3) (.slice (some ⟨g4, 0, none⟩) t.wear.length c4) (.int .i64 (t.en : Int)) (.int .i64 (t.wr : Int)) (.int .i64 (t.cu : Int)) (.bool t.on) (.int .i64 (cutI t))).imp (Y := X) (fun k hk => .inl hk)
  have hII := ((HRV3.out.we.set7 hXA (.slice (some ⟨g3, 0, none⟩) t.ws.length c3) (.slice (some ⟨g4, 0, none⟩) t.wear.length c4) (.int .i64 (t.en : Int)) (.int .i64 (t.wr : Int)) (.int .i64 (t.cu : Int)) (.bool t.on) (.int .i64 (cutI t))).set7 hXB (.slice (some ⟨g3, 0, none⟩) t.ws.length c3) (.slice (some ⟨g4, 0, none⟩) t.wear.length c4) (.int .i64 (t.en : Int)) (.int .i64 (t.wr : Int)) (.int .i64 (t.cu : Int)) (.bool t.on) (.int .i64 (cutI t))).imp (Y := X) (fun k hk => .inl hk)
  have hKK := (HK3.out.far7 (k := w.heap.size) (Nat.le_refl _) (.slice (some ⟨g3, 0, none⟩) t.ws.length c3) (.slice (some ⟨g4, 0, none⟩) t.wear.length c4) (.int .i64 (t.en : Int)) (.int .i64 (t.wr : Int)) (.int .i64 (t.cu : Int)) (.bool t.on) (.int .i64 (cutI t))).far7 (k := w.heap.size + 1 + 1) (by omega) (.slice (some ⟨g3, 0, none⟩) t.ws.length c3) (.slice (some ⟨g4, 0, none⟩) t.wear.length c4) (.int .i64 (t.en : Int)) (.int .i64 (t.wr : Int)) (.int .i64 (t.cu : Int)) (.bool t.on) (.int .i64 (cutI t))
  clear HM3 HRV3 HK3 HRB3
  generalize (((((((((((((w3.setCell ⟨w.heap.size, 0, none⟩ (.slice (some ⟨g3, 0, none⟩) t.ws.length c3)).setCell ⟨w.heap.size, 1, none⟩ (.slice (some ⟨g4, 0, none⟩) t.wear.length c4)).setCell ⟨w.heap.size, 2, none⟩ (.int .i64 (t.en : Int))).setCell ⟨w.heap.size, 3, none⟩ (.int .i64 (t.wr : Int))).setCell ⟨w.heap.size, 4, none⟩ (.int .i64 (t.cu : Int))).setCell ⟨w.heap.size, 5, none⟩ (.bool t.on)).setCell ⟨w.heap.size, 6, none⟩ (.int .i64 (cutI t))).setCell ⟨w.heap.size + 1 + 1, 0, none⟩ (.slice (some ⟨g3, 0, none⟩) t.ws.length c3)).setCell ⟨w.heap.size + 1 + 1, 1, none⟩ (.slice (some ⟨g4, 0, none⟩) t.wear.length c4)).setCell ⟨w.heap.size + 1 + 1, 2, none⟩ (.int .i64 (t.en : Int))).setCell ⟨w.heap.size + 1 + 1, 3, none⟩ (.int .i64 (t.wr : Int))).setCell ⟨w.heap.size + 1 + 1, 4, none⟩ (.int .i64 (t.cu : Int))).setCell ⟨w.heap.size + 1 + 1, 5, none⟩ (.bool t.on)).setCell ⟨w.heap.size + 1 + 1, 6, none⟩ (.int .i64 (cutI t)) = w5 at *
  exact bodyPost_ret (results_cell2 rfl _ _ (w.heap.size + 1 + 1) 29 _ (0, 0) _ rfl hR Try.underlying29 rfl (by kernel_rfl)) rfl ⟨.slice (some ⟨g3, 0, none⟩) t.ws.length c3, .slice (some ⟨g4, 0, none⟩) t.wear.length c4, by unfold rrow; simp, hMM, ⟨hWW, hII⟩, hKK⟩

set_option maxRecDepth 100000 in
set_option maxHeartbeats 3200000 in
theorem do_read {w : World} {X : Nat → Prop} {b g lf N : Nat} {s : St} {v1 v2 : Value} (hm : MA w b g s lf) (h : RV w X s v1 v2) (hb : X b) (hg : X g) (hX : ∀ k, X k → k < w.heap.size) (hF : Fine s N) (hN : N < 1000000) (a n : Int) (v : Nat) (ha : I64 a) (hn : I64 n) (hv : v < 4294967296) :
    Calls Try.prog 10 #[.pointer (some ⟨b, 0, none⟩), .agg (rrow v1 v2 s), .agg #[.int .i64 4, .int .i64 a, .int .i64 n, .int .u32 (v : Int)]] w (DoR b g X s w) := by
  have HW0 := Lib.hid h.ws
  have HI0 := Lib.hid h.we
  have hltb := hm.ltb
  have hltg := hm.ltg
  obtain ⟨g1, c1, rfl, _⟩ := h.ws
  obtain ⟨g2, c2, rfl, _⟩ := h.we
  have HB1 := Lib.hid (below_new3 w (.cells #[.slice (some ⟨g1, 0, none⟩) s.ws.length c1, .slice (some ⟨g2, 0, none⟩) s.wear.length c2, .int .i64 (s.en : Int), .int .i64 (s.wr : Int), .int .i64 (s.cu : Int), .bool s.on, .int .i64 (cutI s)] 29) (.cells #[.int .i64 4, .int .i64 a, .int .i64 n, .int .u32 (v : Int)] 37) (.cells #[.slice none 0 0, .slice none 0 0, .int .i64 0, .int .i64 0, .int .i64 0, .bool false, .int .i64 0] 29))
  have RA := Lib.hid (heap_new31 w #[.slice (some ⟨g1, 0, none⟩) s.ws.length c1, .slice (some ⟨g2, 0, none⟩) s.wear.length c2, .int .i64 (s.en : Int), .int .i64 (s.wr : Int), .int .i64 (s.cu : Int), .bool s.on, .int .i64 (cutI s)] 29 (.cells #[.int .i64 4, .int .i64 a, .int .i64 n, .int .u32 (v : Int)] 37) (.cells #[.slice none 0 0, .slice none 0 0, .int .i64 0, .int .i64 0, .int .i64 0, .bool false, .int .i64 0] 29))
  have RC := Lib.hid (heap_new32 w (.cells #[.slice (some ⟨g1, 0, none⟩) s.ws.length c1, .slice (some ⟨g2, 0, none⟩) s.wear.length c2, .int .i64 (s.en : Int), .int .i64 (s.wr : Int), .int .i64 (s.cu : Int), .bool s.on, .int .i64 (cutI s)] 29) #[.int .i64 4, .int .i64 a, .int .i64 n, .int .u32 (v : Int)] 37 (.cells #[.slice none 0 0, .slice none 0 0, .int .i64 0, .int .i64 0, .int .i64 0, .bool false, .int .i64 0] 29))
  have RB := Lib.hid (heap_new3 w (.cells #[.slice (some ⟨g1, 0, none⟩) s.ws.length c1, .slice (some ⟨g2, 0, none⟩) s.wear.length c2, .int .i64 (s.en : Int), .int .i64 (s.wr : Int), .int .i64 (s.cu : Int), .bool s.on, .int .i64 (cutI s)] 29) (.cells #[.int .i64 4, .int .i64 a, .int .i64 n, .int .u32 (v : Int)] 37) #[.slice none 0 0, .slice none 0 0, .int .i64 0, .int .i64 0, .int .i64 0, .bool false, .int .i64 0] 29)
  have HM := Lib.hid hm
  have HF := Lib.hid hF
  have HA : Hid (I64 a) := ha
  have HNN : Hid (I64 n) := hn
  clear h hm hF ha hn
  unfold rrow
  go_enter Try.func10, Try.ntmps10
  go_wp2_with fail
  generalize ((w.alloc (.cells #[.slice (some ⟨g1, 0, none⟩) s.ws.length c1, .slice (some ⟨g2, 0, none⟩) s.wear.length c2, .int .i64 (s.en : Int), .int .i64 (s.wr : Int), .int .i64 (s.cu : Int), .bool s.on, .int .i64 (cutI s)] 29)).alloc (.cells #[.int .i64 4, .int .i64 a, .int .i64 n, .int .u32 (v : Int)] 37)).alloc (.cells #[.slice none 0 0, .slice none 0 0, .int .i64 0, .int .i64 0, .int .i64 0, .bool false, .int .i64 0] 29) = w1 at *
  have HLT : Hid (w.heap.size + 3 ≤ w1.heap.size) := (Array.getElem?_eq_some_iff.1 RB.out).1
  have hm1 := HM.out.on HB1.out
  refine ((read_any hm1 a HA.out).mono (fun e w2 h => (⟨h.1, ⟨lf, h.2 ▸ hm1⟩, h.2 ▸ Kp.refl b g w1⟩ : e = .returned (.tuple #[.int .u32 (rdV s a), .int .i64 (accE s a)]) ∧ (∃ lf, MA w2 b g s lf) ∧ Kp b g w1 w2))).mono ?_
  rintro e w2 ⟨rfl, hm2, hk2⟩
  have HM2 := Lib.hid hm2
  have HK2 := Lib.hid hk2
  have HB3 : Hid (X3 X w.heap.size b) := .inl hb
  have HG3 : Hid (X3 X w.heap.size g) := .inl hg
  have hrv2 : RV w2 (X3 X w.heap.size) s (.slice (some ⟨g1, 0, none⟩) s.ws.length c1) (.slice (some ⟨g2, 0, none⟩) s.wear.length c2) := RV.kp ⟨HW0.out.lift3 HB1.out, HI0.out.lift3 HB1.out⟩ hk2 HB3.out HG3.out
  have HX3 : Hid (∀ k, X3 X w.heap.size k → k < w2.heap.size) := fun k hk => by
    have h1 := HLT.out; have h2 := hk2.size
    rcases hk with hk | hk
    · have := hX k hk; omega
    · omega
  have ra := (hk2.block w.heap.size (by have := HLT.out; omega) (by omega) (by omega)).trans RA.out
  have rc := (hk2.block (w.heap.size + 1) (by have := HLT.out; omega) (by omega) (by omega)).trans RC.out
  have rb := (hk2.block (w.heap.size + 1 + 1) (by have := HLT.out; omega) (by omega) (by omega)).trans RB.out
  have HRA2 := Lib.hid ra
  have HRB2 := Lib.hid rb
  have x0 := cell_of_row _ _ 0 _ _ _ ra
  have x1 := cell_of_row _ _ 1 _ _ _ ra
  have x2 := cell_of_row _ _ 2 _ _ _ ra
  have x3 := cell_of_row _ _ 3 _ _ _ ra
  have x4 := cell_of_row _ _ 4 _ _ _ ra
  have x5 := cell_of_row _ _ 5 _ _ _ ra
  have x6 := cell_of_row _ _ 6 _ _ _ ra
  have q0 := cell_of_row _ _ 0 _ _ _ rc
  have q1 := cell_of_row _ _ 1 _ _ _ rc
  have q2 := cell_of_row _ _ 2 _ _ _ rc
  have q3 := cell_of_row _ _ 3 _ _ _ rc
  have HRV2 := Lib.hid hrv2
  clear hm2 hk2 hrv2 ra rc rb hm1
  go_wp2_with fail
  refine ((rread_any HRV2.out a HA.out HM.out.n2)).mono ?_
  rintro e w3 ⟨rfl, hb3⟩
  have HRV3 := Lib.hid (HRV2.out.below hb3)
  have HM3 := Lib.hid (HM2.out.imp fun _ h => h.on hb3)
  have HK3 := Lib.hid (((Kp.of_below HB1.out : Kp b g w w1).trans HK2.out).trans (Kp.of_below hb3))
  have hltA : w.heap.size + 3 ≤ w2.heap.size := by have h1 := HLT.out; have h2 := HK2.out.size; omega
  have ra := (hb3.block w.heap.size (by omega)).trans HRA2.out
  have rb := (hb3.block (w.heap.size + 1 + 1) (by omega)).trans HRB2.out
  have HRB3 := Lib.hid rb
  have d0 := cell_of_row _ _ 0 _ _ _ ra
  have z0 := frozen_of_row _ _ 0 _ _ ra
  have e0 := cell_of_row _ _ 0 _ _ _ rb
  have y0 := frozen_of_row _ _ 0 _ _ rb
  have d1 := cell_of_row _ _ 1 _ _ _ ra
  have z1 := frozen_of_row _ _ 1 _ _ ra
  have e1 := cell_of_row _ _ 1 _ _ _ rb
  have y1 := frozen_of_row _ _ 1 _ _ rb
  have d2 := cell_of_row _ _ 2 _ _ _ ra
  have z2 := frozen_of_row _ _ 2 _ _ ra
  have e2 := cell_of_row _ _ 2 _ _ _ rb
  have y2 := frozen_of_row _ _ 2 _ _ rb
  have d3 := cell_of_row _ _ 3 _ _ _ ra
  have z3 := frozen_of_row _ _ 3 _ _ ra
  have e3 := cell_of_row _ _ 3 _ _ _ rb
  have y3 := frozen_of_row _ _ 3 _ _ rb
  have d4 := cell_of_row _ _ 4 _ _ _ ra
  have z4 := frozen_of_row _ _ 4 _ _ ra
  have e4 := cell_of_row _ _ 4 _ _ _ rb
  have y4 := frozen_of_row _ _ 4 _ _ rb
  have d5 := cell_of_row _ _ 5 _ _ _ ra
  have z5 := frozen_of_row _ _ 5 _ _ ra
  have e5 := cell_of_row _ _ 5 _ _ _ rb
  have y5 := frozen_of_row _ _ 5 _ _ rb
  have d6 := cell_of_row _ _ 6 _ _ _ ra
  have z6 := frozen_of_row _ _ 6 _ _ ra
  have e6 := cell_of_row _ _ 6 _ _ _ rb
  have y6 := frozen_of_row _ _ 6 _ _ rb
  clear hb3 ra rb x0 x1 x2 x3 x4 x5 x6 q0 q1 q2 q3
  go_wp2_with fail
  have hR := row7_set w3 (w.heap.size + 1 + 1) 29 _ _ _ _ _ _ _ (.slice (some ⟨g1, 0, none⟩) s.ws.length c1) (.slice (some ⟨g2, 0, none⟩) s.wear.length c2) (.int .i64 (s.en : Int)) (.int .i64 (s.wr : Int)) (.int .i64 (s.cu : Int)) (.bool s.on) (.int .i64 (cutI s)) HRB3.out
  have hMM := HM3.out.imp fun _ h => h.far7 (k := w.heap.size + 1 + 1) (by omega) (by omega) (.slice (some ⟨g1, 0, none⟩) s.ws.length c1) (.slice (some ⟨g2, 0, none⟩) s.wear.length c2) (.int .i64 (s.en : Int)) (.int .i64 (s.wr : Int)) (.int .i64 (s.cu : Int)) (.bool s.on) (.int .i64 (cutI s))
  have hXB : X3 X w.heap.size (w.heap.size + 1 + 1) := .inr ⟨by omega, by omega⟩
  have hWW := (HRV3.out.ws.set7 hXB (.slice (some ⟨g1, 0, none⟩) s.ws.length c1) (.slice (some ⟨g2, 0, none⟩) s.wear.length c2) (.int .i64 (s.en : Int)) (.int .i64 (s.wr : Int)) (.int .i64 (s.cu : Int)) (.bool s.on) (.int .i64 (cutI s))).imp (Y := X) (fun k hk => .inl hk)
  have hII := (HRV3.out.we.set7 hXB (.slice (some ⟨g1, 0, none⟩) s.ws.length c1) (.slice (some ⟨g2, 0, none⟩) s.wear.length c2) (.int .i64 (s.en : Int)) (.int .i64 (s.wr : Int)) (.int .i64 (s.cu : Int)) (.bool s.on) (.int .i64 (cutI s))).imp (Y := X) (fun k hk => .inl hk)
  have hKK := HK3.out.far7 (k := w.heap.size + 1 + 1) (by omega) (.slice (some ⟨g1, 0, none⟩) s.ws.length c1) (.slice (some ⟨g2, 0, none⟩) s.wear.length c2) (.int .i64 (s.en : Int)) (.int .i64 (s.wr : Int)) (.int .i64 (s.cu : Int)) (.bool s.on) (.int .i64 (cutI s))
  clear HM3 HRV3 HK3 HRB3
  generalize ((((((w3.setCell ⟨w.heap.size + 1 + 1, 0, none⟩ (.slice (some ⟨g1, 0, none⟩) s.ws.length c1)).setCell ⟨w.heap.size + 1 + 1, 1, none⟩ (.slice (some ⟨g2, 0, none⟩) s.wear.length c2)).setCell ⟨w.heap.size + 1 + 1, 2, none⟩ (.int .i64 (s.en : Int))).setCell ⟨w.heap.size + 1 + 1, 3, none⟩ (.int .i64 (s.wr : Int))).setCell ⟨w.heap.size + 1 + 1, 4, none⟩ (.int .i64 (s.cu : Int))).setCell ⟨w.heap.size + 1 + 1, 5, none⟩ (.bool s.on)).setCell ⟨w.heap.size + 1 + 1, 6, none⟩ (.int .i64 (cutI s)) = w5 at *
  exact bodyPost_ret (results_cell2 rfl _ _ (w.heap.size + 1 + 1) 29 _ (0, 0) _ rfl hR Try.underlying29 rfl (by kernel_rfl)) rfl ⟨.slice (some ⟨g1, 0, none⟩) s.ws.length c1, .slice (some ⟨g2, 0, none⟩) s.wear.length c2, by unfold rrow; simp, hMM, ⟨hWW, hII⟩, hKK⟩

set_option maxRecDepth 100000 in
set_option maxHeartbeats 3200000 in
theorem do_other {w : World} {X : Nat → Prop} {b g lf : Nat} {s : St} {v1 v2 : Value} (hm : MA w b g s lf) (h : RV w X s v1 v2) (o a n : Int) (v : Nat) (h0 : o ≠ 0) (h1 : o ≠ 1) (h2 : o ≠ 2) (h3 : o ≠ 3) (h4 : o ≠ 4) :
    Calls Try.prog 10 #[.pointer (some ⟨b, 0, none⟩), .agg (rrow v1 v2 s), .agg #[.int .i64 o, .int .i64 a, .int .i64 n, .int .u32 (v : Int)]] w (DoR b g X s w) := by
  have HM := Lib.hid hm
  have HR := Lib.hid h
  obtain ⟨g1, c1, rfl, _⟩ := h.ws
  obtain ⟨g2, c2, rfl, _⟩ := h.we
  clear h hm
  have p0 : (o == 0) = false := beq_eq_false_iff_ne.2 h0
  have p1 : (o == 1) = false := beq_eq_false_iff_ne.2 h1
  have p2 : (o == 2) = false := beq_eq_false_iff_ne.2 h2
  have p3 : (o == 3) = false := beq_eq_false_iff_ne.2 h3
  have p4 : (o == 4) = false := beq_eq_false_iff_ne.2 h4
  unfold rrow
  go_enter Try.func10, Try.ntmps10
  go_wp2_with fail
  exact bodyPost_ret (results_cell2 rfl _ _ (w.heap.size + 1 + 1) 29 _ (0, 0) _ rfl (heap_new3 ..) Try.underlying29 rfl (by kernel_rfl)) rfl ⟨.slice (some ⟨g1, 0, none⟩) s.ws.length c1, .slice (some ⟨g2, 0, none⟩) s.wear.length c2, by unfold rrow; simp, ⟨lf, HM.out.on (below_new3 ..)⟩, HR.out.below (below_new3 ..), Kp.of_below (below_new3 ..)⟩
end Go.Proofs.Ytcojoohbhkhlnaa
