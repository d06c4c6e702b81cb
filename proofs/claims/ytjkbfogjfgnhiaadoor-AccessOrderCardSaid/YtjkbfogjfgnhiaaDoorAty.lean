/-
  The walks of the reference's implied, Implies.
-/
import Derived.Test.YtjkbfogjfgnhiaaDoorAtx
namespace Go.Proofs.YtjkbfogjfgnhiaaDoor
set_option linter.unusedVariables false
set_option linter.unusedSimpArgs false
open Go.RowKit

section
variable {P : Program} {ops : Array Oper} {md : Region.Mode} {Q : Exit → Act → World → Prop}
/-- An operation taken first, its guard decided. -/
theorem wpAnyH_takeG {S : World → Prop} (i d : Nat) (v : Value) {oi : Oper} {fuel : Nat} {listed : Array Bool} {T : Array Value} {ds : List Deferred} {w : World} (hi : ops[i]? = some oi) (hdst : oi.dst = some d)
    (hs : Region.noSelect ops = true) (hf : Region.free md ops listed i = true) (hr : (Region.ready md ops listed).contains i = true)
    (hQ : ∀ c a w, Q (.panic c) (Act.put a oi.dst v) w → Q (.panic c) a w) (hg : Region.wanted oi (yielded ops T) = true) (hy : ∀ w, S w → (execOp ({ tmps := T, defers := ds } : Act).eval oi).run P w = .ok (.value v) w) (hS : S w)
    (h : wpAnyH P md ops Q S fuel (listed.setIfInBounds i true) { tmps := T.setIfInBounds d v, defers := ds } w) : wpAnyH P md ops Q S (fuel + 1) listed { tmps := T, defers := ds } w := by
  refine wpAnyH_take (v := v) hi hs hf hr (fun c a w => hQ c a w) (.inl ⟨hg, hy⟩) hS ?_
  rw [hdst]
  exact h
/-- The one operation that may come up, its guard decided. -/
theorem wpAnyH_oneG {S : World → Prop} {i fuel : Nat} {o : Oper} {listed : Array Bool} {a : Act} {w : World} (hr : Region.ready md ops listed = [i]) (hi : ops[i]? = some o) (hg : Region.wanted o (yielded ops a.tmps) = true)
    (h : ∀ K : Act → World → Prop, (∀ a' w', S w' → wpAnyH P md ops Q S fuel (listed.setIfInBounds i true) a' w' → K a' w') → o.wp P a w K Q) : wpAnyH P md ops Q S (fuel + 1) listed a w := by
  refine wpAnyH_all hr (by simp) fun j hj => ?_
  obtain rfl : j = i := by simpa using hj
  unfold wpOp
  simp only [hi, hg, if_true]
  exact .inl (h _ fun a' w' h1 h2 => ⟨h1, h2⟩)
/-- An operation taken first that its guard does not want. -/
theorem wpAnyH_takeU {S : World → Prop} (i d : Nat) {oi : Oper} {fuel : Nat} {listed : Array Bool} {T : Array Value} {ds : List Deferred} {w : World} (hi : ops[i]? = some oi) (hdst : oi.dst = some d)
    (hs : Region.noSelect ops = true) (hf : Region.free md ops listed i = true) (hr : (Region.ready md ops listed).contains i = true)
    (hQ : ∀ c a w, Q (.panic c) (Act.put a oi.dst undef) w → Q (.panic c) a w) (hg : Region.wanted oi (yielded ops T) = false) (hS : S w)
    (h : wpAnyH P md ops Q S fuel (listed.setIfInBounds i true) { tmps := T.setIfInBounds d undef, defers := ds } w) : wpAnyH P md ops Q S (fuel + 1) listed { tmps := T, defers := ds } w := by
  refine wpAnyH_take (v := undef) hi hs hf hr (fun c a w => hQ c a w) (.inr ⟨hg, rfl⟩) hS ?_
  rw [hdst]
  exact h
end
/-- The three boxes of a call, in a later world. -/
structure Rows3 (w W : World) (X Y Z : Obj) : Prop where
  bel : Below w.heap.size w W
  r0 : W.heap[w.heap.size]? = some X
  r1 : W.heap[w.heap.size + 1]? = some Y
  r2 : W.heap[w.heap.size + 1 + 1]? = some Z
  sz : w.heap.size + 3 ≤ W.heap.size
theorem Rows3.start (w : World) (X Y Z : Obj) : Rows3 w (((w.alloc X).alloc Y).alloc Z) X Y Z := by
  have h2 := TwoB.start w X Y
  have hz : ((w.alloc X).alloc Y).heap.size = w.heap.size + 1 + 1 := by rw [alloc_size, alloc_size]
  have hb := alloc_below ((w.alloc X).alloc Y) Z
  exact ⟨below_new3 w X Y Z, (hb.block _ (by omega)).trans h2.r0, (hb.block _ (by omega)).trans h2.r1, heap_new3 w X Y Z, by rw [alloc_size]; omega⟩
theorem Rows3.on {w W W' : World} {X Y Z : Obj} (h : Rows3 w W X Y Z) (hb : Below W.heap.size W W') : Rows3 w W' X Y Z :=
  ⟨h.bel.trans (hb.mono h.bel.size), (hb.block _ (by have := h.sz; omega)).trans h.r0, (hb.block _ (by have := h.sz; omega)).trans h.r1, (hb.block _ (by have := h.sz; omega)).trans h.r2, Nat.le_trans h.sz hb.size⟩
theorem Rows3.drew {w W : World} {X Y Z : Obj} (h : Rows3 w W X Y Z) : Rows3 w W.drew X Y Z := ⟨h.bel.drew, h.r0, h.r1, h.r2, h.sz⟩
theorem Rows3.undrew {w W : World} {X Y Z : Obj} (h : Rows3 w W.drew X Y Z) : Rows3 w W X Y Z := ⟨⟨h.bel.os, h.bel.tape, h.bel.output, h.bel.size, h.bel.block⟩, h.r0, h.r1, h.r2, h.sz⟩
theorem AL.head {w : World} {B n c b o : Nat} {x : Ato} {l : List Ato} (h : AL w B (.slice (some ⟨b, o, none⟩) n c) (x :: l)) : b < B ∧ AtAt w b o x ∧ n = l.length + 1 ∧ l.length + 1 ≤ c ∧ AL w B (.slice (some ⟨b, o + 3, none⟩) l.length (c - 1)) l ∧ (c = 1 → AL w B (.slice (some ⟨b, o, none⟩) l.length 0) l) := by
  obtain ⟨A, c', hv, h1, h2, h3⟩ := h
  obtain ⟨rfl, hn, rfl⟩ : some (⟨b, o, none⟩ : Addr) = A ∧ n = (x :: l).length ∧ c = c' := by simpa using hv
  obtain ⟨b', o', hA, hb, ht⟩ := h3.out (by simp)
  obtain ⟨rfl, rfl⟩ : b = b' ∧ o = o' := by simpa using hA
  have h0 := ht 0 (by simp)
  rw [List.length_cons] at h1 hn
  refine ⟨hb, by simpa using h0, hn, h1, ⟨_, _, rfl, by omega, by omega, fun hp => ⟨b, o + 3, rfl, hb, fun k hk => ?_⟩⟩, fun hc => ⟨_, _, rfl, by omega, Nat.zero_le _, fun hp => absurd hp (by omega)⟩⟩
  have := ht (k + 1) (by simp; omega)
  rw [show o + 3 + k * 3 = o + (k + 1) * 3 by omega]
  simpa using this
def ImpdC (a b : Cn) (l : List Ato) : Prop := ∀ (s : Sc) (va vb vl : Value) (w : World), (∀ x ∈ l, x.good) → s.bd l.length → KL w w.heap.size va a.kids → KL w w.heap.size vb b.kids → AL w w.heap.size vl l →
  Calls Tryd.prog 52 #[.agg #[.int .i64 a.op, .int .i64 a.n, va], .agg #[.int .i64 b.op, .int .i64 b.n, vb], vl, .agg #[.int .i64 s.pins, .int .i64 s.keys, .int .i64 s.state, .int .i64 s.level]] w fun e w' => e = .returned (.bool (impR a b l s)) ∧ Below w.heap.size w w'

set_option maxRecDepth 100000 in
set_option maxHeartbeats 3200000 in
theorem impd_nil (a b : Cn) (hoa : a.ok = true) (hob : b.ok = true) : ImpdC a b [] := by
  intro s va vb vl w hg hbd ha hb hl
  obtain ⟨A1, c1, rfl, _, _, _⟩ := id ha
  obtain ⟨A2, c2, rfl, _, _, _⟩ := id hb
  obtain ⟨A3, c3, rfl, _, hc3, _⟩ := id hl
  unfold maxLen at hc3
  have HS1 := Lib.hid fun (W : World) (hW : Below w.heap.size w W) => rs_any (a.dep + 1) a (by omega) s _ W hoa (ha.on hW)
  have HS2 := Lib.hid fun (W : World) (hW : Below w.heap.size w W) => rs_any (b.dep + 1) b (by omega) s _ W hob (hb.on hW)
  have hr : impR a b [] s = (!a.sat s || b.sat s) := by rw [impR]
  rw [hr]
  clear hr ha hb hl hbd hg
  generalize a.sat s = X at *
  generalize b.sat s = Y at *
  have HB3 := Lib.hid (below_new3 w (Obj.cells #[Value.int IntKind.i64 a.op, Value.int IntKind.i64 a.n, Value.slice A1 a.kids.length c1] 24) (Obj.cells #[Value.int IntKind.i64 b.op, Value.int IntKind.i64 b.n, Value.slice A2 b.kids.length c2] 24) (Obj.cells #[Value.int IntKind.i64 s.pins, Value.int IntKind.i64 s.keys, Value.int IntKind.i64 s.state, Value.int IntKind.i64 s.level] 31))
  have HR := Lib.hid (Rows3.start w (Obj.cells #[Value.int IntKind.i64 a.op, Value.int IntKind.i64 a.n, Value.slice A1 a.kids.length c1] 24) (Obj.cells #[Value.int IntKind.i64 b.op, Value.int IntKind.i64 b.n, Value.slice A2 b.kids.length c2] 24) (Obj.cells #[Value.int IntKind.i64 s.pins, Value.int IntKind.i64 s.keys, Value.int IntKind.i64 s.state, Value.int IntKind.i64 s.level] 31))
  go_enter Tryd.func52, Tryd.ntmps52
  go_wp2_with fail
  refine (HS1.out _ HB3.out).mono ?_
  rintro e w1 ⟨rfl, hb1⟩
  have hr1 := HR.out.on hb1
  have q0 := cell_of_row _ _ 0 _ _ _ hr1.r1
  have q1 := cell_of_row _ _ 1 _ _ _ hr1.r1
  have q2 := cell_of_row _ _ 2 _ _ _ hr1.r1
  have q3 := cell_of_row _ _ 0 _ _ _ hr1.r2
  have q4 := cell_of_row _ _ 1 _ _ _ hr1.r2
  have q5 := cell_of_row _ _ 2 _ _ _ hr1.r2
  have q6 := cell_of_row _ _ 3 _ _ _ hr1.r2
  have HR1 := Lib.hid hr1
  clear hb1 hr1
  cases X with
  | false =>
    go_wp2_with fail
    go_ret
    exact ⟨rfl, HR1.out.bel⟩
  | true =>
    go_wp2_with fail
    refine (HS2.out _ HR1.out.bel).mono ?_
    rintro e w2 ⟨rfl, hb2⟩
    go_wp2_with fail
    go_ret
    exact ⟨rfl, (HR1.out.on hb2).bel⟩
set_option maxRecDepth 100000 in
set_option maxHeartbeats 6400000 in
theorem impd_one (a b : Cn) (x : Ato) (l : List Ato) (ih : ImpdC a b l) (s : Sc) (A1 A2 : Option Addr) (c1 c2 b3 o3 n3 c3 : Nat) (w : World) (hg : ∀ y ∈ x :: l, y.good) (hbd : s.bd (l.length + 1)) (ha : KL w w.heap.size (.slice A1 a.kids.length c1) a.kids) (hb : KL w w.heap.size (.slice A2 b.kids.length c2) b.kids)
    (hl : AL w w.heap.size (.slice (some ⟨b3, o3, none⟩) n3 c3) (x :: l)) (hc : c3 = 1) :
    Calls Tryd.prog 52 #[.agg #[.int .i64 a.op, .int .i64 a.n, .slice A1 a.kids.length c1], .agg #[.int .i64 b.op, .int .i64 b.n, .slice A2 b.kids.length c2], .slice (some ⟨b3, o3, none⟩) n3 c3, .agg #[.int .i64 s.pins, .int .i64 s.keys, .int .i64 s.state, .int .i64 s.level]] w fun e w' => e = .returned (.bool (impR a b (x :: l) s)) ∧ Below w.heap.size w w' := by
  obtain ⟨hb3, hx, rfl, hlen, htl, htl1⟩ := hl.head
  have hc3 : c3 ≤ 9223372036854775807 := by
    obtain ⟨A', c', hv', _, h2', _⟩ := id hl
    obtain ⟨_, _, rfl⟩ := Value.slice.inj hv'
    unfold maxLen at h2'
    omega
  have hr : impR a b (x :: l) s = (impR a b l s && impR a b l (s.wit x.op x.n)) := by rw [impR]
  rw [hr]
  subst hc
  obtain rfl : l = [] := List.eq_nil_of_length_eq_zero (by omega)
  have htt := htl1 rfl
  simp only [List.length_nil, Nat.zero_add] at hbd htt ⊢
  have hgx := hg x (by simp)
  have hgl : ∀ y ∈ ([] : List Ato), y.good := fun y hy => by cases hy
  have HX : Hid (∀ W, Below w.heap.size w W → AtAt W b3 o3 x) := fun W hW => hx.keep hb3 fun _ hp => hW.cell hp
  have HI1 := Lib.hid fun (W : World) (hW : Below w.heap.size w W) => ih s _ _ _ W hgl (bd_less hbd) (ha.on hW) (hb.on hW) (htt.on hW)
  have HI2 := Lib.hid fun (W : World) (hW : Below w.heap.size w W) => ih (s.wit x.op x.n) _ _ _ W hgl (bd_wit hgx hbd) (ha.on hW) (hb.on hW) (htt.on hW)
  have HW := Lib.hid fun (W : World) => wit_any x hgx s W (by unfold Sc.bd at *; omega)
  clear hr ha hb hl hbd hg hgl hgx ih hx htl htl1 htt
  obtain ⟨s', hs'⟩ : ∃ s', s' = s.wit x.op x.n := ⟨_, rfl⟩
  rw [← hs'] at HI2 HW ⊢
  clear hs'
  generalize impR a b [] s = X at *
  generalize impR a b [] s' = Y at *
  have HS : Hid (∀ W, Rows3 w W (Obj.cells #[Value.int IntKind.i64 a.op, Value.int IntKind.i64 a.n, Value.slice A1 a.kids.length c1] 24) (Obj.cells #[Value.int IntKind.i64 b.op, Value.int IntKind.i64 b.n, Value.slice A2 b.kids.length c2] 24) (Obj.cells #[Value.int IntKind.i64 s.pins, Value.int IntKind.i64 s.keys, Value.int IntKind.i64 s.state, Value.int IntKind.i64 s.level] 31) → W.cell? ⟨w.heap.size, 0, none⟩ = some (.int .i64 a.op) ∧ W.cell? ⟨w.heap.size, 1, none⟩ = some (.int .i64 a.n) ∧ W.cell? ⟨w.heap.size, 2, none⟩ = some (.slice A1 a.kids.length c1) ∧ W.cell? ⟨w.heap.size + 1, 0, none⟩ = some (.int .i64 b.op) ∧ W.cell? ⟨w.heap.size + 1, 1, none⟩ = some (.int .i64 b.n) ∧ W.cell? ⟨w.heap.size + 1, 2, none⟩ = some (.slice A2 b.kids.length c2) ∧ W.cell? ⟨w.heap.size + 1 + 1, 0, none⟩ = some (.int .i64 s.pins) ∧ W.cell? ⟨w.heap.size + 1 + 1, 1, none⟩ = some (.int .i64 s.keys) ∧ W.cell? ⟨w.heap.size + 1 + 1, 2, none⟩ = some (.int .i64 s.state) ∧ W.cell? ⟨w.heap.size + 1 + 1, 3, none⟩ = some (.int .i64 s.level) ∧ W.cell? ⟨b3, o3, none⟩ = some (.int .i64 x.op) ∧ W.cell? ⟨b3, o3 + 1, none⟩ = some (.int .i64 x.n) ∧ W.cell? ⟨b3, o3 + 2, none⟩ = some (.slice none 0 0)) := fun W hW =>
    ⟨cell_of_row _ _ 0 _ _ _ hW.r0, cell_of_row _ _ 1 _ _ _ hW.r0, cell_of_row _ _ 2 _ _ _ hW.r0, cell_of_row _ _ 0 _ _ _ hW.r1, cell_of_row _ _ 1 _ _ _ hW.r1, cell_of_row _ _ 2 _ _ _ hW.r1, cell_of_row _ _ 0 _ _ _ hW.r2, cell_of_row _ _ 1 _ _ _ hW.r2, cell_of_row _ _ 2 _ _ _ hW.r2, cell_of_row _ _ 3 _ _ _ hW.r2, HX.out W hW.bel⟩
  have HR := Lib.hid (Rows3.start w (Obj.cells #[Value.int IntKind.i64 a.op, Value.int IntKind.i64 a.n, Value.slice A1 a.kids.length c1] 24) (Obj.cells #[Value.int IntKind.i64 b.op, Value.int IntKind.i64 b.n, Value.slice A2 b.kids.length c2] 24) (Obj.cells #[Value.int IntKind.i64 s.pins, Value.int IntKind.i64 s.keys, Value.int IntKind.i64 s.state, Value.int IntKind.i64 s.level] 31))
  go_enter Tryd.func52, Tryd.ntmps52
  go_wp2_with fail
  have ht := HR.out
  generalize (((w.alloc (Obj.cells #[Value.int IntKind.i64 a.op, Value.int IntKind.i64 a.n, Value.slice A1 a.kids.length c1] 24)).alloc (Obj.cells #[Value.int IntKind.i64 b.op, Value.int IntKind.i64 b.n, Value.slice A2 b.kids.length c2] 24)).alloc (Obj.cells #[Value.int IntKind.i64 s.pins, Value.int IntKind.i64 s.keys, Value.int IntKind.i64 s.state, Value.int IntKind.i64 s.level] 31)) = w1 at *
  have htd := ht.drew
  clear HR ht
  obtain ⟨m0, m1, m2, m3, m4, m5, m6, m7, m8, m9, m10, m11, m12⟩ := HS.out _ (show Rows3 w w1 _ _ _ from htd.undrew)
  cases X with
  | false =>
    refine wp_region_held_drew (S := (fun w' => w'.cell? ⟨w.heap.size, 0, none⟩ = some (.int .i64 a.op) ∧ w'.cell? ⟨w.heap.size, 1, none⟩ = some (.int .i64 a.n) ∧ w'.cell? ⟨w.heap.size, 2, none⟩ = some (.slice A1 a.kids.length c1) ∧ w'.cell? ⟨w.heap.size + 1, 0, none⟩ = some (.int .i64 b.op) ∧ w'.cell? ⟨w.heap.size + 1, 1, none⟩ = some (.int .i64 b.n) ∧ w'.cell? ⟨w.heap.size + 1, 2, none⟩ = some (.slice A2 b.kids.length c2) ∧ w'.cell? ⟨w.heap.size + 1 + 1, 0, none⟩ = some (.int .i64 s.pins) ∧ w'.cell? ⟨w.heap.size + 1 + 1, 1, none⟩ = some (.int .i64 s.keys) ∧ w'.cell? ⟨w.heap.size + 1 + 1, 2, none⟩ = some (.int .i64 s.state) ∧ w'.cell? ⟨w.heap.size + 1 + 1, 3, none⟩ = some (.int .i64 s.level) ∧ w'.cell? ⟨b3, o3, none⟩ = some (.int .i64 x.op) ∧ w'.cell? ⟨b3, o3 + 1, none⟩ = some (.int .i64 x.n) ∧ w'.cell? ⟨b3, o3 + 2, none⟩ = some (.slice none 0 0))) (by kernel_rfl) (HS.out _ htd) (fun hHeld => ?_)
    change wpAnyH _ _ _ _ _ 19 (Array.replicate 19 false) _ w1.drew
    refine wpAnyH_takeG 0 21 (.agg #[.int .i64 a.op, .int .i64 a.n, .slice A1 a.kids.length c1]) rfl rfl (by kernel_rfl) (by kernel_rfl) (by kernel_rfl) (fun _ _ _ h => h) rfl ?_ (HS.out _ htd) ?_
    · rintro w ⟨s0, s1, s2, s3, s4, s5, s6, s7, s8, s9, s10, s11, s12⟩
      go_simp
      try with_reducible rfl
    try simp only [Act.put, List.setIfInBounds_toArray, List.set_cons_zero, List.set_cons_succ]
    refine wpAnyH_takeG 1 22 (.agg #[.int .i64 b.op, .int .i64 b.n, .slice A2 b.kids.length c2]) rfl rfl (by kernel_rfl) (by kernel_rfl) (by kernel_rfl) (fun _ _ _ h => h) rfl ?_ (HS.out _ htd) ?_
    · rintro w ⟨s0, s1, s2, s3, s4, s5, s6, s7, s8, s9, s10, s11, s12⟩
      go_simp
      try with_reducible rfl
    try simp only [Act.put, List.setIfInBounds_toArray, List.set_cons_zero, List.set_cons_succ]
    refine wpAnyH_takeG 2 23 (.slice (some ⟨b3, o3, none⟩) 1 1) rfl rfl (by kernel_rfl) (by kernel_rfl) (by kernel_rfl) (fun _ _ _ h => h) rfl ?_ (HS.out _ htd) ?_
    · rintro w ⟨s0, s1, s2, s3, s4, s5, s6, s7, s8, s9, s10, s11, s12⟩
      go_simp
      try with_reducible rfl
    try simp only [Act.put, List.setIfInBounds_toArray, List.set_cons_zero, List.set_cons_succ]
    refine wpAnyH_takeG 3 24 (.slice (some ⟨b3, o3, none⟩) 0 0) rfl rfl (by kernel_rfl) (by kernel_rfl) (by kernel_rfl) (fun _ _ _ h => h) rfl ?_ (HS.out _ htd) ?_
    · rintro w ⟨s0, s1, s2, s3, s4, s5, s6, s7, s8, s9, s10, s11, s12⟩
      go_simp
      try with_reducible rfl
    try simp only [Act.put, List.setIfInBounds_toArray, List.set_cons_zero, List.set_cons_succ]
    refine wpAnyH_takeG 4 25 (.agg #[.int .i64 s.pins, .int .i64 s.keys, .int .i64 s.state, .int .i64 s.level]) rfl rfl (by kernel_rfl) (by kernel_rfl) (by kernel_rfl) (fun _ _ _ h => h) rfl ?_ (HS.out _ htd) ?_
    · rintro w ⟨s0, s1, s2, s3, s4, s5, s6, s7, s8, s9, s10, s11, s12⟩
      go_simp
      try with_reducible rfl
    try simp only [Act.put, List.setIfInBounds_toArray, List.set_cons_zero, List.set_cons_succ]
    refine wpAnyH_oneG (i := 5) (by kernel_rfl) rfl rfl ?_
    intro Kx hKx
    go_simp
    refine (HI1.out _ htd.bel).mono ?_
    rintro e w3 ⟨rfl, hb3'⟩
    have ht3 := htd.on hb3'
    clear hb3'
    dsimp only
    refine hKx _ _ (HS.out _ ht3) ?_
    clear hKx Kx
    try simp only [Act.put, List.setIfInBounds_toArray, List.set_cons_zero, List.set_cons_succ]
    refine wpAnyH_takeG 6 27 (.bool false) rfl rfl (by kernel_rfl) (by kernel_rfl) (by kernel_rfl) (fun _ _ _ h => h) rfl ?_ (HS.out _ ht3) ?_
    · rintro w ⟨s0, s1, s2, s3, s4, s5, s6, s7, s8, s9, s10, s11, s12⟩
      go_simp
      try with_reducible rfl
    try simp only [Act.put, List.setIfInBounds_toArray, List.set_cons_zero, List.set_cons_succ]
    refine wpAnyH_takeU 7 28 rfl rfl (by kernel_rfl) (by kernel_rfl) (by kernel_rfl) (fun _ _ _ h => h) rfl (HS.out _ ht3) ?_
    try simp only [Act.put, List.setIfInBounds_toArray, List.set_cons_zero, List.set_cons_succ]
    refine wpAnyH_takeU 8 29 rfl rfl (by kernel_rfl) (by kernel_rfl) (by kernel_rfl) (fun _ _ _ h => h) rfl (HS.out _ ht3) ?_
    try simp only [Act.put, List.setIfInBounds_toArray, List.set_cons_zero, List.set_cons_succ]
    refine wpAnyH_takeU 9 30 rfl rfl (by kernel_rfl) (by kernel_rfl) (by kernel_rfl) (fun _ _ _ h => h) rfl (HS.out _ ht3) ?_
    try simp only [Act.put, List.setIfInBounds_toArray, List.set_cons_zero, List.set_cons_succ]
    refine wpAnyH_takeU 10 31 rfl rfl (by kernel_rfl) (by kernel_rfl) (by kernel_rfl) (fun _ _ _ h => h) rfl (HS.out _ ht3) ?_
    try simp only [Act.put, List.setIfInBounds_toArray, List.set_cons_zero, List.set_cons_succ]
    refine wpAnyH_takeU 11 32 rfl rfl (by kernel_rfl) (by kernel_rfl) (by kernel_rfl) (fun _ _ _ h => h) rfl (HS.out _ ht3) ?_
    try simp only [Act.put, List.setIfInBounds_toArray, List.set_cons_zero, List.set_cons_succ]
    refine wpAnyH_takeU 12 33 rfl rfl (by kernel_rfl) (by kernel_rfl) (by kernel_rfl) (fun _ _ _ h => h) rfl (HS.out _ ht3) ?_
    try simp only [Act.put, List.setIfInBounds_toArray, List.set_cons_zero, List.set_cons_succ]
    refine wpAnyH_takeU 13 34 rfl rfl (by kernel_rfl) (by kernel_rfl) (by kernel_rfl) (fun _ _ _ h => h) rfl (HS.out _ ht3) ?_
    try simp only [Act.put, List.setIfInBounds_toArray, List.set_cons_zero, List.set_cons_succ]
    refine wpAnyH_takeU 14 35 rfl rfl (by kernel_rfl) (by kernel_rfl) (by kernel_rfl) (fun _ _ _ h => h) rfl (HS.out _ ht3) ?_
    try simp only [Act.put, List.setIfInBounds_toArray, List.set_cons_zero, List.set_cons_succ]
    refine wpAnyH_takeU 15 36 rfl rfl (by kernel_rfl) (by kernel_rfl) (by kernel_rfl) (fun _ _ _ h => h) rfl (HS.out _ ht3) ?_
    try simp only [Act.put, List.setIfInBounds_toArray, List.set_cons_zero, List.set_cons_succ]
    refine wpAnyH_takeU 16 37 rfl rfl (by kernel_rfl) (by kernel_rfl) (by kernel_rfl) (fun _ _ _ h => h) rfl (HS.out _ ht3) ?_
    try simp only [Act.put, List.setIfInBounds_toArray, List.set_cons_zero, List.set_cons_succ]
    refine wpAnyH_takeG 17 38 (.bool false) rfl rfl (by kernel_rfl) (by kernel_rfl) (by kernel_rfl) (fun _ _ _ h => h) rfl ?_ (HS.out _ ht3) ?_
    · rintro w ⟨s0, s1, s2, s3, s4, s5, s6, s7, s8, s9, s10, s11, s12⟩
      go_simp
      try with_reducible rfl
    try simp only [Act.put, List.setIfInBounds_toArray, List.set_cons_zero, List.set_cons_succ]
    refine wpAnyH_oneG (i := 18) (by kernel_rfl) rfl rfl ?_
    intro Kx hKx
    go_simp
    refine hKx _ _ (HS.out _ ht3) ?_
    clear hKx Kx
    try simp only [Act.put, List.setIfInBounds_toArray, List.set_cons_zero, List.set_cons_succ]
    refine wpAnyH_done (by kernel_rfl) ?_ _
    go_wp2_with fail
    go_ret
    exact ⟨rfl, ht3.bel⟩
  | true =>
    go_region_held3 (fun w' => w'.cell? ⟨w.heap.size, 0, none⟩ = some (.int .i64 a.op) ∧ w'.cell? ⟨w.heap.size, 1, none⟩ = some (.int .i64 a.n) ∧ w'.cell? ⟨w.heap.size, 2, none⟩ = some (.slice A1 a.kids.length c1) ∧ w'.cell? ⟨w.heap.size + 1, 0, none⟩ = some (.int .i64 b.op) ∧ w'.cell? ⟨w.heap.size + 1, 1, none⟩ = some (.int .i64 b.n) ∧ w'.cell? ⟨w.heap.size + 1, 2, none⟩ = some (.slice A2 b.kids.length c2) ∧ w'.cell? ⟨w.heap.size + 1 + 1, 0, none⟩ = some (.int .i64 s.pins) ∧ w'.cell? ⟨w.heap.size + 1 + 1, 1, none⟩ = some (.int .i64 s.keys) ∧ w'.cell? ⟨w.heap.size + 1 + 1, 2, none⟩ = some (.int .i64 s.state) ∧ w'.cell? ⟨w.heap.size + 1 + 1, 3, none⟩ = some (.int .i64 s.level) ∧ w'.cell? ⟨b3, o3, none⟩ = some (.int .i64 x.op) ∧ w'.cell? ⟨b3, o3 + 1, none⟩ = some (.int .i64 x.n) ∧ w'.cell? ⟨b3, o3 + 2, none⟩ = some (.slice none 0 0))
      (first
        | (go_keep; done)
        | exact HS.out _ htd
        | exact HS.out _ ht3
        | exact HS.out _ ht4
        | exact HS.out _ ht5)
      (first
        | (go_at_call 52; (with_reducible refine (HI1.out _ htd.bel).mono ?_); rintro e w3 ⟨rfl, hb3'⟩; have ht3 := htd.on hb3'; clear hb3')
        | (go_at_call 76; (with_reducible refine (HW.out _).mono ?_); rintro e w4 ⟨rfl, hb4'⟩; have ht4 := ht3.on hb4'; clear hb4')
        | (go_at_call 52; (with_reducible refine (HI2.out _ ht4.bel).mono ?_); rintro e w5 ⟨rfl, hb5'⟩; have ht5 := ht4.on hb5'; clear hb5'))
    go_wp2_with fail
    go_ret
    exact ⟨rfl, ht5.bel⟩
set_option maxRecDepth 100000 in
set_option maxHeartbeats 6400000 in
theorem impd_more (a b : Cn) (x : Ato) (l : List Ato) (ih : ImpdC a b l) (s : Sc) (A1 A2 : Option Addr) (c1 c2 b3 o3 n3 c3 : Nat) (w : World) (hg : ∀ y ∈ x :: l, y.good) (hbd : s.bd (l.length + 1)) (ha : KL w w.heap.size (.slice A1 a.kids.length c1) a.kids) (hb : KL w w.heap.size (.slice A2 b.kids.length c2) b.kids)
    (hl : AL w w.heap.size (.slice (some ⟨b3, o3, none⟩) n3 c3) (x :: l)) (hc : c3 ≠ 1) :
    Calls Tryd.prog 52 #[.agg #[.int .i64 a.op, .int .i64 a.n, .slice A1 a.kids.length c1], .agg #[.int .i64 b.op, .int .i64 b.n, .slice A2 b.kids.length c2], .slice (some ⟨b3, o3, none⟩) n3 c3, .agg #[.int .i64 s.pins, .int .i64 s.keys, .int .i64 s.state, .int .i64 s.level]] w fun e w' => e = .returned (.bool (impR a b (x :: l) s)) ∧ Below w.heap.size w w' := by
  obtain ⟨hb3, hx, rfl, hlen, htl, htl1⟩ := hl.head
  have hc3 : c3 ≤ 9223372036854775807 := by
    obtain ⟨A', c', hv', _, h2', _⟩ := id hl
    obtain ⟨_, _, rfl⟩ := Value.slice.inj hv'
    unfold maxLen at h2'
    omega
  have hr : impR a b (x :: l) s = (impR a b l s && impR a b l (s.wit x.op x.n)) := by rw [impR]
  rw [hr]
  have htt := htl
  have hgx := hg x (by simp)
  have hgl : ∀ y ∈ l, y.good := fun y hy => hg y (by simp [hy])
  have HX : Hid (∀ W, Below w.heap.size w W → AtAt W b3 o3 x) := fun W hW => hx.keep hb3 fun _ hp => hW.cell hp
  have HI1 := Lib.hid fun (W : World) (hW : Below w.heap.size w W) => ih s _ _ _ W hgl (bd_less hbd) (ha.on hW) (hb.on hW) (htt.on hW)
  have HI2 := Lib.hid fun (W : World) (hW : Below w.heap.size w W) => ih (s.wit x.op x.n) _ _ _ W hgl (bd_wit hgx hbd) (ha.on hW) (hb.on hW) (htt.on hW)
  have HW := Lib.hid fun (W : World) => wit_any x hgx s W (by unfold Sc.bd at *; omega)
  clear hr ha hb hl hbd hg hgl hgx ih hx htl htl1 htt
  obtain ⟨s', hs'⟩ : ∃ s', s' = s.wit x.op x.n := ⟨_, rfl⟩
  rw [← hs'] at HI2 HW ⊢
  clear hs'
  generalize impR a b l s = X at *
  generalize impR a b l s' = Y at *
  have HS : Hid (∀ W, Rows3 w W (Obj.cells #[Value.int IntKind.i64 a.op, Value.int IntKind.i64 a.n, Value.slice A1 a.kids.length c1] 24) (Obj.cells #[Value.int IntKind.i64 b.op, Value.int IntKind.i64 b.n, Value.slice A2 b.kids.length c2] 24) (Obj.cells #[Value.int IntKind.i64 s.pins, Value.int IntKind.i64 s.keys, Value.int IntKind.i64 s.state, Value.int IntKind.i64 s.level] 31) → W.cell? ⟨w.heap.size, 0, none⟩ = some (.int .i64 a.op) ∧ W.cell? ⟨w.heap.size, 1, none⟩ = some (.int .i64 a.n) ∧ W.cell? ⟨w.heap.size, 2, none⟩ = some (.slice A1 a.kids.length c1) ∧ W.cell? ⟨w.heap.size + 1, 0, none⟩ = some (.int .i64 b.op) ∧ W.cell? ⟨w.heap.size + 1, 1, none⟩ = some (.int .i64 b.n) ∧ W.cell? ⟨w.heap.size + 1, 2, none⟩ = some (.slice A2 b.kids.length c2) ∧ W.cell? ⟨w.heap.size + 1 + 1, 0, none⟩ = some (.int .i64 s.pins) ∧ W.cell? ⟨w.heap.size + 1 + 1, 1, none⟩ = some (.int .i64 s.keys) ∧ W.cell? ⟨w.heap.size + 1 + 1, 2, none⟩ = some (.int .i64 s.state) ∧ W.cell? ⟨w.heap.size + 1 + 1, 3, none⟩ = some (.int .i64 s.level) ∧ W.cell? ⟨b3, o3, none⟩ = some (.int .i64 x.op) ∧ W.cell? ⟨b3, o3 + 1, none⟩ = some (.int .i64 x.n) ∧ W.cell? ⟨b3, o3 + 2, none⟩ = some (.slice none 0 0)) := fun W hW =>
    ⟨cell_of_row _ _ 0 _ _ _ hW.r0, cell_of_row _ _ 1 _ _ _ hW.r0, cell_of_row _ _ 2 _ _ _ hW.r0, cell_of_row _ _ 0 _ _ _ hW.r1, cell_of_row _ _ 1 _ _ _ hW.r1, cell_of_row _ _ 2 _ _ _ hW.r1, cell_of_row _ _ 0 _ _ _ hW.r2, cell_of_row _ _ 1 _ _ _ hW.r2, cell_of_row _ _ 2 _ _ _ hW.r2, cell_of_row _ _ 3 _ _ _ hW.r2, HX.out W hW.bel⟩
  have HR := Lib.hid (Rows3.start w (Obj.cells #[Value.int IntKind.i64 a.op, Value.int IntKind.i64 a.n, Value.slice A1 a.kids.length c1] 24) (Obj.cells #[Value.int IntKind.i64 b.op, Value.int IntKind.i64 b.n, Value.slice A2 b.kids.length c2] 24) (Obj.cells #[Value.int IntKind.i64 s.pins, Value.int IntKind.i64 s.keys, Value.int IntKind.i64 s.state, Value.int IntKind.i64 s.level] 31))
  generalize l.length = m at *
  have hm1 : (1 : Int) ≤ ((m + 1 : Nat) : Int) := by omega
  have hm2 : (1 : Int) ≤ (m : Int) + 1 := by omega
  have hm3 : (0 : Int) < ((m + 1 : Nat) : Int) := by omega
  go_enter Tryd.func52, Tryd.ntmps52
  go_wp2_with fail
  have ht := HR.out
  generalize (((w.alloc (Obj.cells #[Value.int IntKind.i64 a.op, Value.int IntKind.i64 a.n, Value.slice A1 a.kids.length c1] 24)).alloc (Obj.cells #[Value.int IntKind.i64 b.op, Value.int IntKind.i64 b.n, Value.slice A2 b.kids.length c2] 24)).alloc (Obj.cells #[Value.int IntKind.i64 s.pins, Value.int IntKind.i64 s.keys, Value.int IntKind.i64 s.state, Value.int IntKind.i64 s.level] 31)) = w1 at *
  have htd := ht.drew
  clear HR ht
  obtain ⟨m0, m1, m2, m3, m4, m5, m6, m7, m8, m9, m10, m11, m12⟩ := HS.out _ (show Rows3 w w1 _ _ _ from htd.undrew)
  cases X with
  | false =>
    refine wp_region_held_drew (S := (fun w' => w'.cell? ⟨w.heap.size, 0, none⟩ = some (.int .i64 a.op) ∧ w'.cell? ⟨w.heap.size, 1, none⟩ = some (.int .i64 a.n) ∧ w'.cell? ⟨w.heap.size, 2, none⟩ = some (.slice A1 a.kids.length c1) ∧ w'.cell? ⟨w.heap.size + 1, 0, none⟩ = some (.int .i64 b.op) ∧ w'.cell? ⟨w.heap.size + 1, 1, none⟩ = some (.int .i64 b.n) ∧ w'.cell? ⟨w.heap.size + 1, 2, none⟩ = some (.slice A2 b.kids.length c2) ∧ w'.cell? ⟨w.heap.size + 1 + 1, 0, none⟩ = some (.int .i64 s.pins) ∧ w'.cell? ⟨w.heap.size + 1 + 1, 1, none⟩ = some (.int .i64 s.keys) ∧ w'.cell? ⟨w.heap.size + 1 + 1, 2, none⟩ = some (.int .i64 s.state) ∧ w'.cell? ⟨w.heap.size + 1 + 1, 3, none⟩ = some (.int .i64 s.level) ∧ w'.cell? ⟨b3, o3, none⟩ = some (.int .i64 x.op) ∧ w'.cell? ⟨b3, o3 + 1, none⟩ = some (.int .i64 x.n) ∧ w'.cell? ⟨b3, o3 + 2, none⟩ = some (.slice none 0 0))) (by kernel_rfl) (HS.out _ htd) (fun hHeld => ?_)
    change wpAnyH _ _ _ _ _ 19 (Array.replicate 19 false) _ w1.drew
    refine wpAnyH_takeG 0 21 (.agg #[.int .i64 a.op, .int .i64 a.n, .slice A1 a.kids.length c1]) rfl rfl (by kernel_rfl) (by kernel_rfl) (by kernel_rfl) (fun _ _ _ h => h) rfl ?_ (HS.out _ htd) ?_
    · rintro w ⟨s0, s1, s2, s3, s4, s5, s6, s7, s8, s9, s10, s11, s12⟩
      go_simp
      try with_reducible rfl
    try simp only [Act.put, List.setIfInBounds_toArray, List.set_cons_zero, List.set_cons_succ]
    refine wpAnyH_takeG 1 22 (.agg #[.int .i64 b.op, .int .i64 b.n, .slice A2 b.kids.length c2]) rfl rfl (by kernel_rfl) (by kernel_rfl) (by kernel_rfl) (fun _ _ _ h => h) rfl ?_ (HS.out _ htd) ?_
    · rintro w ⟨s0, s1, s2, s3, s4, s5, s6, s7, s8, s9, s10, s11, s12⟩
      go_simp
      try with_reducible rfl
    try simp only [Act.put, List.setIfInBounds_toArray, List.set_cons_zero, List.set_cons_succ]
    refine wpAnyH_takeG 2 23 (.slice (some ⟨b3, o3, none⟩) (m + 1) c3) rfl rfl (by kernel_rfl) (by kernel_rfl) (by kernel_rfl) (fun _ _ _ h => h) rfl ?_ (HS.out _ htd) ?_
    · rintro w ⟨s0, s1, s2, s3, s4, s5, s6, s7, s8, s9, s10, s11, s12⟩
      go_simp
      try with_reducible rfl
    try simp only [Act.put, List.setIfInBounds_toArray, List.set_cons_zero, List.set_cons_succ]
    refine wpAnyH_takeG 3 24 (.slice (some ⟨b3, o3 + 3, none⟩) m (c3 - 1)) rfl rfl (by kernel_rfl) (by kernel_rfl) (by kernel_rfl) (fun _ _ _ h => h) rfl ?_ (HS.out _ htd) ?_
    · rintro w ⟨s0, s1, s2, s3, s4, s5, s6, s7, s8, s9, s10, s11, s12⟩
      go_simp
      try with_reducible rfl
    try simp only [Act.put, List.setIfInBounds_toArray, List.set_cons_zero, List.set_cons_succ]
    refine wpAnyH_takeG 4 25 (.agg #[.int .i64 s.pins, .int .i64 s.keys, .int .i64 s.state, .int .i64 s.level]) rfl rfl (by kernel_rfl) (by kernel_rfl) (by kernel_rfl) (fun _ _ _ h => h) rfl ?_ (HS.out _ htd) ?_
    · rintro w ⟨s0, s1, s2, s3, s4, s5, s6, s7, s8, s9, s10, s11, s12⟩
      go_simp
      try with_reducible rfl
    try simp only [Act.put, List.setIfInBounds_toArray, List.set_cons_zero, List.set_cons_succ]
    refine wpAnyH_oneG (i := 5) (by kernel_rfl) rfl rfl ?_
    intro Kx hKx
    go_simp
    refine (HI1.out _ htd.bel).mono ?_
    rintro e w3 ⟨rfl, hb3'⟩
    have ht3 := htd.on hb3'
    clear hb3'
    dsimp only
    refine hKx _ _ (HS.out _ ht3) ?_
    clear hKx Kx
    try simp only [Act.put, List.setIfInBounds_toArray, List.set_cons_zero, List.set_cons_succ]
    refine wpAnyH_takeG 6 27 (.bool false) rfl rfl (by kernel_rfl) (by kernel_rfl) (by kernel_rfl) (fun _ _ _ h => h) rfl ?_ (HS.out _ ht3) ?_
    · rintro w ⟨s0, s1, s2, s3, s4, s5, s6, s7, s8, s9, s10, s11, s12⟩
      go_simp
      try with_reducible rfl
    try simp only [Act.put, List.setIfInBounds_toArray, List.set_cons_zero, List.set_cons_succ]
    refine wpAnyH_takeU 7 28 rfl rfl (by kernel_rfl) (by kernel_rfl) (by kernel_rfl) (fun _ _ _ h => h) rfl (HS.out _ ht3) ?_
    try simp only [Act.put, List.setIfInBounds_toArray, List.set_cons_zero, List.set_cons_succ]
    refine wpAnyH_takeU 8 29 rfl rfl (by kernel_rfl) (by kernel_rfl) (by kernel_rfl) (fun _ _ _ h => h) rfl (HS.out _ ht3) ?_
    try simp only [Act.put, List.setIfInBounds_toArray, List.set_cons_zero, List.set_cons_succ]
    refine wpAnyH_takeU 9 30 rfl rfl (by kernel_rfl) (by kernel_rfl) (by kernel_rfl) (fun _ _ _ h => h) rfl (HS.out _ ht3) ?_
    try simp only [Act.put, List.setIfInBounds_toArray, List.set_cons_zero, List.set_cons_succ]
    refine wpAnyH_takeU 10 31 rfl rfl (by kernel_rfl) (by kernel_rfl) (by kernel_rfl) (fun _ _ _ h => h) rfl (HS.out _ ht3) ?_
    try simp only [Act.put, List.setIfInBounds_toArray, List.set_cons_zero, List.set_cons_succ]
    refine wpAnyH_takeU 11 32 rfl rfl (by kernel_rfl) (by kernel_rfl) (by kernel_rfl) (fun _ _ _ h => h) rfl (HS.out _ ht3) ?_
    try simp only [Act.put, List.setIfInBounds_toArray, List.set_cons_zero, List.set_cons_succ]
    refine wpAnyH_takeU 12 33 rfl rfl (by kernel_rfl) (by kernel_rfl) (by kernel_rfl) (fun _ _ _ h => h) rfl (HS.out _ ht3) ?_
    try simp only [Act.put, List.setIfInBounds_toArray, List.set_cons_zero, List.set_cons_succ]
    refine wpAnyH_takeU 13 34 rfl rfl (by kernel_rfl) (by kernel_rfl) (by kernel_rfl) (fun _ _ _ h => h) rfl (HS.out _ ht3) ?_
    try simp only [Act.put, List.setIfInBounds_toArray, List.set_cons_zero, List.set_cons_succ]
    refine wpAnyH_takeU 14 35 rfl rfl (by kernel_rfl) (by kernel_rfl) (by kernel_rfl) (fun _ _ _ h => h) rfl (HS.out _ ht3) ?_
    try simp only [Act.put, List.setIfInBounds_toArray, List.set_cons_zero, List.set_cons_succ]
    refine wpAnyH_takeU 15 36 rfl rfl (by kernel_rfl) (by kernel_rfl) (by kernel_rfl) (fun _ _ _ h => h) rfl (HS.out _ ht3) ?_
    try simp only [Act.put, List.setIfInBounds_toArray, List.set_cons_zero, List.set_cons_succ]
    refine wpAnyH_takeU 16 37 rfl rfl (by kernel_rfl) (by kernel_rfl) (by kernel_rfl) (fun _ _ _ h => h) rfl (HS.out _ ht3) ?_
    try simp only [Act.put, List.setIfInBounds_toArray, List.set_cons_zero, List.set_cons_succ]
    refine wpAnyH_takeG 17 38 (.bool false) rfl rfl (by kernel_rfl) (by kernel_rfl) (by kernel_rfl) (fun _ _ _ h => h) rfl ?_ (HS.out _ ht3) ?_
    · rintro w ⟨s0, s1, s2, s3, s4, s5, s6, s7, s8, s9, s10, s11, s12⟩
      go_simp
      try with_reducible rfl
    try simp only [Act.put, List.setIfInBounds_toArray, List.set_cons_zero, List.set_cons_succ]
    refine wpAnyH_oneG (i := 18) (by kernel_rfl) rfl rfl ?_
    intro Kx hKx
    go_simp
    refine hKx _ _ (HS.out _ ht3) ?_
    clear hKx Kx
    try simp only [Act.put, List.setIfInBounds_toArray, List.set_cons_zero, List.set_cons_succ]
    refine wpAnyH_done (by kernel_rfl) ?_ _
    go_wp2_with fail
    go_ret
    exact ⟨rfl, ht3.bel⟩
  | true =>
    go_region_held3 (fun w' => w'.cell? ⟨w.heap.size, 0, none⟩ = some (.int .i64 a.op) ∧ w'.cell? ⟨w.heap.size, 1, none⟩ = some (.int .i64 a.n) ∧ w'.cell? ⟨w.heap.size, 2, none⟩ = some (.slice A1 a.kids.length c1) ∧ w'.cell? ⟨w.heap.size + 1, 0, none⟩ = some (.int .i64 b.op) ∧ w'.cell? ⟨w.heap.size + 1, 1, none⟩ = some (.int .i64 b.n) ∧ w'.cell? ⟨w.heap.size + 1, 2, none⟩ = some (.slice A2 b.kids.length c2) ∧ w'.cell? ⟨w.heap.size + 1 + 1, 0, none⟩ = some (.int .i64 s.pins) ∧ w'.cell? ⟨w.heap.size + 1 + 1, 1, none⟩ = some (.int .i64 s.keys) ∧ w'.cell? ⟨w.heap.size + 1 + 1, 2, none⟩ = some (.int .i64 s.state) ∧ w'.cell? ⟨w.heap.size + 1 + 1, 3, none⟩ = some (.int .i64 s.level) ∧ w'.cell? ⟨b3, o3, none⟩ = some (.int .i64 x.op) ∧ w'.cell? ⟨b3, o3 + 1, none⟩ = some (.int .i64 x.n) ∧ w'.cell? ⟨b3, o3 + 2, none⟩ = some (.slice none 0 0))
      (first
        | (go_keep; done)
        | exact HS.out _ htd
        | exact HS.out _ ht3
        | exact HS.out _ ht4
        | exact HS.out _ ht5)
      (first
        | (go_at_call 52; (with_reducible refine (HI1.out _ htd.bel).mono ?_); rintro e w3 ⟨rfl, hb3'⟩; have ht3 := htd.on hb3'; clear hb3')
        | (go_at_call 76; (with_reducible refine (HW.out _).mono ?_); rintro e w4 ⟨rfl, hb4'⟩; have ht4 := ht3.on hb4'; clear hb4')
        | (go_at_call 52; (with_reducible refine (HI2.out _ ht4.bel).mono ?_); rintro e w5 ⟨rfl, hb5'⟩; have ht5 := ht4.on hb5'; clear hb5'))
    go_wp2_with fail
    go_ret
    exact ⟨rfl, ht5.bel⟩
theorem impd_cons (a b : Cn) (x : Ato) (l : List Ato) (ih : ImpdC a b l) : ImpdC a b (x :: l) := by
  intro s va vb vl w hg hbd ha hb hl
  obtain ⟨A1, c1, rfl, _, _, _⟩ := id ha
  obtain ⟨A2, c2, rfl, _, _, _⟩ := id hb
  obtain ⟨A3, c3, rfl, _, _, h3'⟩ := id hl
  obtain ⟨b3, o3, rfl, _⟩ := h3'.out (by simp)
  by_cases hc : c3 = 1
  · exact impd_one a b x l ih s A1 A2 c1 c2 b3 o3 _ c3 w hg hbd ha hb hl hc
  · exact impd_more a b x l ih s A1 A2 c1 c2 b3 o3 _ c3 w hg hbd ha hb hl hc
theorem impd_any (a b : Cn) (hoa : a.ok = true) (hob : b.ok = true) : ∀ l, ImpdC a b l
  | [] => impd_nil a b hoa hob
  | x :: l => impd_cons a b x l (impd_any a b hoa hob l)
end Go.Proofs.YtjkbfogjfgnhiaaDoor
