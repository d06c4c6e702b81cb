/-
  The walks of the reference's Atoms, with, implied, Implies.
-/
import Derived.Test.YtjkbfogjfgnhiaaDoorAtw
import Derived.Test.YtjkbfogjfgnhiaaDoorImq
namespace Go.Proofs.YtjkbfogjfgnhiaaDoor
set_option linter.unusedVariables false
set_option linter.unusedSimpArgs false
open Go.RowKit

/-- The two boxes of a call, in a later world. -/
structure TwoB (w W : World) (X Y : Obj) : Prop where
  bel : Below w.heap.size w W
  r0 : W.heap[w.heap.size]? = some X
  r1 : W.heap[w.heap.size + 1]? = some Y
  sz : w.heap.size + 2 ≤ W.heap.size
theorem TwoB.start (w : World) (X Y : Obj) : TwoB w ((w.alloc X).alloc Y) X Y := by
  refine ⟨alloc2_below w X Y, (Below.heap_alloc (w.alloc X) Y w.heap.size (by rw [alloc_size]; omega)).trans (heap_alloc_new w X), ?_, by rw [alloc_size, alloc_size]; omega⟩
  have := heap_alloc_new (w.alloc X) Y
  rw [alloc_size] at this
  exact this
theorem TwoB.drew {w W : World} {X Y : Obj} (h : TwoB w W X Y) : TwoB w W.drew X Y := ⟨h.bel.drew, h.r0, h.r1, h.sz⟩
theorem TwoB.step {w W W' : World} {X Y : Obj} {v q : Value} (h : TwoB w W X Y) (hb : Below w.heap.size W W') (hk : KQ W v q W') (hv : ∀ m, v.ownBlock = some m → w.heap.size + 2 ≤ m) : TwoB w W' X Y :=
  ⟨h.bel.trans hb, (hk.1 _ (by have := h.sz; omega) fun e => by have := hv _ e; omega).trans h.r0, (hk.1 _ (by have := h.sz; omega) fun e => by have := hv _ e; omega).trans h.r1, Nat.le_trans h.sz hk.2.2⟩
theorem TwoB.on {w W W' : World} {X Y : Obj} (h : TwoB w W X Y) (hb : Below W.heap.size W W') : TwoB w W' X Y :=
  ⟨h.bel.trans (hb.mono h.bel.size), (hb.block _ (by have := h.sz; omega)).trans h.r0, (hb.block _ (by have := h.sz; omega)).trans h.r1, Nat.le_trans h.sz hb.size⟩
theorem TwoB.own {w W W' : World} {X Y : Obj} {v q : Value} (h : TwoB w W X Y) (hk : KQ W v q W') (hv : ∀ m, v.ownBlock = some m → w.heap.size + 2 ≤ m) : ∀ m, q.ownBlock = some m → w.heap.size + 2 ≤ m := fun m hm => by
  rcases hk.2.1 with e | ⟨g, e1, e2⟩
  · exact hv m (e.symm.trans hm)
  · have := Option.some.inj (e1.symm.trans hm)
    have := h.sz
    omega
set_option maxRecDepth 100000 in
set_option maxHeartbeats 3200000 in
theorem atoms_any (a b : Cn) (va vb : Value) (w : World) (ha : KL w w.heap.size va a.kids) (hb : KL w w.heap.size vb b.kids) (hca : a.cnt ≤ 1000) (hcb : b.cnt ≤ 1000) :
    Calls Tryd.prog 26 #[.agg #[.int .i64 a.op, .int .i64 a.n, va], .agg #[.int .i64 b.op, .int .i64 b.n, vb]] w fun e w' => e = .returned (.int .i64 ((b.atm (a.atm [])).length : Int)) ∧ Below w.heap.size w w' := by
  obtain ⟨A1, c1, rfl, _, _, _⟩ := id ha
  obtain ⟨A2, c2, rfl, _, _, _⟩ := id hb
  have hl1 := Cn.atm_len a []
  have hl2 := Cn.atm_len b (a.atm [])
  have htw := (TwoB.start w (bx a.op a.n A1 a.kids.length c1) (bx b.op b.n A2 b.kids.length c2))
  have HQ1 := Lib.hid fun (W : World) (hW : Below w.heap.size w W) => atm_any (a.dep + 1) a (by omega) [] (.slice A1 a.kids.length c1) (.slice none 0 0) w.heap.size W (ha.below hW) (OAt.nil _ _) hW.size (by simp; omega)
  have HQ2 := Lib.hid fun (W : World) (hW : Below w.heap.size w W) (v : Value) (ho : OAt W w.heap.size v (a.atm [])) => atm_any (b.dep + 1) b (by omega) (a.atm []) (.slice A2 b.kids.length c2) v w.heap.size W (hb.below hW) ho hW.size (by simp at hl1; omega)
  have HS : Hid (∀ W, TwoB w W (bx a.op a.n A1 a.kids.length c1) (bx b.op b.n A2 b.kids.length c2) → W.cell? ⟨w.heap.size, 0, none⟩ = some (.int .i64 a.op) ∧ W.cell? ⟨w.heap.size, 1, none⟩ = some (.int .i64 a.n) ∧ W.cell? ⟨w.heap.size, 2, none⟩ = some (.slice A1 a.kids.length c1) ∧ W.cell? ⟨w.heap.size + 1, 0, none⟩ = some (.int .i64 b.op) ∧ W.cell? ⟨w.heap.size + 1, 1, none⟩ = some (.int .i64 b.n) ∧ W.cell? ⟨w.heap.size + 1, 2, none⟩ = some (.slice A2 b.kids.length c2)) := fun W hW =>
    ⟨cell_of_row _ _ 0 _ _ _ hW.r0, cell_of_row _ _ 1 _ _ _ hW.r0, cell_of_row _ _ 2 _ _ _ hW.r0, cell_of_row _ _ 0 _ _ _ hW.r1, cell_of_row _ _ 1 _ _ _ hW.r1, cell_of_row _ _ 2 _ _ _ hW.r1⟩
  have HLL := Lib.hid (show (b.atm (a.atm [])).length ≤ 100000 by simp at hl1; omega)
  have HNV : Hid (∀ m, (Value.slice none 0 0).ownBlock = some m → w.heap.size + 2 ≤ m) := fun m hm => by cases hm
  clear ha hb hl1 hl2
  generalize b.atm (a.atm []) = L2 at *
  generalize a.atm [] = L1 at *
  go_enter Tryd.func26, Tryd.ntmps26
  go_wp2_with fail
  unfold bx at htw
  generalize (w.alloc (Obj.cells #[Value.int IntKind.i64 a.op, Value.int IntKind.i64 a.n, Value.slice A1 a.kids.length c1] 24)).alloc (Obj.cells #[Value.int IntKind.i64 b.op, Value.int IntKind.i64 b.n, Value.slice A2 b.kids.length c2] 24) = w1 at *
  have htd := htw.drew
  have HLI : Hid ((L2.length : Int) ≤ 100000) := by show _ ≤ _; have := HLL.out; omega
  go_region_held3 (fun w' => w'.cell? ⟨w.heap.size, 0, none⟩ = some (.int .i64 a.op) ∧ w'.cell? ⟨w.heap.size, 1, none⟩ = some (.int .i64 a.n) ∧ w'.cell? ⟨w.heap.size, 2, none⟩ = some (.slice A1 a.kids.length c1) ∧ w'.cell? ⟨w.heap.size + 1, 0, none⟩ = some (.int .i64 b.op) ∧ w'.cell? ⟨w.heap.size + 1, 1, none⟩ = some (.int .i64 b.n) ∧ w'.cell? ⟨w.heap.size + 1, 2, none⟩ = some (.slice A2 b.kids.length c2))
    (first
      | (go_keep; done)
      | exact HS.out _ htd
      | exact HS.out _ ht3
      | exact HS.out _ ht4)
    (first
      | (go_at_call 48; (with_reducible refine (HQ1.out _ htd.bel).mono ?_); rintro e w3 ⟨v3, rfl, ho3, hb3, hk3⟩; obtain ⟨A3, c3, rfl⟩ := ho3.value; have ht3 := htd.step hb3 hk3 HNV.out; have hn3 := htd.own hk3 HNV.out; have HO3 := Lib.hid ho3; have HN3 := Lib.hid hn3; clear hb3 hk3 ho3 hn3)
      | (go_at_call 48; (with_reducible refine (HQ2.out _ ht3.bel _ HO3.out).mono ?_); rintro e w4 ⟨v4, rfl, ho4, hb4, hk4⟩; obtain ⟨A4, c4, rfl⟩ := ho4.value; have ht4 := ht3.step hb4 hk4 HN3.out; clear hb4 hk4 ho4))
  go_wp2_with fail
  go_ret
  exact ⟨rfl, ht4.bel⟩

/-- The numbers of a status are small enough for m more atoms. -/
def Sc.bd (s : Sc) (m : Nat) : Prop := 0 ≤ s.pins ∧ s.pins + 256 * m ≤ 100000 ∧ 0 ≤ s.keys ∧ s.keys + 256 * m ≤ 100000 ∧ 0 ≤ s.level ∧ s.level + 32 * m ≤ 100000
theorem pow8 (n : Int) (h1 : 1 ≤ n) (h2 : n ≤ 8) : (1 : Int) ≤ 2 ^ n.toNat ∧ (2 : Int) ^ n.toNat ≤ 256 := by
  have : n.toNat < 9 := by omega
  revert this
  generalize n.toNat = k
  revert k
  refine lt9 ?_ ?_ ?_ ?_ ?_ ?_ ?_ ?_ ?_ <;> (simp only [Int.reducePow]; omega)
theorem bd_less {s : Sc} {m : Nat} (h : s.bd (m + 1)) : s.bd m := by unfold Sc.bd at *; omega
theorem bd_wit {s : Sc} {x : Ato} {m : Nat} (hx : x.good) (h : s.bd (m + 1)) : (s.wit x.op x.n).bd m := by
  obtain ⟨xo, xn⟩ := x
  unfold Ato.good at hx
  unfold Sc.bd at *
  unfold Sc.wit
  simp only at *
  rcases hx with ⟨rfl, h1, h2⟩ | ⟨rfl, h1, h2⟩ | ⟨rfl, h1, h2⟩ | ⟨rfl, hb⟩
  · have := pow8 xn h1 h2
    simp only [reduceIte, Int.reduceEq]; omega
  · have := pow8 xn h1 h2
    simp only [reduceIte, Int.reduceEq]; omega
  · simp only [reduceIte, Int.reduceEq]; omega
  · have : 1 ≤ xn ∧ xn ≤ 32 := by unfold bitN at hb; omega
    simp only [reduceIte, Int.reduceEq]; omega

theorem results_cell1 {P : Program} {fn : Func} {p : Tmp} {ty : TypeId} (h : fn.results = #[.cell p ty]) (tmps : Array Value) (w : World) (g : Nat) (t : TypeId) (cs : Array Value) (fr : Nat × Nat) (d : TypeDesc)
    (hp : tmps.getD p undef = .pointer (some ⟨g, 0, none⟩)) (hg : w.heap[g]? = some (.cells cs t fr))
    (hu : P.underlying ty = some d) (hd : (match d with | .struct _ | .array _ _ => true | _ => false) = true) (hi : (P.info? ty).map (·.size) = some cs.size) :
    (results fn tmps).run P w = .ok (.agg cs) w := by
  have hp' : tmps[p]?.getD undef = .pointer (some ⟨g, 0, none⟩) := by simpa using hp
  simp [results, h, hp', asAddr, run_loadVar_row w g t ty cs fr d hg hu hd hi]

theorem heap_new3 (w : World) (X Y Z : Obj) : (((w.alloc X).alloc Y).alloc Z).heap[w.heap.size + 1 + 1]? = some Z := by
  have := heap_alloc_new ((w.alloc X).alloc Y) Z
  rw [alloc_size, alloc_size] at this
  exact this
theorem below_new3 (w : World) (X Y Z : Obj) : Below w.heap.size w (((w.alloc X).alloc Y).alloc Z) := (alloc2_below w X Y).alloc (by rw [alloc_size, alloc_size]; omega) Z
set_option maxRecDepth 100000 in
set_option maxHeartbeats 3200000 in
theorem wit2_any (n : Int) (s : Sc) (w : World) (h1 : 1 ≤ n) (h2 : n ≤ 8) (h : s.bd 1) :
    Calls Tryd.prog 76 #[.agg #[.int .i64 s.pins, .int .i64 s.keys, .int .i64 s.state, .int .i64 s.level], .agg #[.int .i64 2, .int .i64 n, .slice none 0 0]] w fun e w' => e = .returned (.agg #[.int .i64 (s.pins + 2 ^ n.toNat), .int .i64 s.keys, .int .i64 s.state, .int .i64 s.level]) ∧ Below w.heap.size w w' := by
  unfold Sc.bd at h
  have hp := pow8 n h1 h2
  have HW := pow_i64 n h1 (by omega)
  obtain ⟨P, hP⟩ : ∃ P : Int, (2 : Int) ^ n.toNat = P := ⟨_, rfl⟩
  rw [hP] at HW hp ⊢
  have HW1 : IntKind.i64.wrap P = P := by have h := HW; rw [Int.one_mul] at h; exact h
  have HW2 : IntKind.i64.wrap (s.pins + P) = s.pins + P := IntWalk.i64_in _ (by omega)
  have h3 : 0 ≤ n := by omega
  have h4 : n ≤ 64 := by omega
  generalize s.pins = pp at *
  generalize s.keys = kk at *
  generalize s.state = st at *
  generalize s.level = ll at *
  clear h
  go_enter Tryd.func76, Tryd.ntmps76
  go_wp2_with fail
  exact bodyPost_ret (results_cell1 rfl _ _ (w.heap.size + 1 + 1) 31 _ (0, 0) _ rfl (heap_new3 w _ _ _) Tryd.underlying31 rfl (by kernel_rfl)) rfl ⟨rfl, below_new3 w _ _ _⟩
set_option maxRecDepth 100000 in
set_option maxHeartbeats 3200000 in
theorem wit3_any (n : Int) (s : Sc) (w : World) (h1 : 1 ≤ n) (h2 : n ≤ 8) (h : s.bd 1) :
    Calls Tryd.prog 76 #[.agg #[.int .i64 s.pins, .int .i64 s.keys, .int .i64 s.state, .int .i64 s.level], .agg #[.int .i64 3, .int .i64 n, .slice none 0 0]] w fun e w' => e = .returned (.agg #[.int .i64 s.pins, .int .i64 (s.keys + 2 ^ n.toNat), .int .i64 s.state, .int .i64 s.level]) ∧ Below w.heap.size w w' := by
  unfold Sc.bd at h
  have hp := pow8 n h1 h2
  have HW := pow_i64 n h1 (by omega)
  obtain ⟨P, hP⟩ : ∃ P : Int, (2 : Int) ^ n.toNat = P := ⟨_, rfl⟩
  rw [hP] at HW hp ⊢
  have HW1 : IntKind.i64.wrap P = P := by have h := HW; rw [Int.one_mul] at h; exact h
  have HW2 : IntKind.i64.wrap (s.keys + P) = s.keys + P := IntWalk.i64_in _ (by omega)
  have h3 : 0 ≤ n := by omega
  have h4 : n ≤ 64 := by omega
  generalize s.pins = pp at *
  generalize s.keys = kk at *
  generalize s.state = st at *
  generalize s.level = ll at *
  clear h
  go_enter Tryd.func76, Tryd.ntmps76
  go_wp2_with fail
  exact bodyPost_ret (results_cell1 rfl _ _ (w.heap.size + 1 + 1) 31 _ (0, 0) _ rfl (heap_new3 w _ _ _) Tryd.underlying31 rfl (by kernel_rfl)) rfl ⟨rfl, below_new3 w _ _ _⟩
set_option maxRecDepth 100000 in
set_option maxHeartbeats 3200000 in
theorem wit4_any (n : Int) (s : Sc) (w : World) (h1 : 1 ≤ n) (h2 : n ≤ 5) (h : s.bd 1) :
    Calls Tryd.prog 76 #[.agg #[.int .i64 s.pins, .int .i64 s.keys, .int .i64 s.state, .int .i64 s.level], .agg #[.int .i64 4, .int .i64 n, .slice none 0 0]] w fun e w' => e = .returned (.agg #[.int .i64 s.pins, .int .i64 s.keys, .int .i64 (if s.state < n then n else s.state), .int .i64 s.level]) ∧ Below w.heap.size w w' := by
  unfold Sc.bd at h
  generalize s.pins = pp at *
  generalize s.keys = kk at *
  generalize s.state = st at *
  generalize s.level = ll at *
  clear h
  by_cases e1 : st < n
  · rw [if_pos e1]
    go_enter Tryd.func76, Tryd.ntmps76
    go_wp2_with fail
    exact bodyPost_ret (results_cell1 rfl _ _ (w.heap.size + 1 + 1) 31 _ (0, 0) _ rfl (heap_new3 w _ _ _) Tryd.underlying31 rfl (by kernel_rfl)) rfl ⟨rfl, below_new3 w _ _ _⟩
  · rw [if_neg e1]
    have e2 : decide (st < n) = false := decide_eq_false e1
    go_enter Tryd.func76, Tryd.ntmps76
    go_wp2_with fail
    exact bodyPost_ret (results_cell1 rfl _ _ (w.heap.size + 1 + 1) 31 _ (0, 0) _ rfl (heap_new3 w _ _ _) Tryd.underlying31 rfl (by kernel_rfl)) rfl ⟨rfl, below_new3 w _ _ _⟩
set_option maxRecDepth 100000 in
set_option maxHeartbeats 3200000 in
theorem wit5_any (n : Int) (s : Sc) (w : World) (h1 : 1 ≤ n) (h2 : n ≤ 32) (h : s.bd 1) :
    Calls Tryd.prog 76 #[.agg #[.int .i64 s.pins, .int .i64 s.keys, .int .i64 s.state, .int .i64 s.level], .agg #[.int .i64 5, .int .i64 n, .slice none 0 0]] w fun e w' => e = .returned (.agg #[.int .i64 s.pins, .int .i64 s.keys, .int .i64 s.state, .int .i64 (s.level + n)]) ∧ Below w.heap.size w w' := by
  unfold Sc.bd at h
  have HW2 : IntKind.i64.wrap (s.level + n) = s.level + n := IntWalk.i64_in _ (by omega)
  generalize s.pins = pp at *
  generalize s.keys = kk at *
  generalize s.state = st at *
  generalize s.level = ll at *
  clear h
  go_enter Tryd.func76, Tryd.ntmps76
  go_wp2_with fail
  exact bodyPost_ret (results_cell1 rfl _ _ (w.heap.size + 1 + 1) 31 _ (0, 0) _ rfl (heap_new3 w _ _ _) Tryd.underlying31 rfl (by kernel_rfl)) rfl ⟨rfl, below_new3 w _ _ _⟩
theorem wit_any (x : Ato) (hx : x.good) (s : Sc) (w : World) (h : s.bd 1) :
    Calls Tryd.prog 76 #[.agg #[.int .i64 s.pins, .int .i64 s.keys, .int .i64 s.state, .int .i64 s.level], .agg #[.int .i64 x.op, .int .i64 x.n, .slice none 0 0]] w fun e w' => e = .returned (.agg #[.int .i64 (s.wit x.op x.n).pins, .int .i64 (s.wit x.op x.n).keys, .int .i64 (s.wit x.op x.n).state, .int .i64 (s.wit x.op x.n).level]) ∧ Below w.heap.size w w' := by
  obtain ⟨xo, xn⟩ := x
  unfold Ato.good at hx
  unfold Sc.wit
  simp only at *
  rcases hx with ⟨rfl, h1, h2⟩ | ⟨rfl, h1, h2⟩ | ⟨rfl, h1, h2⟩ | ⟨rfl, hb⟩
  · exact wit2_any xn s w h1 h2 h
  · exact wit3_any xn s w h1 h2 h
  · exact wit4_any xn s w h1 h2 h
  · exact wit5_any xn s w (by unfold bitN at hb; omega) (by unfold bitN at hb; omega) h
end Go.Proofs.YtjkbfogjfgnhiaaDoor
