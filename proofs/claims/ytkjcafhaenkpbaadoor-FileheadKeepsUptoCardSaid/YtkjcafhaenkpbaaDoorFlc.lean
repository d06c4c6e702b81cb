/-
  Own rows of data objects with tags of any kind; the example's parts, and the values that its methods write.
-/
import Derived.Test.YtkjcafhaenkpbaaDoorFlb
namespace Go.Proofs.YtkjcafhaenkpbaaDoor
set_option linter.unusedVariables false
set_option linter.unusedSimpArgs false
open Go.RowKit

def grow (x : Int × Value) : List Value := [.int .i64 x.1, x.2, .slice none 0 0]
def gz : Int × Value := (0, .slice none 0 0)
def lz : Int × List UInt8 := (0, [])
theorem grow_len : ∀ vs : List (Int × Value), (vs.flatMap grow).length = vs.length * 3
  | [] => rfl
  | u :: vs => by rw [List.flatMap_cons, List.length_append, grow_len vs, List.length_cons]; simp [grow]; omega
theorem grow_get : ∀ (vs : List (Int × Value)) (k j : Nat), k < vs.length → j < 3 → (vs.flatMap grow)[k * 3 + j]? = (grow (vs.getD k gz))[j]?
  | [], k, j, h, _ => absurd h (by simp)
  | u :: vs, 0, j, _, hj => by
    rw [List.flatMap_cons, List.getElem?_append_left (by simp [grow]; omega)]
    simp [List.getD]
  | u :: vs, k + 1, j, h, hj => by
    rw [List.flatMap_cons, List.getElem?_append_right (by simp [grow]; omega)]
    have := grow_get vs k j (by simpa using h) hj
    rw [show (k + 1) * 3 + j - (grow u).length = k * 3 + j by simp [grow]; omega, this]
    simp [List.getD]
/-- An own row of data objects with the tag 80; their values lie apart from it. -/
def OG (w : World) (base : Nat) (v : Value) (ls : List (Int × List UInt8)) : Prop :=
  ∃ vs : List (Int × Value), w.ownsRow base 53 3 v ls.length (vs.flatMap grow) ∧ vs.length = ls.length ∧ (∀ u ∈ vs, u.2.oneCell' = true) ∧ ∀ k, k < ls.length → (vs.getD k gz).1 = (ls.getD k lz).1 ∧ FS w base (vs.getD k gz).2 (ls.getD k lz).2 ∧ (0 < (ls.getD k lz).2.length → (vs.getD k gz).2.ownBlock ≠ v.ownBlock)
theorem OG.nil (w : World) (base : Nat) : OG w base (.slice none 0 0) [] := ⟨[], World.ownsRow_nil .., rfl, by simp, fun k hk => absurd hk (by simp)⟩
theorem OG.later {w W : World} {base : Nat} {v : Value} {ls : List (Int × List UInt8)} (h : OG w base v ls) (hb : Below w.heap.size w W) : OG W base v ls := by
  obtain ⟨vs, h1, h2, h4, h3⟩ := h
  refine ⟨vs, ?_, h2, h4, fun k hk => ⟨(h3 k hk).1, (h3 k hk).2.1.on hb, (h3 k hk).2.2⟩⟩
  exact h1.kept (row := none) ⟨hb.os, hb.tape, hb.output, hb.size, fun k hk _ => hb.block k hk⟩ (by
    cases hv : v.ownBlock with
    | none => exact .inl rfl
    | some k => exact .inr (by simp))
theorem OG.ltB {w : World} {base : Nat} {v : Value} {ls : List (Int × List UInt8)} (h : OG w base v ls) : ∀ b, v.ownBlock = some b → base ≤ b ∧ b < w.heap.size := by
  obtain ⟨vs, h1, _⟩ := h
  exact fun b hb => h1.lt b hb
theorem OG.value {w : World} {base : Nat} {v : Value} {ls : List (Int × List UInt8)} (h : OG w base v ls) : ∃ A c, v = .slice A ls.length c := by
  obtain ⟨vs, h1, _⟩ := h
  rcases h1.2 with ⟨rfl, h0⟩ | ⟨g, cap, cur, rfl, _⟩
  · exact ⟨none, 0, by rw [h0]⟩
  · exact ⟨_, _, rfl⟩
theorem FS.set {w : World} {lo : Nat} {v : Value} {l : List UInt8} (h : FS w lo v l) {b i : Nat} (hb : b < lo) (u : Value) : FS (w.setCell ⟨b, i, none⟩ u) lo v l := by
  obtain ⟨⟨A, c, rfl, h1, h2, h3⟩, h4⟩ := h
  refine ⟨⟨A, c, rfl, h1, h2, fun hp => ?_⟩, h4⟩
  obtain ⟨b', o', rfl, hlt, hc⟩ := h3 hp
  obtain ⟨bb, e, hlo⟩ := h4.out hp
  have e2 : b' = bb := Option.some.inj e
  refine ⟨b', o', rfl, Nat.lt_of_lt_of_le hlt ((Kb.refl b w).set i u).size, fun k hk => ?_⟩
  rw [far_set _ _ (by show b' ≠ b; omega)]
  exact hc k hk
theorem OG.set {w : World} {base : Nat} {v : Value} {ls : List (Int × List UInt8)} (h : OG w base v ls) {b i : Nat} (hb : b < base) (u : Value) : OG (w.setCell ⟨b, i, none⟩ u) base v ls := by
  have hl := h.ltB
  obtain ⟨vs, h1, h2, h4, h3⟩ := h
  refine ⟨vs, ?_, h2, h4, fun k hk => ⟨(h3 k hk).1, (h3 k hk).2.1.set hb u, (h3 k hk).2.2⟩⟩
  have hk := (Kb.refl b w).set i u
  exact h1.kept (row := some b) ⟨hk.os, hk.tape, hk.output, hk.size, fun k hlt hne => hk.block k hlt (fun e => hne (by rw [e]))⟩ (by
    cases hv : v.ownBlock with
    | none => exact .inl rfl
    | some k => exact .inr (by intro e; have := (hl k hv).1; have := Option.some.inj e; omega))
def gObj (x : Int × List UInt8) : T := .mk x.1 x.2 []
theorem OG.tl {w : World} {base : Nat} {v : Value} {ls : List (Int × List UInt8)} (h : OG w base v ls) : TL w w.heap.size v (ls.map gObj) := by
  obtain ⟨vs, h1, h2, h4, h3⟩ := h
  have hml : (ls.map gObj).length = ls.length := List.length_map ..
  rcases id h1.2 with ⟨rfl, h0⟩ | ⟨g, cap, cur, rfl, hb, hg, hn, hm, hs, ht⟩
  · exact ⟨none, 0, by rw [hml, h0], by rw [hml, h0]; exact Nat.le_refl _, Nat.zero_le _, fun hp => absurd hp (by omega)⟩
  · refine ⟨some ⟨g, 0, none⟩, cap, by rw [hml], by rw [hml]; exact hn, hm, fun _ => ⟨g, 0, rfl, ?_, ?_⟩⟩
    · rcases Nat.lt_or_ge g w.heap.size with hlt | hge
      · exact hlt
      · rw [Array.getElem?_eq_none hge] at hg; cases hg
    · have key : ∀ (m : List (Int × List UInt8)) (j : Nat), j + m.length = ls.length → (∀ i, i < m.length → m.getD i lz = ls.getD (j + i) lz) → TsAt w w.heap.size g (0 + j * 3) (m.map gObj) := by
        intro m
        induction m with
        | nil => intro j _ _; unfold TsAt; trivial
        | cons x m ih =>
          intro j hj hi
          rw [List.map_cons]
          unfold TsAt
          have hjl : j < ls.length := by simp at hj; omega
          have hx : x = ls.getD j lz := by have := hi 0 (by simp); simpa using this
          have cell := fun i (hi : i < 3) => World.ownsRow.cellAt (w := w) (base := base) (e := 53) (size := 3) (g := g) (n := ls.length) (cap := cap) (xs := vs.flatMap grow) h1 (j * 3 + i) (by omega)
          have e := fun i (hi : i < 3) => grow_get vs j i (by omega) hi
          refine ⟨?_, ?_⟩
          · refine TAt.make ?_ ⟨(vs.getD j gz).2, ?_, ?_⟩ ⟨.slice none 0 0, ?_, ⟨none, 0, rfl, Nat.zero_le _, Nat.zero_le _, fun hp => absurd hp (by simp [gObj, T.kids])⟩⟩
            · rw [Nat.zero_add, show (gObj x).tag = (vs.getD j gz).1 by rw [(h3 j hjl).1, ← hx]; rfl]; exact (cell 0 (by omega)).trans (e 0 (by omega))
            · rw [Nat.zero_add]; exact (cell 1 (by omega)).trans (e 1 (by omega))
            · rw [show (gObj x).val = (ls.getD j lz).2 by rw [← hx]; rfl]; exact (h3 j hjl).2.1.1
            · rw [Nat.zero_add]; exact (cell 2 (by omega)).trans (e 2 (by omega))
          · have := ih (j + 1) (by simp at hj; omega) (fun i hi' => by
              have := hi (i + 1) (by simp; omega)
              rw [show j + 1 + i = j + (i + 1) by omega, ← this]
              simp)
            rw [show 0 + (j + 1) * 3 = 0 + j * 3 + 3 by omega] at this
            exact this
      exact key ls 0 (by omega) (fun i _ => by rw [Nat.zero_add])

/-- One object appended (it has just been laid into a block of its own, number B). -/
theorem wpList_appG2 {ops : Array Oper} {rest : List Oper} {o : Oper} {a : Act} {W : World} {Q : Exit → Act → World → Prop} (hgd : o.guard = none) (s x : Operand)
    (ho : o.op = .call { callee := .builtin .append, args := #[s, x], argTypes := #[51, 51] }) (base : Nat) (v : Value) (ls : List (Int × List UInt8)) (t : Int) (u : Value) (l : List UInt8) (B : Nat)
    (hs : a.eval s = v) (hx : a.eval x = .slice (some ⟨B, 0, none⟩) 1 1) (hown : OG W base v ls)
    (hu : FS W base u l) (hne : 0 < l.length → u.ownBlock ≠ v.ownBlock) (hB : W.heap[B]? = some (.cells #[.int .i64 t, u, .slice none 0 0] 53 (0, 0)))
    (hlen : ls.length ≤ 1000) (hbase : base ≤ W.heap.size)
    (h : ∀ v' w', OG w' base v' (ls ++ [(t, l)]) → Below base W w' → wpList Tryd.prog ops Q rest (a.put o.dst v') w') : wpList Tryd.prog ops Q (o :: rest) a W := by
  obtain ⟨i0, hi0, hz0, hz1, hz2⟩ := info_parts info70
  obtain ⟨vs, h1, h2, h4, h3⟩ := hown
  have hu1 : u.oneCell' = true := by obtain ⟨A, c, rfl, _⟩ := hu.1; rfl
  refine wpList_append_lies W hgd s x 51 ho base 53 i0 (.agg #[.int .i64 0, .slice none 0 0, .slice none 0 0]) 3 56 Tryd.underlying51 hi0 hz0 hz1 hz2 rfl (by omega) v ls.length (vs.flatMap grow) hs h1 ⟨B, 0, none⟩ 1 1 (grow (t, u)) hx rfl
    (World.news_of_block (cs := #[.int .i64 t, u, .slice none 0 0]) hB) (by intro y hy; simp [grow] at hy; rcases hy with rfl | rfl | rfl <;> first | exact hu1 | rfl) (by omega) (by simp only [maxLen]; omega) (by omega) hbase W.heap.size rfl fun g cap w' k1 k2 k3 k4 => ?_
  have hnew : ∀ {u l}, FS W base u l → (0 < l.length → u.ownBlock ≠ v.ownBlock) → FS w' base u l ∧ (0 < l.length → u.ownBlock ≠ some g) := fun {u l} hu hne => by
    refine ⟨⟨hu.1.grown hne k2, hu.2⟩, fun hp e => ?_⟩
    rcases k3 with k3 | k3
    · exact hne hp (e.trans k3.symm)
    · obtain ⟨A, c, rfl, _, _, hr⟩ := hu.1
      obtain ⟨b, o, rfl, hb, _⟩ := hr hp
      simp only [Value.ownBlock, Option.some.injEq] at e
      omega
  refine h _ w' ⟨vs ++ [(t, u)], ?_, by simp [h2], ?_, fun k hk => ?_⟩ ((Below.refl _ _).grown k2 hbase (fun k hk => (h1.lt k hk).1))
  · rw [List.flatMap_append, List.length_append]
    simpa using k1
  · intro y hy
    rcases List.mem_append.1 hy with hy | hy
    · exact h4 y hy
    · simp at hy; subst hy; exact hu1
  · have hl : (ls ++ [(t, l)]).length = ls.length + 1 := by simp
    rcases Nat.lt_or_ge k ls.length with e | e
    · have e1 : (vs ++ [(t, u)]).getD k gz = vs.getD k gz := by simp [List.getD, List.getElem?_append, h2, e]
      have e2 : (ls ++ [(t, l)]).getD k lz = ls.getD k lz := by simp [List.getD, List.getElem?_append, e]
      rw [e1, e2]
      exact ⟨(h3 k e).1, hnew (h3 k e).2.1 (h3 k e).2.2⟩
    · obtain rfl : k = ls.length := by omega
      have e1 : (vs ++ [(t, u)]).getD ls.length gz = (t, u) := by simp [List.getD, ← h2]
      have e2 : (ls ++ [(t, l)]).getD ls.length lz = (t, l) := by simp [List.getD]
      rw [e1, e2]
      exact ⟨rfl, hnew hu hne⟩


def paRow (n : Nat) : Array Value := #[.int .i64 130, .slice (some ⟨n, 0, none⟩) 2 2, .bool true, .func (Fn.func 52) #[] #[], .int .i64 131, .slice (some ⟨n + 1, 0, none⟩) 1 1, .bool true, .func (Fn.func 53) #[] #[], .int .i64 132, .slice none 0 0, .bool false, .func (Fn.func 54) #[] #[], .int .i64 128, .slice (some ⟨n + 1 + 1, 0, none⟩) 1 1, .bool false, .func (Fn.func 55) #[] #[], .int .i64 136, .slice (some ⟨n + 1 + 1 + 1, 0, none⟩) 1 1, .bool false, .func (Fn.func 56) #[] #[], .int .i64 138, .slice (some ⟨n + 1 + 1 + 1 + 1, 0, none⟩) 1 1, .bool true, .func (Fn.func 57) #[] #[], .int .i64 134, .slice none 0 0, .bool false, .func (Fn.func 58) #[] #[]]
set_option maxRecDepth 100000 in
set_option maxHeartbeats 3200000 in
theorem parts_any (w : World) : Calls Tryd.prog 32 #[] w fun e w' => e = .returned (.slice (some ⟨w.heap.size + 1 + 1 + 1 + 1 + 1, 0, none⟩) 7 7) ∧ w'.heap[w.heap.size + 1 + 1 + 1 + 1 + 1]? = some (.cells (paRow w.heap.size) 59 (0, 0)) ∧ Below w.heap.size w w' := by
  have hz5 : (((((w.alloc (Obj.cells #[Value.int IntKind.i64 1, Value.int IntKind.i64 3] 3)).alloc (Obj.cells #[Value.int IntKind.i64 2] 3)).alloc (Obj.cells #[Value.int IntKind.i64 2] 3)).alloc (Obj.cells #[Value.int IntKind.i64 1] 3)).alloc (Obj.cells #[Value.int IntKind.i64 1] 3)).heap.size = w.heap.size + 1 + 1 + 1 + 1 + 1 := by
    rw [alloc_size, alloc_size, alloc_size, alloc_size, alloc_size]
  have hb5 : Below w.heap.size w (((((w.alloc (Obj.cells #[Value.int IntKind.i64 1, Value.int IntKind.i64 3] 3)).alloc (Obj.cells #[Value.int IntKind.i64 2] 3)).alloc (Obj.cells #[Value.int IntKind.i64 2] 3)).alloc (Obj.cells #[Value.int IntKind.i64 1] 3)).alloc (Obj.cells #[Value.int IntKind.i64 1] 3)) :=
    ((((alloc2_below w _ _).alloc (by rw [alloc_size, alloc_size]; omega) _).alloc (by rw [alloc_size, alloc_size, alloc_size]; omega) _).alloc (by rw [alloc_size, alloc_size, alloc_size, alloc_size]; omega) _)
  have hn := heap_alloc_new (((((w.alloc (Obj.cells #[Value.int IntKind.i64 1, Value.int IntKind.i64 3] 3)).alloc (Obj.cells #[Value.int IntKind.i64 2] 3)).alloc (Obj.cells #[Value.int IntKind.i64 2] 3)).alloc (Obj.cells #[Value.int IntKind.i64 1] 3)).alloc (Obj.cells #[Value.int IntKind.i64 1] 3)) (.cells (paRow w.heap.size) 59 (0, 0))
  rw [hz5] at hn
  have hb6 := hb5.alloc hb5.size (.cells (paRow w.heap.size) 59 (0, 0))
  have HN := Lib.hid hn
  have HB := Lib.hid hb6
  clear hn hb5 hb6 hz5
  unfold paRow at *
  go_enter Tryd.func32, Tryd.ntmps32
  go_wp2_with fail
  go_ret
  exact ⟨rfl, HN.out, HB.out⟩

def MetP (l : List UInt8) (w : World) (e : Ending) (w' : World) : Prop := ∃ v', e = .returned v' ∧ FS w' w.heap.size v' l ∧ Below w.heap.size w w'
set_option maxRecDepth 100000 in
set_option maxHeartbeats 3200000 in
theorem ex_kind (w : World) : Calls Tryd.prog 52 #[.agg #[.int .i64 12033, .int .i64 2, .slice none 0 0, .int .i64 1, .int .i64 32, .int .i64 0, .int .i64 0, .int .i64 1, .slice none 0 0]] w (MetP [2] w) := by
  have HK : Hid (∀ W, Calls Tryd.prog 47 #[.int .i64 2] W fun e w' => e = .returned (.bool false) ∧ W = w') := fun W => hasr_any 2 W
  have hb := alloc2_below w (Obj.cells #[.int .i64 12033, .int .i64 2, .slice none 0 0, .int .i64 1, .int .i64 32, .int .i64 0, .int .i64 0, .int .i64 1, .slice none 0 0] 60) (Obj.cells #[.int .u8 2] 5)
  have hf := FS.new (w.alloc (Obj.cells #[.int .i64 12033, .int .i64 2, .slice none 0 0, .int .i64 1, .int .i64 32, .int .i64 0, .int .i64 0, .int .i64 1, .slice none 0 0] 60)) #[.int .u8 2] [2] rfl (by simp)
  rw [alloc_size w] at hf
  have HB := Lib.hid hb
  have HF := Lib.hid (hf.more (Nat.le_succ _))
  clear hb hf
  go_enter Tryd.func52, Tryd.ntmps52
  go_wp2_with fail
  refine (HK.out _).mono ?_
  rintro e w1 ⟨rfl, rfl⟩
  go_wp2_with fail
  go_ret
  exact ⟨_, rfl, HF.out, HB.out⟩
theorem pair_any (N : Nat) (w : World) (h : N < 65536) : Calls Tryd.prog 80 #[.int .i64 N] w (MetP (putL N 2) w) := by
  have HP := Lib.hid (pput_own N 2 w (by omega) (by omega) (by omega) (by omega))
  go_enter Tryd.func80, Tryd.ntmps80
  go_wp2_with fail
  refine HP.out.mono ?_
  rintro e w1 ⟨v1, rfl, hf, hb⟩
  obtain ⟨A, c, rfl, _⟩ := id hf.1
  have HF := Lib.hid hf
  have HB := Lib.hid hb
  clear hf hb
  go_wp2_with fail
  go_ret
  exact ⟨_, rfl, HF.out, HB.out⟩
set_option maxRecDepth 100000 in
set_option maxHeartbeats 3200000 in
theorem ex_id (w : World) : Calls Tryd.prog 53 #[.agg #[.int .i64 12033, .int .i64 2, .slice none 0 0, .int .i64 1, .int .i64 32, .int .i64 0, .int .i64 0, .int .i64 1, .slice none 0 0]] w (MetP [47, 1] w) := by
  have hb := alloc_below w (Obj.cells #[.int .i64 12033, .int .i64 2, .slice none 0 0, .int .i64 1, .int .i64 32, .int .i64 0, .int .i64 0, .int .i64 1, .slice none 0 0] 60)
  have hp : putL 12033 2 = [47, 1] := by kernel_rfl
  have h := pair_any 12033 (w.alloc (Obj.cells #[.int .i64 12033, .int .i64 2, .slice none 0 0, .int .i64 1, .int .i64 32, .int .i64 0, .int .i64 0, .int .i64 1, .slice none 0 0] 60)) (by omega)
  rw [hp] at h
  have HP := Lib.hid h
  have HB := Lib.hid hb
  clear h hp hb
  go_enter Tryd.func53, Tryd.ntmps53
  go_wp2_with fail
  refine HP.out.mono ?_
  rintro e w1 ⟨v1, rfl, hf, hb⟩
  obtain ⟨A, c, rfl, _⟩ := id hf.1
  have HF := Lib.hid (hf.more HB.out.size)
  have HB1 := Lib.hid (HB.out.trans (hb.mono HB.out.size))
  clear hf hb
  go_wp2_with fail
  go_ret
  exact ⟨_, rfl, HF.out, HB1.out⟩
set_option maxRecDepth 100000 in
set_option maxHeartbeats 3200000 in
theorem ex_name (w : World) : Calls Tryd.prog 54 #[.agg #[.int .i64 12033, .int .i64 2, .slice none 0 0, .int .i64 1, .int .i64 32, .int .i64 0, .int .i64 0, .int .i64 1, .slice none 0 0]] w (MetP [] w) := by
  have HB := Lib.hid (alloc_below w (Obj.cells #[.int .i64 12033, .int .i64 2, .slice none 0 0, .int .i64 1, .int .i64 32, .int .i64 0, .int .i64 0, .int .i64 1, .slice none 0 0] 60))
  go_enter Tryd.func54, Tryd.ntmps54
  go_wp2_with fail
  go_ret
  exact ⟨_, rfl, FS.nil _ _ 0 none (Nat.zero_le _), HB.out⟩
set_option maxRecDepth 100000 in
set_option maxHeartbeats 3200000 in
theorem ex_size (w : World) : Calls Tryd.prog 55 #[.agg #[.int .i64 12033, .int .i64 2, .slice none 0 0, .int .i64 1, .int .i64 32, .int .i64 0, .int .i64 0, .int .i64 1, .slice none 0 0]] w (MetP [0, 32] w) := by
  have hb := alloc_below w (Obj.cells #[.int .i64 12033, .int .i64 2, .slice none 0 0, .int .i64 1, .int .i64 32, .int .i64 0, .int .i64 0, .int .i64 1, .slice none 0 0] 60)
  have hp : putL 32 2 = [0, 32] := by kernel_rfl
  have h := pair_any 32 (w.alloc (Obj.cells #[.int .i64 12033, .int .i64 2, .slice none 0 0, .int .i64 1, .int .i64 32, .int .i64 0, .int .i64 0, .int .i64 1, .slice none 0 0] 60)) (by omega)
  rw [hp] at h
  have HP := Lib.hid h
  have HB := Lib.hid hb
  clear h hp hb
  go_enter Tryd.func55, Tryd.ntmps55
  go_wp2_with fail
  refine HP.out.mono ?_
  rintro e w1 ⟨v1, rfl, hf, hb⟩
  obtain ⟨A, c, rfl, _⟩ := id hf.1
  have HF := Lib.hid (hf.more HB.out.size)
  have HB1 := Lib.hid (HB.out.trans (hb.mono HB.out.size))
  clear hf hb
  go_wp2_with fail
  go_ret
  exact ⟨_, rfl, HF.out, HB1.out⟩
set_option maxRecDepth 100000 in
set_option maxHeartbeats 3200000 in
theorem ex_short (w : World) : Calls Tryd.prog 56 #[.agg #[.int .i64 12033, .int .i64 2, .slice none 0 0, .int .i64 1, .int .i64 32, .int .i64 0, .int .i64 0, .int .i64 1, .slice none 0 0]] w (MetP [1] w) := by
  have hb := alloc2_below w (Obj.cells #[.int .i64 12033, .int .i64 2, .slice none 0 0, .int .i64 1, .int .i64 32, .int .i64 0, .int .i64 0, .int .i64 1, .slice none 0 0] 60) (Obj.cells #[.int .u8 1] 5)
  have hf := FS.new (w.alloc (Obj.cells #[.int .i64 12033, .int .i64 2, .slice none 0 0, .int .i64 1, .int .i64 32, .int .i64 0, .int .i64 0, .int .i64 1, .slice none 0 0] 60)) #[.int .u8 1] [1] rfl (by simp)
  rw [alloc_size w] at hf
  have HB := Lib.hid hb
  have HF := Lib.hid (hf.more (Nat.le_succ _))
  clear hb hf
  go_enter Tryd.func56, Tryd.ntmps56
  go_wp2_with fail
  go_ret
  exact ⟨_, rfl, HF.out, HB.out⟩
set_option maxRecDepth 100000 in
set_option maxHeartbeats 3200000 in
theorem ex_state (w : World) : Calls Tryd.prog 57 #[.agg #[.int .i64 12033, .int .i64 2, .slice none 0 0, .int .i64 1, .int .i64 32, .int .i64 0, .int .i64 0, .int .i64 1, .slice none 0 0]] w (MetP [1] w) := by
  have hb := alloc2_below w (Obj.cells #[.int .i64 12033, .int .i64 2, .slice none 0 0, .int .i64 1, .int .i64 32, .int .i64 0, .int .i64 0, .int .i64 1, .slice none 0 0] 60) (Obj.cells #[.int .u8 1] 5)
  have hf := FS.new (w.alloc (Obj.cells #[.int .i64 12033, .int .i64 2, .slice none 0 0, .int .i64 1, .int .i64 32, .int .i64 0, .int .i64 0, .int .i64 1, .slice none 0 0] 60)) #[.int .u8 1] [1] rfl (by simp)
  rw [alloc_size w] at hf
  have HB := Lib.hid hb
  have HF := Lib.hid (hf.more (Nat.le_succ _))
  clear hb hf
  go_enter Tryd.func57, Tryd.ntmps57
  go_wp2_with fail
  go_ret
  exact ⟨_, rfl, HF.out, HB.out⟩
set_option maxRecDepth 100000 in
set_option maxHeartbeats 3200000 in
theorem ex_rules (w : World) (hT : Tb w) : Calls Tryd.prog 58 #[.agg #[.int .i64 12033, .int .i64 2, .slice none 0 0, .int .i64 1, .int .i64 32, .int .i64 0, .int .i64 0, .int .i64 1, .slice none 0 0]] w (MetP [] w) := by
  have hb := alloc_below w (Obj.cells #[.int .i64 12033, .int .i64 2, .slice none 0 0, .int .i64 1, .int .i64 32, .int .i64 0, .int .i64 0, .int .i64 1, .slice none 0 0] 60)
  have h : Calls Tryd.prog 81 #[.slice none 0 0] (w.alloc (Obj.cells #[.int .i64 12033, .int .i64 2, .slice none 0 0, .int .i64 1, .int .i64 32, .int .i64 0, .int .i64 0, .int .i64 1, .slice none 0 0] 60)) (EnrP [] (w.alloc (Obj.cells #[.int .i64 12033, .int .i64 2, .slice none 0 0, .int .i64 1, .int .i64 32, .int .i64 0, .int .i64 0, .int .i64 1, .slice none 0 0] 60))) := penr_any [] _ _ (RL.nil _ _) (hT.on hb) (fun k h => absurd h (by simp))
  have hm : rM [] = [] := by kernel_rfl
  have he : rE [] = 0 := by kernel_rfl
  unfold EnrP at h
  rw [hm, he] at h
  have HP := Lib.hid h
  have HB := Lib.hid hb
  clear h hm he hb
  go_enter Tryd.func58, Tryd.ntmps58
  go_wp2_with fail
  refine HP.out.mono ?_
  rintro e w1 ⟨v1, rfl, hf, hb⟩
  obtain ⟨A, c, rfl, _, hc, _⟩ := id hf
  have HB1 := Lib.hid (HB.out.trans (hb.mono HB.out.size))
  clear hf hb
  go_wp2_with fail
  go_ret
  exact ⟨_, rfl, FS.nil _ _ c A hc, HB1.out⟩
end Go.Proofs.YtkjcafhaenkpbaaDoor
