/-
  The walk of Encode.
-/
import Derived.Test.YtjkbfogjfgnhiaaDoorRul
namespace Go.Proofs.YtjkbfogjfgnhiaaDoor
set_option linter.unusedVariables false
set_option linter.unusedSimpArgs false
open Go.RowKit

theorem info70 : (Tryd.prog.info? 70).map (fun i => (i.zero, i.size, i.bytes)) = some (some (.agg #[.int .i64 0, .slice none 0 0, .slice none 0 0]), 3, 56) := by kernel_rfl
def trow (u : Value) : List Value := [.int .i64 128, u, .slice none 0 0]
theorem trow_len : ∀ vs : List Value, (vs.flatMap trow).length = vs.length * 3
  | [] => rfl
  | u :: vs => by rw [List.flatMap_cons, List.length_append, trow_len vs, List.length_cons]; simp [trow]; omega
theorem trow_get : ∀ (vs : List Value) (k j : Nat), k < vs.length → j < 3 → (vs.flatMap trow)[k * 3 + j]? = (trow (vs.getD k (.slice none 0 0)))[j]?
  | [], k, j, h, _ => absurd h (by simp)
  | u :: vs, 0, j, _, hj => by
    rw [List.flatMap_cons, List.getElem?_append_left (by simp [trow]; omega)]
    simp [List.getD]
  | u :: vs, k + 1, j, h, hj => by
    rw [List.flatMap_cons, List.getElem?_append_right (by simp [trow]; omega)]
    have := trow_get vs k j (by simpa using h) hj
    rw [show (k + 1) * 3 + j - (trow u).length = k * 3 + j by simp [trow]; omega, this]
    simp [List.getD]
/-- An own row of data objects with the tag 80; their values lie apart from it. -/
def OT (w : World) (base : Nat) (v : Value) (ls : List (List UInt8)) : Prop :=
  ∃ vs : List Value, w.ownsRow base 70 3 v ls.length (vs.flatMap trow) ∧ vs.length = ls.length ∧ (∀ u ∈ vs, u.oneCell' = true) ∧ ∀ k, k < ls.length → SL w w.heap.size (vs.getD k (.slice none 0 0)) (ls.getD k []) ∧ (0 < (ls.getD k []).length → (vs.getD k (.slice none 0 0)).ownBlock ≠ v.ownBlock)
theorem OT.nil (w : World) (base : Nat) : OT w base (.slice none 0 0) [] := ⟨[], World.ownsRow_nil .., rfl, by simp, fun k hk => absurd hk (by simp)⟩
theorem OT.later {w W : World} {base : Nat} {v : Value} {ls : List (List UInt8)} (h : OT w base v ls) (hb : Below w.heap.size w W) : OT W base v ls := by
  obtain ⟨vs, h1, h2, h4, h3⟩ := h
  refine ⟨vs, ?_, h2, h4, fun k hk => ⟨(h3 k hk).1.on hb, (h3 k hk).2⟩⟩
  exact h1.kept (row := none) ⟨hb.os, hb.tape, hb.output, hb.size, fun k hk _ => hb.block k hk⟩ (by
    cases hv : v.ownBlock with
    | none => exact .inl rfl
    | some k => exact .inr (by simp))
theorem OT.ltB {w : World} {base : Nat} {v : Value} {ls : List (List UInt8)} (h : OT w base v ls) : ∀ b, v.ownBlock = some b → base ≤ b ∧ b < w.heap.size := by
  obtain ⟨vs, h1, _⟩ := h
  exact fun b hb => h1.lt b hb
theorem OT.value {w : World} {base : Nat} {v : Value} {ls : List (List UInt8)} (h : OT w base v ls) : ∃ A c, v = .slice A ls.length c := by
  obtain ⟨vs, h1, _⟩ := h
  rcases h1.2 with ⟨rfl, h0⟩ | ⟨g, cap, cur, rfl, _⟩
  · exact ⟨none, 0, by rw [h0]⟩
  · exact ⟨_, _, rfl⟩
def tObj (l : List UInt8) : T := .mk 128 l []
theorem OT.tl {w : World} {base : Nat} {v : Value} {ls : List (List UInt8)} (h : OT w base v ls) : TL w w.heap.size v (ls.map tObj) := by
  obtain ⟨vs, h1, h2, h4, h3⟩ := h
  have hml : (ls.map tObj).length = ls.length := List.length_map ..
  rcases id h1.2 with ⟨rfl, h0⟩ | ⟨g, cap, cur, rfl, hb, hg, hn, hm, hs, ht⟩
  · exact ⟨none, 0, by rw [hml, h0], by rw [hml, h0]; exact Nat.le_refl _, Nat.zero_le _, fun hp => absurd hp (by omega)⟩
  · refine ⟨some ⟨g, 0, none⟩, cap, by rw [hml], by rw [hml]; exact hn, hm, fun _ => ⟨g, 0, rfl, ?_, ?_⟩⟩
    · rcases Nat.lt_or_ge g w.heap.size with hlt | hge
      · exact hlt
      · rw [Array.getElem?_eq_none hge] at hg; cases hg
    · have key : ∀ (m : List (List UInt8)) (j : Nat), j + m.length = ls.length → (∀ i, i < m.length → m.getD i [] = ls.getD (j + i) []) → TsAt w w.heap.size g (0 + j * 3) (m.map tObj) := by
        intro m
        induction m with
        | nil => intro j _ _; unfold TsAt; trivial
        | cons x m ih =>
          intro j hj hi
          rw [List.map_cons]
          unfold TsAt
          have hjl : j < ls.length := by simp at hj; omega
          have hx : x = ls.getD j [] := by have := hi 0 (by simp); simpa using this
          have cell := fun i (hi : i < 3) => World.ownsRow.cellAt (w := w) (base := base) (e := 70) (size := 3) (g := g) (n := ls.length) (cap := cap) (xs := vs.flatMap trow) h1 (j * 3 + i) (by omega)
          have e := fun i (hi : i < 3) => trow_get vs j i (by omega) hi
          refine ⟨?_, ?_⟩
          · refine TAt.make ?_ ⟨vs.getD j (.slice none 0 0), ?_, ?_⟩ ⟨.slice none 0 0, ?_, ⟨none, 0, rfl, Nat.zero_le _, Nat.zero_le _, fun hp => absurd hp (by simp [tObj, T.kids])⟩⟩
            · rw [Nat.zero_add]; exact (cell 0 (by omega)).trans (e 0 (by omega))
            · rw [Nat.zero_add]; exact (cell 1 (by omega)).trans (e 1 (by omega))
            · rw [hx]; exact (h3 j hjl).1
            · rw [Nat.zero_add]; exact (cell 2 (by omega)).trans (e 2 (by omega))
          · have := ih (j + 1) (by simp at hj; omega) (fun i hi' => by
              have := hi (i + 1) (by simp; omega)
              rw [show j + 1 + i = j + (i + 1) by omega, ← this]
              simp)
            rw [show 0 + (j + 1) * 3 = 0 + j * 3 + 3 by omega] at this
            exact this
      exact key ls 0 (by omega) (fun i _ => by rw [Nat.zero_add])

/-- One object appended (it has just been laid into a block of its own, number B). -/
theorem wpList_appT {ops : Array Oper} {rest : List Oper} {o : Oper} {a : Act} {W : World} {Q : Exit → Act → World → Prop} (hgd : o.guard = none) (s x : Operand)
    (ho : o.op = .call { callee := .builtin .append, args := #[s, x], argTypes := #[67, 67] }) (base : Nat) (v : Value) (ls : List (List UInt8)) (u : Value) (l : List UInt8) (B : Nat)
    (hs : a.eval s = v) (hx : a.eval x = .slice (some ⟨B, 0, none⟩) 1 1) (hown : OT W base v ls)
    (hu : SL W W.heap.size u l) (hne : 0 < l.length → u.ownBlock ≠ v.ownBlock) (hB : W.heap[B]? = some (.cells #[.int .i64 128, u, .slice none 0 0] 70 (0, 0)))
    (hlen : ls.length ≤ 1000) (hbase : base ≤ W.heap.size)
    (h : ∀ v' w', OT w' base v' (ls ++ [l]) → Below base W w' → wpList Tryd.prog ops Q rest (a.put o.dst v') w') : wpList Tryd.prog ops Q (o :: rest) a W := by
  obtain ⟨i0, hi0, hz0, hz1, hz2⟩ := info_parts info70
  obtain ⟨vs, h1, h2, h4, h3⟩ := hown
  have hu1 : u.oneCell' = true := by obtain ⟨A, c, rfl, _⟩ := hu; rfl
  refine wpList_append_lies W hgd s x 67 ho base 70 i0 (.agg #[.int .i64 0, .slice none 0 0, .slice none 0 0]) 3 56 Tryd.underlying67 hi0 hz0 hz1 hz2 rfl (by omega) v ls.length (vs.flatMap trow) hs h1 ⟨B, 0, none⟩ 1 1 (trow u) hx rfl
    (World.news_of_block (cs := #[.int .i64 128, u, .slice none 0 0]) hB) (by intro y hy; simp [trow] at hy; rcases hy with rfl | rfl | rfl <;> first | exact hu1 | rfl) (by omega) (by simp only [maxLen]; omega) (by omega) hbase W.heap.size rfl fun g cap w' k1 k2 k3 k4 => ?_
  have hnew : ∀ {u l}, SL W W.heap.size u l → (0 < l.length → u.ownBlock ≠ v.ownBlock) → SL w' w'.heap.size u l ∧ (0 < l.length → u.ownBlock ≠ some g) := fun {u l} hu hne => by
    refine ⟨hu.grown hne k2, fun hp e => ?_⟩
    rcases k3 with k3 | k3
    · exact hne hp (e.trans k3.symm)
    · obtain ⟨A, c, rfl, _, _, hr⟩ := hu
      obtain ⟨b, o, rfl, hb, _⟩ := hr hp
      simp only [Value.ownBlock, Option.some.injEq] at e
      omega
  refine h _ w' ⟨vs ++ [u], ?_, by simp [h2], ?_, fun k hk => ?_⟩ ((Below.refl _ _).grown k2 hbase (fun k hk => (h1.lt k hk).1))
  · rw [List.flatMap_append, List.length_append]
    simpa using k1
  · intro y hy
    rcases List.mem_append.1 hy with hy | hy
    · exact h4 y hy
    · simp at hy; subst hy; exact hu1
  · have hl : (ls ++ [l]).length = ls.length + 1 := by simp
    rcases Nat.lt_or_ge k ls.length with e | e
    · have e1 : (vs ++ [u]).getD k (.slice none 0 0) = vs.getD k (.slice none 0 0) := by simp [List.getD, List.getElem?_append, h2, e]
      have e2 : (ls ++ [l]).getD k [] = ls.getD k [] := by simp [List.getD, List.getElem?_append, e]
      rw [e1, e2]
      exact hnew (h3 k e).1 (h3 k e).2
    · obtain rfl : k = ls.length := by omega
      have e1 : (vs ++ [u]).getD ls.length (.slice none 0 0) = u := by simp [List.getD, ← h2]
      have e2 : (ls ++ [l]).getD ls.length [] = l := by simp [List.getD]
      rw [e1, e2]
      exact hnew hu hne

theorem tagF_length (t : Int) : (tagF t).length ≤ 2 := by unfold tagF; split <;> simp [putL_length]
theorem lenF_length (n : Nat) : (lenF n).length ≤ 3 := by unfold lenF; split <;> (try split) <;> simp
/-- The bytes of a rule. -/
def rby (r : Rl) : List UInt8 := UInt8.ofNat r.ops.toNat :: r.cond.enc
def rts (rs : List Rl) : List T := rs.map fun r => tObj (rby r)
def rE (rs : List Rl) : Int := if chkR rs = 0 then encE (rts rs) else chkR rs
def rM (rs : List Rl) : List UInt8 := if chkR rs = 0 then encM (rts rs) else []
theorem rts_len : ∀ rs : List Rl, (∀ (k : Nat) (h : k < rs.length), rs[k].cond.cnt ≤ 16) → (encL (rts rs)).length ≤ 60 * rs.length
  | [], _ => by simp [rts, encL]
  | r :: rs, h => by
    have h0 := h 0 (by simp)
    have ih := rts_len rs (fun k hk => by have := h (k + 1) (by simpa using hk); simpa using this)
    have he := Cn.enc_cnt r.cond
    have h1 := tagF_length 128
    have h2 := lenF_length ((rby r) ++ encL []).length
    simp only [List.getElem_cons_zero] at h0
    have e : (tObj (rby r)).enc = tagF 128 ++ (lenF ((rby r) ++ encL []).length ++ ((rby r) ++ encL [])) := by rw [tObj, T.enc]
    show (encL (tObj (rby r) :: rts rs)).length ≤ _
    rw [encL, List.length_append, e]
    simp only [List.length_append, List.length_cons, encL, List.length_nil] at h2 ⊢
    have e3 : (rby r).length = r.cond.enc.length + 1 := by simp [rby]
    rw [e3] at h2 ⊢
    omega
def EnrP (rs : List Rl) (w : World) (e : Ending) (w' : World) : Prop := ∃ v', e = .returned (.tuple #[v', .int .i64 (rE rs)]) ∧ SL w' w'.heap.size v' (rM rs) ∧ Below w.heap.size w w'

set_option maxRecDepth 100000 in
set_option maxHeartbeats 6400000 in
theorem penr_any (rs : List Rl) (v : Value) (w : World) (hk : RL w w.heap.size v rs) (hT : Tb w) (hc : ∀ (k : Nat) (h : k < rs.length), rs[k].cond.cnt ≤ 400) :
    Calls Tryd.prog 29 #[v] w (EnrP rs w) := by
  have HV := Lib.hid (pchr_any rs v w hk hT hc)
  obtain ⟨A, cap, rfl, h1, h2, h3⟩ := id hk
  unfold maxLen at h2
  have HK := Lib.hid hk
  have HT := Lib.hid hT
  clear hk hT hc
  by_cases h0 : chkR rs = 0
  · have hs0 : chkS rs = 0 := by
      unfold chkR at h0
      by_cases h8 : 8 < rs.length
      · rw [if_pos h8] at h0; omega
      · rw [if_neg h8] at h0; exact h0
    have h8 : rs.length ≤ 8 := by
      unfold chkR at h0
      by_cases h8 : 8 < rs.length
      · rw [if_pos h8] at h0; omega
      · omega
    have HG := Lib.hid fun k hk => chkS_get rs k hk hs0
    have HRE : Hid (rE rs = encE (rts rs)) := if_pos h0
    have HRM : Hid (rM rs = encM (rts rs)) := if_pos h0
    have HL : Hid ((encL (rts rs)).length ≤ 100000) := by
      show _ ≤ _
      have := rts_len rs (fun k hk => (chk_len (HG.out k hk).2).1)
      omega
    rw [h0] at HV
    clear h0 hs0
    go_enter Tryd.func29, Tryd.ntmps29
    go_wp2_with fail
    refine HV.out.mono ?_
    rintro e w1 ⟨rfl, hb1⟩
    have HB1 := Lib.hid hb1
    clear hb1
    go_wp2_with fail
    go_loopw [5, 15] (fun q i wr => ∃ (k : Nat), k ≤ rs.length ∧ i = .int .i64 k ∧ Hid (OT wr w.heap.size q ((rs.take k).map rby)) ∧ Hid (Below w.heap.size w wr)) (fun _ i _ => rs.length - (intOf i).toNat)
    case atStart => exact ⟨0, Nat.zero_le _, rfl, by rw [List.take_zero]; exact OT.nil _ _, HB1⟩
    case round =>
      obtain ⟨k, hkl, rfl, HO, HB⟩ := hrel
      by_cases hlt : k < rs.length
      · obtain ⟨b1, o1, rfl, hb1, hts⟩ := h3.out (by omega)
        have hra := (hts k hlt).keep hb1 HB.out.size (fun p hp => HB.out.cell hp)
        have hg := HG.out k hlt
        have htk : (rs.take (k + 1)).map rby = (rs.take k).map rby ++ [rby rs[k]] := by
          rw [List.take_succ_eq_append_getElem hlt, List.map_append]; rfl
        obtain ⟨r, hr⟩ : ∃ r, r = rs[k] := ⟨_, rfl⟩
        rw [← hr] at hra hg htk
        clear hts hr
        obtain ⟨ops, c⟩ := r
        obtain ⟨g0, hca⟩ := hra
        obtain ⟨A2, c2, g1, g2, g3, hu⟩ := hca.cells
        simp only at g0 g1 g2 g3 hu hg
        obtain ⟨hg1, hg2⟩ := hg
        have hops : 1 ≤ ops ∧ ops ≤ 255 := by unfold opsB at hg1; simpa using hg1
        obtain ⟨hop1, hop2⟩ := hops
        have hcl := chk_len hg2
        have hcc := Cn.enc_cnt c
        have hok := chk_ok hg2
        have hsb := HB.out.size
        obtain ⟨D, hD⟩ : ∃ D : Nat, ops = (D : Int) := ⟨ops.toNat, by omega⟩
        subst hD
        have hw2 := alloc2_below wr (Obj.cells #[Value.int IntKind.i64 (D : Int), Value.int IntKind.i64 c.op, Value.int IntKind.i64 c.n, Value.slice A2 c.kids.length c2] 53) (Obj.cells #[Value.int IntKind.u8 (D : Int)] 5)
        have hz1 : (wr.alloc (Obj.cells #[Value.int IntKind.i64 (D : Int), Value.int IntKind.i64 c.op, Value.int IntKind.i64 c.n, Value.slice A2 c.kids.length c2] 53)).heap.size = wr.heap.size + 1 := alloc_size _ _
        have hn2 := heap_alloc_new (wr.alloc (Obj.cells #[Value.int IntKind.i64 (D : Int), Value.int IntKind.i64 c.op, Value.int IntKind.i64 c.n, Value.slice A2 c.kids.length c2] 53)) (Obj.cells #[Value.int IntKind.u8 (D : Int)] 5)
        rw [hz1] at hn2
        have hob := OB.of_cells (w := (wr.alloc (Obj.cells #[Value.int IntKind.i64 (D : Int), Value.int IntKind.i64 c.op, Value.int IntKind.i64 c.n, Value.slice A2 c.kids.length c2] 53)).alloc (Obj.cells #[Value.int IntKind.u8 (D : Int)] 5)) (base := wr.heap.size) (g := wr.heap.size + 1) (n := 1) (l := [UInt8.ofNat D]) (by omega) rfl (by unfold maxLen; omega)
          (by rw [hn2]; simp [bv]; omega)
        have HW := Lib.hid (wri_any (c.dep + 1) c (by omega) wr.heap.size [UInt8.ofNat D] _ (.slice A2 c.kids.length c2) _ hok (by omega) (by simp) (by simp; omega) ((HT.out.on HB.out).size) hw2.size ((HT.out.on HB.out).on hw2) hob (hu.below hw2))
        have HTK := Lib.hid htk
        have HW2 := Lib.hid hw2
        clear hn2 hz1 hob hw2 hca hu htk
        obtain ⟨A5, c5, hq5⟩ := HO.out.value
        rw [show ((rs.take k).map rby).length = k by simp; omega] at hq5
        subst hq5
        go_wp2_with fail
        refine HW.out.mono ?_
        rintro e w3 ⟨g, cp, rfl, hob3, hb3⟩
        have hb03 : Below wr.heap.size wr w3 := HW2.out.trans hb3
        have HO3 := Lib.hid ((HO.out.later hb03).later (alloc_below w3 (Obj.cells #[Value.int IntKind.i64 128, Value.slice (some ⟨g, 0, none⟩) ([UInt8.ofNat D] ++ c.enc).length cp, Value.slice none 0 0] 70)))
        have HS3 := Lib.hid (hob3.sl.on (alloc_below w3 (Obj.cells #[Value.int IntKind.i64 128, Value.slice (some ⟨g, 0, none⟩) ([UInt8.ofNat D] ++ c.enc).length cp, Value.slice none 0 0] 70)))
        have HNE := Lib.hid (show 0 < ([UInt8.ofNat D] ++ c.enc).length → (Value.slice (some ⟨g, 0, none⟩) ([UInt8.ofNat D] ++ c.enc).length cp).ownBlock ≠ (Value.slice A5 k c5).ownBlock from fun _ e => by
          have h1 := (HO.out.ltB g e.symm).2
          have h2 := (hob3.ltB g rfl).1
          omega)
        have hs3 := hb03.size
        have HBE := Lib.hid (HB.out.trans ((hb03.trans ((alloc_below w3 (Obj.cells #[Value.int IntKind.i64 128, Value.slice (some ⟨g, 0, none⟩) ([UInt8.ofNat D] ++ c.enc).length cp, Value.slice none 0 0] 70)).mono hs3)).mono hsb))
        have hlk : ((rs.take k).map rby).length ≤ 1000 := by simp; omega
        have HBY : Hid (rby ⟨(D : Int), c⟩ = [UInt8.ofNat D] ++ c.enc) := rfl
        generalize [UInt8.ofNat D] ++ c.enc = m at *
        clear hob3 hb3 hb03
        go_wp2_with (at_builtin; refine wpList_appT rfl (.tmp 19) (.tmp 28) rfl w.heap.size _ ((rs.take k).map rby) _ m w3.heap.size rfl rfl HO3.out HS3.out HNE.out (heap_alloc_new _ _) hlk (by simp; omega) ?_; intro v5 w5 hot5 hb5)
        have HOT5 := Lib.hid hot5
        have HB5 := Lib.hid (HBE.out.trans hb5)
        clear hot5 hb5
        go_roundw
        case rel => exact ⟨k + 1, by omega, by go_num, by rw [HTK.out, HBY.out]; exact HOT5.out, HB5⟩
        case measure => simp [intOf]; omega
      · have hot := HO.out
        rw [show k = rs.length by omega, List.take_length] at hot
        have htl := hot.tl
        have e : (rs.map rby).map tObj = rts rs := by rw [List.map_map]; rfl
        rw [e] at htl
        have HE := Lib.hid (pencode_any (rts rs) _ wr htl HL.out)
        clear htl hot e
        go_wp2_with fail
        refine HE.out.mono ?_
        rintro e w5 ⟨v5, rfl, hsl5, hb5⟩
        have HB5 := Lib.hid (HB.out.trans (hb5.mono HB.out.size))
        obtain ⟨A6, c6, rfl, _⟩ := id hsl5
        have HSL5 := Lib.hid hsl5
        clear hsl5 hb5
        go_wp2_with fail
        go_ret2
        exact ⟨.slice A6 (encM (rts rs)).length c6, by rw [HRE.out]; rfl, by rw [HRM.out]; exact HSL5.out, HB5.out⟩
  · have HRE : Hid (rE rs = chkR rs) := if_neg h0
    have HRM : Hid (rM rs = []) := if_neg h0
    generalize chkR rs = E at *
    have he1 : (E != 0) = true := by simpa using h0
    have he2 : (E == 0) = false := by simpa using h0
    have he3 : decide (E = 0) = false := decide_eq_false h0
    go_enter Tryd.func29, Tryd.ntmps29
    go_wp2_with fail
    refine HV.out.mono ?_
    rintro e w1 ⟨rfl, hb1⟩
    go_wp2_with fail
    go_ret2
    exact ⟨.slice none 0 0, by rw [HRE.out]; rfl, by rw [HRM.out]; exact SL.nil _ _ _ _ (Nat.zero_le _), hb1⟩
end Go.Proofs.YtjkbfogjfgnhiaaDoor
