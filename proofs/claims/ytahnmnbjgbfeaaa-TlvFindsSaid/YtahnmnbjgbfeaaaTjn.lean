/-
  Lists of data objects laid one behind the other; the law TlvJoins.
-/
import Derived.Test.YtahnmnbjgbfeaaaOpt
namespace Go.Proofs.Ytahnmnbjgbfeaaa
set_option linter.unusedVariables false
set_option linter.unusedSimpArgs false
open Go.RowKit

theorem info58z : (Try.prog.info? 58).map (fun i => (i.zero, i.size, i.bytes)) = some (some (.agg #[.int .i64 0, .slice none 0 0, .slice none 0 0]), 3, 56) := by kernel_rfl
/-- What the cells of a list of data objects hold; all that they lead to lies below block B. -/
inductive Dso (w : World) (B : Nat) : List Value → List T → Prop
  | nil : Dso w B [] []
  | cons {a b c : Value} {cs : List Value} {t : T} {ts : List T} (h1 : a = .int .i64 t.tag) (h2 : SL w B b t.val) (h3 : TL w B c t.kids) (h : Dso w B cs ts) : Dso w B (a :: b :: c :: cs) (t :: ts)
theorem Dso.len {w : World} {B : Nat} {cs : List Value} {ts : List T} (h : Dso w B cs ts) : cs.length = ts.length * 3 := by
  induction h with
  | nil => rfl
  | cons h1 h2 h3 h ih => simp only [List.length_cons, ih]; omega
theorem Dso.app {w : World} {B : Nat} {cs ds : List Value} {ts us : List T} (h : Dso w B cs ts) (g : Dso w B ds us) : Dso w B (cs ++ ds) (ts ++ us) := by
  induction h with
  | nil => exact g
  | cons h1 h2 h3 h ih => exact .cons h1 h2 h3 ih
theorem Dso.bel {w w' : World} {B : Nat} {cs : List Value} {ts : List T} (h : Dso w B cs ts) (hb : Below B w w') : Dso w' B cs ts := by
  induction h with
  | nil => exact .nil
  | cons h1 h2 h3 h ih => exact .cons h1 (h2.below hb) (h3.below hb) ih
theorem Dso.more {w : World} {B B' : Nat} {cs : List Value} {ts : List T} (h : Dso w B cs ts) (hB : B ≤ B') : Dso w B' cs ts := by
  induction h with
  | nil => exact .nil
  | cons h1 h2 h3 h ih => exact .cons h1 (h2.more hB) (h3.keep hB fun _ _ => rfl) ih
theorem Dso.one {w : World} {B : Nat} {cs : List Value} {ts : List T} (h : Dso w B cs ts) : ∀ u ∈ cs, u.oneCell' = true := by
  induction h with
  | nil => simp
  | cons h1 h2 h3 h ih =>
    intro u hu
    simp only [List.mem_cons] at hu
    rcases hu with rfl | rfl | rfl | hu
    · rw [h1]; rfl
    · obtain ⟨A, c, rfl, _⟩ := h2; rfl
    · obtain ⟨A, c, rfl, _⟩ := h3; rfl
    · exact ih u hu
theorem TsAt.dsc {w : World} {B b : Nat} : ∀ (ts : List T) (o : Nat), TsAt w B b o ts → ∃ cs, Dso w B cs ts ∧ ∀ j u, cs[j]? = some u → w.cell? ⟨b, o + j, none⟩ = some u
  | [], o, _ => ⟨[], .nil, fun j u h => by simp at h⟩
  | t :: ts, o, h => by
    unfold TsAt at h
    obtain ⟨cs, hd, hc⟩ := TsAt.dsc ts (o + 3) h.2
    obtain ⟨g0, ⟨v, g1, hv⟩, u, g2, hu⟩ := h.1.parts
    refine ⟨.int .i64 t.tag :: v :: u :: cs, .cons rfl hv hu hd, fun j x hx => ?_⟩
    match j, hx with
    | 0, hx => simp only [List.getElem?_cons_zero, Option.some.injEq] at hx; rw [← hx]; exact g0
    | 1, hx => simp only [List.getElem?_cons_succ, List.getElem?_cons_zero, Option.some.injEq] at hx; rw [← hx]; exact g1
    | 2, hx => simp only [List.getElem?_cons_succ, List.getElem?_cons_zero, Option.some.injEq] at hx; rw [← hx]; exact g2
    | j + 3, hx =>
      simp only [List.getElem?_cons_succ] at hx
      have := hc j x hx
      rw [show o + (j + 3) = o + 3 + j by omega]
      exact this
theorem Dso.tsAt {w : World} {B b : Nat} {cs : List Value} {ts : List T} (h : Dso w B cs ts) : ∀ (o : Nat), (∀ j u, cs[j]? = some u → w.cell? ⟨b, o + j, none⟩ = some u) → TsAt w B b o ts := by
  induction h with
  | nil => intro o _; unfold TsAt; trivial
  | cons h1 h2 h3 h ih =>
    intro o hc
    unfold TsAt
    refine ⟨TAt.make ?_ ⟨_, hc 1 _ rfl, h2⟩ ⟨_, hc 2 _ rfl, h3⟩, ih (o + 3) fun j u hu => ?_⟩
    · rw [← h1]; exact hc 0 _ rfl
    · rw [show o + 3 + j = o + (j + 3) by omega]; exact hc (j + 3) u hu
/-- An own row of data objects, what they lead to lying below the row. -/
def OZ (w : World) (base : Nat) (v : Value) (ts : List T) : Prop := ∃ cs : List Value, w.ownsRow base 58 3 v ts.length cs ∧ Dso w base cs ts
theorem OZ.nil (w : World) (base : Nat) : OZ w base (.slice none 0 0) [] := ⟨[], World.ownsRow_nil .., .nil⟩
theorem OZ.value {w : World} {base : Nat} {v : Value} {ts : List T} (h : OZ w base v ts) : ∃ A c, v = .slice A ts.length c := by
  obtain ⟨cs, h, _⟩ := h
  rcases h.2 with ⟨rfl, h0⟩ | ⟨g, cap, cur, rfl, _⟩
  · exact ⟨none, 0, by rw [h0]⟩
  · exact ⟨_, _, rfl⟩
theorem OZ.tl {w : World} {base : Nat} {v : Value} {ts : List T} (h : OZ w base v ts) (hbase : base ≤ w.heap.size) : TL w w.heap.size v ts := by
  obtain ⟨cs, h, hd⟩ := h
  rcases id h.2 with ⟨rfl, h0⟩ | ⟨g, cap, cur, rfl, hb, hg, hn, hm, hs, ht⟩
  · exact ⟨none, 0, by rw [h0], by omega, Nat.zero_le _, fun hp => absurd hp (by omega)⟩
  · refine ⟨some ⟨g, 0, none⟩, cap, rfl, hn, hm, fun _ => ⟨g, 0, rfl, ?_, ?_⟩⟩
    · rcases Nat.lt_or_ge g w.heap.size with hlt | hge
      · exact hlt
      · rw [Array.getElem?_eq_none hge] at hg; cases hg
    · refine (hd.more hbase).tsAt 0 fun j u hu => ?_
      · have hj := (List.getElem?_eq_some_iff.1 hu).1
        have hl := hd.len
        have := (World.ownsRow.cellAt (w := w) (base := base) (e := 58) (size := 3) (g := g) (n := ts.length) (cap := cap) (xs := cs) h j (by omega)).trans hu
        rw [Nat.zero_add]
        exact this

theorem OZ.ltB {w : World} {base : Nat} {v : Value} {ts : List T} (h : OZ w base v ts) : ∀ b, v.ownBlock = some b → base ≤ b ∧ b < w.heap.size := by
  obtain ⟨cs, h, _⟩ := h
  exact fun b hb => h.lt b hb
theorem run_appZ (W : World) (base : Nat) (v : Value) (ts us : List T) (ty : TypeId) (A : Option Addr) (c : Nat) (hown : OZ W base v ts) (hu : TL W base (.slice A us.length c) us)
    (hlen : ts.length + us.length ≤ 1000000) (hbase : base ≤ W.heap.size) :
    ∃ v' w', (Builtin.append_ #[48, 48] ty #[v, .slice A us.length c]).run Try.prog W = .ok v' w' ∧ OZ w' base v' (ts ++ us) ∧ Below base W w' := by
  obtain ⟨i0, hi0, hz0, hz1, hz2⟩ := info_parts info58z
  obtain ⟨cs, hown', hd⟩ := id hown
  rcases Nat.eq_zero_or_pos us.length with h0 | h0
  · have hmn : us = [] := List.eq_nil_of_length_eq_zero h0
    subst hmn
    refine ⟨v, W, ?_, by simpa using hown, Below.refl _ _⟩
    rcases A with _ | ad
    · rcases hown'.2 with ⟨rfl, h0⟩ | ⟨g, cap, cur, rfl, _, _, hnc, _⟩
      · simp [Builtin.append_, run_underlying Try.underlying48, sizeOf, typeInfo, hi0, Builtin.lenOf, Builtin.firstCells]
      · simp [Builtin.append_, run_underlying Try.underlying48, sizeOf, typeInfo, hi0, Builtin.lenOf, Builtin.firstCells, hnc, storeCells]
    · rcases hown'.2 with ⟨rfl, h0⟩ | ⟨g, cap, cur, rfl, _, _, hnc, _⟩
      · simp [Builtin.append_, run_underlying Try.underlying48, sizeOf, typeInfo, hi0, Builtin.lenOf, Builtin.firstCells, loadCells, loadCellsFrom]
      · simp [Builtin.append_, run_underlying Try.underlying48, sizeOf, typeInfo, hi0, Builtin.lenOf, Builtin.firstCells, loadCells, loadCellsFrom, hnc, storeCells]
  · obtain ⟨A', c', hv', _, _, h3'⟩ := hu
    obtain ⟨rfl, _, rfl⟩ := Value.slice.inj hv'
    obtain ⟨b, o, rfl, hb, hts⟩ := h3'.out h0
    obtain ⟨ds, hds, hdc⟩ := TsAt.dsc us o hts
    obtain ⟨v', w', hr, h2, h3, h4, h5⟩ := run_append_own_at (P := Try.prog) W base 48 ty 58 i0 (.agg #[.int .i64 0, .slice none 0 0, .slice none 0 0]) 3 56 Try.underlying48 hi0 hz0 hz1 hz2 rfl (by omega) v ts.length cs hown' ⟨b, o, none⟩ us.length c ds hds.len
      (fun j u hu => by rw [addr_add]; exact hdc j u hu) hds.one (by simp only [maxLen]; omega) (by omega) hbase
    have hbel : Below base W w' := (Below.refl _ _).grown h3 hbase (fun k hk => (hown'.lt k hk).1)
    refine ⟨v', w', hr, ⟨cs ++ ds, ?_, (hd.app hds).bel hbel⟩, hbel⟩
    rw [List.length_append]
    exact h2
theorem wp_appZ {o : Oper} {a : Act} {W : World} {K : Act → World → Prop} {Q : Exit → Act → World → Prop} (s x : Operand)
    (ho : o.op = .call { callee := .builtin .append, args := #[s, x], argTypes := #[48, 48] }) (base : Nat) (v : Value) (ts us : List T) (A : Option Addr) (c : Nat)
    (hs : a.eval s = v) (hx : a.eval x = .slice A us.length c) (hown : OZ W base v ts) (hu : TL W base (.slice A us.length c) us)
    (hlen : ts.length + us.length ≤ 1000000) (hbase : base ≤ W.heap.size)
    (h : ∀ v' w', OZ w' base v' (ts ++ us) → Below base W w' → K (a.put o.dst v') w') : o.wp Try.prog a W K Q := by
  obtain ⟨v', w', hr, h2, h3⟩ := run_appZ W base v ts us o.type A c hown hu hlen hbase
  unfold Oper.wp execOp
  simp only [ho, resolve, invoke, builtin, Sem.run_bind, Sem.run_pure, Result.andThen_ok, List.map_toArray, List.map_cons, List.map_nil, hs, hx, hr]
  exact h v' w' h2 h3
theorem wpList_appZ {ops : Array Oper} {rest : List Oper} {o : Oper} {a : Act} {W : World} {Q : Exit → Act → World → Prop} (hgd : o.guard = none) (s x : Operand)
    (ho : o.op = .call { callee := .builtin .append, args := #[s, x], argTypes := #[48, 48] }) (base : Nat) (v : Value) (ts us : List T) (A : Option Addr) (c : Nat)
    (hs : a.eval s = v) (hx : a.eval x = .slice A us.length c) (hown : OZ W base v ts) (hu : TL W base (.slice A us.length c) us)
    (hlen : ts.length + us.length ≤ 1000000) (hbase : base ≤ W.heap.size)
    (h : ∀ v' w', OZ w' base v' (ts ++ us) → Below base W w' → wpList Try.prog ops Q rest (a.put o.dst v') w') : wpList Try.prog ops Q (o :: rest) a W :=
  wpList_plain hgd fun _ hK => wp_appZ s x ho base v ts us A c hs hx hown hu hlen hbase fun v' w' h2 h3 => hK _ _ (h v' w' h2 h3)
end Go.Proofs.Ytahnmnbjgbfeaaa
