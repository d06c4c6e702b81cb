
/-
  Conditions whose parts lie in blocks of a given set; own rows of conditions.
-/
import Derived.Test.YtjkbfogjfgnhiaaDoorDma
namespace Go.Proofs.YtjkbfogjfgnhiaaDoor
set_option linter.unusedVariables false
set_option linter.unusedSimpArgs false
open Go.RowKit

mutual
def CE (w : World) (S : Nat → Prop) (b o : Nat) : Cn → Prop
  | .mk op n kids => w.cell? ⟨b, o, none⟩ = some (.int .i64 op) ∧ w.cell? ⟨b, o + 1, none⟩ = some (.int .i64 n) ∧
      ∃ A c, w.cell? ⟨b, o + 2, none⟩ = some (.slice A kids.length c) ∧ kids.length ≤ c ∧ c ≤ maxLen ∧ (0 < kids.length → ∃ b' o', A = some ⟨b', o', none⟩ ∧ S b' ∧ CsE w S b' o' kids)
def CsE (w : World) (S : Nat → Prop) (b o : Nat) : List Cn → Prop
  | [] => True
  | t :: ts => CE w S b o t ∧ CsE w S b (o + 3) ts
end
/-- v is a slice of conditions that reads as ts; all of it lies in blocks of S. -/
def KC (w : World) (S : Nat → Prop) (v : Value) (ts : List Cn) : Prop :=
  ∃ A c, v = .slice A ts.length c ∧ ts.length ≤ c ∧ c ≤ maxLen ∧ Hid (0 < ts.length → ∃ b o, A = some ⟨b, o, none⟩ ∧ S b ∧ CsE w S b o ts)

section
variable {w w' : World} {S S' : Nat → Prop}
mutual
theorem CE.keep (hS : ∀ b, S b → S' b ∧ ∀ o, w'.cell? ⟨b, o, none⟩ = w.cell? ⟨b, o, none⟩) : ∀ (t : Cn) (b o : Nat), S b → CE w S b o t → CE w' S' b o t
  | .mk op n kids, b, o, hb, h => by
    unfold CE at h ⊢
    obtain ⟨h1, h2, A, c, h3, h4, h5, h6⟩ := h
    refine ⟨((hS b hb).2 _).trans h1, ((hS b hb).2 _).trans h2, A, c, ((hS b hb).2 _).trans h3, h4, h5, fun hp => ?_⟩
    obtain ⟨b', o', hA, hb', hts⟩ := h6 hp
    exact ⟨b', o', hA, (hS b' hb').1, CsE.keep hS kids b' o' hb' hts⟩
theorem CsE.keep (hS : ∀ b, S b → S' b ∧ ∀ o, w'.cell? ⟨b, o, none⟩ = w.cell? ⟨b, o, none⟩) : ∀ (ts : List Cn) (b o : Nat), S b → CsE w S b o ts → CsE w' S' b o ts
  | [], _, _, _, _ => by unfold CsE; trivial
  | t :: ts, b, o, hb, h => by
    unfold CsE at h ⊢
    exact ⟨CE.keep hS t b o hb h.1, CsE.keep hS ts b (o + 3) hb h.2⟩
end
theorem KC.keep {v : Value} {ts : List Cn} (h : KC w S v ts) (hS : ∀ b, S b → S' b ∧ ∀ o, w'.cell? ⟨b, o, none⟩ = w.cell? ⟨b, o, none⟩) : KC w' S' v ts := by
  obtain ⟨A, c, hv, h1, h2, h3⟩ := h
  refine ⟨A, c, hv, h1, h2, fun hp => ?_⟩
  obtain ⟨b, o, hA, hb, hts⟩ := h3.out hp
  exact ⟨b, o, hA, (hS b hb).1, CsE.keep hS ts b o hb hts⟩
theorem KC.nil (w : World) (S : Nat → Prop) (c : Nat) (A : Option Addr) (hc : c ≤ maxLen) : KC w S (.slice A 0 c) [] := ⟨A, c, rfl, Nat.zero_le _, hc, fun hp => absurd hp (by simp)⟩
mutual
theorem CE.cAt {B : Nat} (hS : ∀ b, S b → b < B) : ∀ (t : Cn) (b o : Nat), CE w S b o t → CnAt w B b o t
  | .mk op n kids, b, o, h => by
    unfold CE at h
    unfold CnAt
    obtain ⟨h1, h2, A, c, h3, h4, h5, h6⟩ := h
    refine ⟨h1, h2, A, c, h3, h4, h5, fun hp => ?_⟩
    obtain ⟨b', o', hA, hb', hts⟩ := h6 hp
    exact ⟨b', o', hA, hS b' hb', CsE.csAt hS kids b' o' hts⟩
theorem CsE.csAt {B : Nat} (hS : ∀ b, S b → b < B) : ∀ (ts : List Cn) (b o : Nat), CsE w S b o ts → CnsAt w B b o ts
  | [], _, _, _ => by unfold CnsAt; trivial
  | t :: ts, b, o, h => by
    unfold CsE at h
    unfold CnsAt
    exact ⟨CE.cAt hS t b o h.1, CsE.csAt hS ts b (o + 3) h.2⟩
end
theorem KC.kl {B : Nat} {v : Value} {ts : List Cn} (h : KC w S v ts) (hS : ∀ b, S b → b < B) : KL w B v ts := by
  obtain ⟨A, c, hv, h1, h2, h3⟩ := h
  refine ⟨A, c, hv, h1, h2, fun hp => ?_⟩
  obtain ⟨b, o, hA, hb, hts⟩ := h3.out hp
  exact ⟨b, o, hA, hS b hb, CsE.csAt hS ts b o hts⟩
theorem CE.make {b o : Nat} {t : Cn} (h1 : w.cell? ⟨b, o, none⟩ = some (.int .i64 t.op)) (h2 : w.cell? ⟨b, o + 1, none⟩ = some (.int .i64 t.n))
    (h3 : ∃ u, w.cell? ⟨b, o + 2, none⟩ = some u ∧ KC w S u t.kids) : CE w S b o t := by
  cases t with
  | mk op n kids =>
    unfold CE
    obtain ⟨u, h3, A, c, rfl, h4, h5, h6⟩ := h3
    exact ⟨h1, h2, A, c, h3, h4, h5, h6.out⟩
end

theorem info46z : (Tryd.prog.info? 24).map (fun i => (i.zero, i.size, i.bytes)) = some (some (.agg #[.int .i64 0, .int .i64 0, .slice none 0 0]), 3, 40) := by kernel_rfl
/-- What the cells of a list of conditions hold; all that they lead to lies in blocks of S. -/
inductive DC (w : World) (S : Nat → Prop) : List Value → List Cn → Prop
  | nil : DC w S [] []
  | cons {a b c : Value} {cs : List Value} {t : Cn} {ts : List Cn} (h1 : a = .int .i64 t.op) (h2 : b = .int .i64 t.n) (h3 : KC w S c t.kids) (h : DC w S cs ts) : DC w S (a :: b :: c :: cs) (t :: ts)
theorem DC.len {w : World} {S : Nat → Prop} {cs : List Value} {ts : List Cn} (h : DC w S cs ts) : cs.length = ts.length * 3 := by
  induction h with
  | nil => rfl
  | cons h1 h2 h3 h ih => simp only [List.length_cons, ih]; omega
theorem DC.app {w : World} {S : Nat → Prop} {cs ds : List Value} {ts us : List Cn} (h : DC w S cs ts) (g : DC w S ds us) : DC w S (cs ++ ds) (ts ++ us) := by
  induction h with
  | nil => exact g
  | cons h1 h2 h3 h ih => exact .cons h1 h2 h3 ih
theorem DC.keep {w w' : World} {S S' : Nat → Prop} {cs : List Value} {ts : List Cn} (h : DC w S cs ts) (hS : ∀ b, S b → S' b ∧ ∀ o, w'.cell? ⟨b, o, none⟩ = w.cell? ⟨b, o, none⟩) : DC w' S' cs ts := by
  induction h with
  | nil => exact .nil
  | cons h1 h2 h3 h ih => exact .cons h1 h2 (h3.keep hS) ih
theorem DC.one {w : World} {S : Nat → Prop} {cs : List Value} {ts : List Cn} (h : DC w S cs ts) : ∀ u ∈ cs, u.oneCell' = true := by
  induction h with
  | nil => simp
  | cons h1 h2 h3 h ih =>
    intro u hu
    simp only [List.mem_cons] at hu
    rcases hu with rfl | rfl | rfl | hu
    · rw [h1]; rfl
    · rw [h2]; rfl
    · obtain ⟨A, c, rfl, _⟩ := h3; rfl
    · exact ih u hu
theorem DC.csE {w : World} {S : Nat → Prop} {b : Nat} {cs : List Value} {ts : List Cn} (h : DC w S cs ts) : ∀ (o : Nat), (∀ j u, cs[j]? = some u → w.cell? ⟨b, o + j, none⟩ = some u) → CsE w S b o ts := by
  induction h with
  | nil => intro o _; unfold CsE; trivial
  | cons h1 h2 h3 h ih =>
    intro o hc
    unfold CsE
    refine ⟨CE.make ?_ ?_ ⟨_, hc 2 _ rfl, h3⟩, ih (o + 3) fun j u hu => ?_⟩
    · rw [← h1]; exact hc 0 _ rfl
    · rw [← h2]; exact hc 1 _ rfl
    · rw [show o + 3 + j = o + (j + 3) by omega]; exact hc (j + 3) u hu
/-- An own row of conditions; what they lead to lies in blocks from base on, apart from the row. -/
def OC (w : World) (base : Nat) (v : Value) (ts : List Cn) : Prop := ∃ cs : List Value, w.ownsRow base 24 3 v ts.length cs ∧ DC w (Offs w base v.ownBlock) cs ts
theorem OC.nil (w : World) (base : Nat) : OC w base (.slice none 0 0) [] := ⟨[], World.ownsRow_nil .., .nil⟩
theorem OC.value {w : World} {base : Nat} {v : Value} {ts : List Cn} (h : OC w base v ts) : ∃ A c, v = .slice A ts.length c := by
  obtain ⟨cs, h, _⟩ := h
  rcases h.2 with ⟨rfl, h0⟩ | ⟨g, cap, cur, rfl, _⟩
  · exact ⟨none, 0, by rw [h0]⟩
  · exact ⟨_, _, rfl⟩
theorem OC.ltB {w : World} {base : Nat} {v : Value} {ts : List Cn} (h : OC w base v ts) : ∀ b, v.ownBlock = some b → base ≤ b ∧ b < w.heap.size := by
  obtain ⟨cs, h, _⟩ := h
  exact fun b hb => h.lt b hb
theorem OC.later {w W : World} {base : Nat} {v : Value} {ts : List Cn} (h : OC w base v ts) (hb : Below w.heap.size w W) : OC W base v ts := by
  obtain ⟨cs, h1, h2⟩ := h
  refine ⟨cs, ?_, h2.keep fun b hS => ⟨⟨hS.1, Nat.lt_of_lt_of_le hS.2.1 hb.size, hS.2.2⟩, fun o => hb.cell (p := ⟨b, o, none⟩) hS.2.1⟩⟩
  exact h1.kept (row := none) ⟨hb.os, hb.tape, hb.output, hb.size, fun k hk _ => hb.block k hk⟩ (by
    cases hv : v.ownBlock with
    | none => exact .inl rfl
    | some k => exact .inr (by simp))
theorem OC.kc {w : World} {base : Nat} {v : Value} {ts : List Cn} (h : OC w base v ts) : KC w (From w base) v ts := by
  have hl := h.ltB
  obtain ⟨cs, h, hd⟩ := h
  have hd' : DC w (From w base) cs ts := hd.keep fun b hS => ⟨⟨hS.1, hS.2.1⟩, fun _ => rfl⟩
  rcases id h.2 with ⟨rfl, h0⟩ | ⟨g, cap, cur, rfl, hb, hg, hn, hm, hs, ht⟩
  · exact ⟨none, 0, by rw [h0], by omega, Nat.zero_le _, fun hp => absurd hp (by omega)⟩
  · refine ⟨some ⟨g, 0, none⟩, cap, rfl, hn, hm, fun _ => ⟨g, 0, rfl, hl g rfl, hd'.csE 0 fun j u hu => ?_⟩⟩
    have hj := (List.getElem?_eq_some_iff.1 hu).1
    have hl := hd.len
    have := (World.ownsRow.cellAt (w := w) (base := base) (e := 24) (size := 3) (g := g) (n := ts.length) (cap := cap) (xs := cs) h j (by omega)).trans hu
    rw [Nat.zero_add]
    exact this
theorem KC.fromMore {w : World} {base base' : Nat} {v : Value} {ts : List Cn} (h : KC w (From w base) v ts) (hb : base' ≤ base) : KC w (From w base') v ts := h.keep fun b hS => ⟨⟨Nat.le_trans hb hS.1, hS.2⟩, fun _ => rfl⟩
theorem KC.on {w W : World} {base : Nat} {v : Value} {ts : List Cn} (h : KC w (From w base) v ts) (hb : Below w.heap.size w W) : KC W (From W base) v ts := h.keep fun b hS => ⟨⟨hS.1, Nat.lt_of_lt_of_le hS.2 hb.size⟩, fun o => hb.cell (p := ⟨b, o, none⟩) hS.2⟩

/-- One condition appended (it has just been laid into a block of its own, number B); its parts lie apart from the row: in blocks from lo on, the row below lo. -/
theorem wpList_appC {ops : Array Oper} {rest : List Oper} {o : Oper} {a : Act} {W : World} {Q : Exit → Act → World → Prop} (hgd : o.guard = none) (s x : Operand)
    (ho : o.op = .call { callee := .builtin .append, args := #[s, x], argTypes := #[22, 22] }) (base : Nat) (v : Value) (ts : List Cn) (t : Cn) (k : Value) (B lo : Nat)
    (hs : a.eval s = v) (hx : a.eval x = .slice (some ⟨B, 0, none⟩) 1 1) (hown : OC W base v ts)
    (hk : KC W (From W lo) k t.kids) (hlo : ∀ b, v.ownBlock = some b → b < lo) (hbl : base ≤ lo) (hB : W.heap[B]? = some (.cells #[.int .i64 t.op, .int .i64 t.n, k] 24 (0, 0)))
    (hlen : ts.length ≤ 1000000) (hbase : base ≤ W.heap.size)
    (h : ∀ v' w', OC w' base v' (ts ++ [t]) → Below base W w' → wpList Tryd.prog ops Q rest (a.put o.dst v') w') : wpList Tryd.prog ops Q (o :: rest) a W := by
  obtain ⟨i0, hi0, hz0, hz1, hz2⟩ := info_parts info46z
  obtain ⟨cs, h1, h2⟩ := hown
  have hn : DC W (Offs W base v.ownBlock) [.int .i64 t.op, .int .i64 t.n, k] [t] := by
    have hS : ∀ b, From W lo b → Offs W base v.ownBlock b ∧ ∀ o, W.cell? ⟨b, o, none⟩ = W.cell? ⟨b, o, none⟩ := fun b hb =>
      ⟨⟨Nat.le_trans hbl hb.1, hb.2, fun e => absurd (hlo b e) (by have := hb.1; omega)⟩, fun _ => rfl⟩
    exact .cons rfl rfl (hk.keep hS) .nil
  refine wpList_append_lies W hgd s x 22 ho base 24 i0 (.agg #[.int .i64 0, .int .i64 0, .slice none 0 0]) 3 40 Tryd.underlying22 hi0 hz0 hz1 hz2 rfl (by omega) v ts.length cs hs h1 ⟨B, 0, none⟩ 1 1 [.int .i64 t.op, .int .i64 t.n, k] hx rfl
    (World.news_of_block (cs := #[.int .i64 t.op, .int .i64 t.n, k]) hB) hn.one (by omega) (by simp only [maxLen]; omega) (by omega) hbase W.heap.size rfl fun g cap w' k1 k2 k3 k4 => ?_
  have hbel : Below base W w' := (Below.refl _ _).grown k2 hbase (fun k hk => (h1.lt k hk).1)
  refine h _ w' ⟨cs ++ [.int .i64 t.op, .int .i64 t.n, k], ?_, (h2.app hn).keep fun b hS => ⟨⟨hS.1, Nat.lt_of_lt_of_le hS.2.1 hbel.size, fun e => ?_⟩, fun o => ?_⟩⟩ hbel
  · rw [List.length_append]; exact k1
  · have e2 : g = b := Option.some.inj e
    rcases k3 with k3 | k3
    · exact hS.2.2 (by rw [k3, e2])
    · have := hS.2.1; omega
  · exact k2.cell_far _ hS.2.1 (fun e => hS.2.2 e.symm)

end Go.Proofs.YtjkbfogjfgnhiaaDoor
