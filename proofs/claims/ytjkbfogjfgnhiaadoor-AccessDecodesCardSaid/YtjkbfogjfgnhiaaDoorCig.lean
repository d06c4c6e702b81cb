
/-
  Own rows of rules; what reads a list of data objects as rules: mathematics.
-/
import Derived.Test.YtjkbfogjfgnhiaaDoorCif
namespace Go.Proofs.YtjkbfogjfgnhiaaDoor
set_option linter.unusedVariables false
set_option linter.unusedSimpArgs false
open Go.RowKit

/-- v is a slice of rules that reads as rs; all of it lies in blocks of S. -/
def RC (w : World) (S : Nat → Prop) (v : Value) (rs : List Rl) : Prop :=
  ∃ A c, v = .slice A rs.length c ∧ rs.length ≤ c ∧ c ≤ maxLen ∧ Hid (0 < rs.length → ∃ b o, A = some ⟨b, o, none⟩ ∧ S b ∧
    ∀ (k : Nat) (h : k < rs.length), w.cell? ⟨b, o + k * 4, none⟩ = some (.int .i64 rs[k].ops) ∧ CE w S b (o + k * 4 + 1) rs[k].cond)
theorem RC.keep {w w' : World} {S S' : Nat → Prop} {v : Value} {rs : List Rl} (h : RC w S v rs) (hS : ∀ b, S b → S' b ∧ ∀ o, w'.cell? ⟨b, o, none⟩ = w.cell? ⟨b, o, none⟩) : RC w' S' v rs := by
  obtain ⟨A, c, hv, h1, h2, h3⟩ := h
  refine ⟨A, c, hv, h1, h2, fun hp => ?_⟩
  obtain ⟨b, o, hA, hb, hts⟩ := h3.out hp
  exact ⟨b, o, hA, (hS b hb).1, fun k hk => ⟨((hS b hb).2 _).trans (hts k hk).1, CE.keep hS _ b _ hb (hts k hk).2⟩⟩
theorem RC.rl {w : World} {S : Nat → Prop} {B : Nat} {v : Value} {rs : List Rl} (h : RC w S v rs) (hS : ∀ b, S b → b < B) : RL w B v rs := by
  obtain ⟨A, c, hv, h1, h2, h3⟩ := h
  refine ⟨A, c, hv, h1, h2, fun hp => ?_⟩
  obtain ⟨b, o, hA, hb, hts⟩ := h3.out hp
  exact ⟨b, o, hA, hS b hb, fun k hk => ⟨(hts k hk).1, CE.cAt hS _ b _ (hts k hk).2⟩⟩
theorem RC.nil (w : World) (S : Nat → Prop) (c : Nat) (A : Option Addr) (hc : c ≤ maxLen) : RC w S (.slice A 0 c) [] := ⟨A, c, rfl, Nat.zero_le _, hc, fun hp => absurd hp (by simp)⟩
theorem RC.on {w W : World} {base : Nat} {v : Value} {rs : List Rl} (h : RC w (From w base) v rs) (hb : Below w.heap.size w W) : RC W (From W base) v rs := h.keep fun b hS => ⟨⟨hS.1, Nat.lt_of_lt_of_le hS.2 hb.size⟩, fun o => hb.cell (p := ⟨b, o, none⟩) hS.2⟩
theorem RC.fromMore {w : World} {base base' : Nat} {v : Value} {rs : List Rl} (h : RC w (From w base) v rs) (hb : base' ≤ base) : RC w (From w base') v rs := h.keep fun b hS => ⟨⟨Nat.le_trans hb hS.1, hS.2⟩, fun _ => rfl⟩
theorem RC.rlF {w : World} {base : Nat} {v : Value} {rs : List Rl} (h : RC w (From w base) v rs) : RL w w.heap.size v rs := h.rl fun _ hb => hb.2

theorem info48z : (Tryd.prog.info? 53).map (fun i => (i.zero, i.size, i.bytes)) = some (some (.agg #[.int .i64 0, .int .i64 0, .int .i64 0, .slice none 0 0]), 4, 48) := by kernel_rfl
/-- What the cells of a list of rules hold; all that they lead to lies in blocks of S. -/
inductive DR (w : World) (S : Nat → Prop) : List Value → List Rl → Prop
  | nil : DR w S [] []
  | cons {a b c d : Value} {cs : List Value} {r : Rl} {rs : List Rl} (h0 : a = .int .i64 r.ops) (h1 : b = .int .i64 r.cond.op) (h2 : c = .int .i64 r.cond.n) (h3 : KC w S d r.cond.kids) (h : DR w S cs rs) : DR w S (a :: b :: c :: d :: cs) (r :: rs)
theorem DR.len {w : World} {S : Nat → Prop} {cs : List Value} {ts : List Rl} (h : DR w S cs ts) : cs.length = ts.length * 4 := by
  induction h with
  | nil => rfl
  | cons h0 h1 h2 h3 h ih => simp only [List.length_cons, ih]; omega
theorem DR.app {w : World} {S : Nat → Prop} {cs ds : List Value} {ts us : List Rl} (h : DR w S cs ts) (g : DR w S ds us) : DR w S (cs ++ ds) (ts ++ us) := by
  induction h with
  | nil => exact g
  | cons h0 h1 h2 h3 h ih => exact .cons h0 h1 h2 h3 ih
theorem DR.keep {w w' : World} {S S' : Nat → Prop} {cs : List Value} {ts : List Rl} (h : DR w S cs ts) (hS : ∀ b, S b → S' b ∧ ∀ o, w'.cell? ⟨b, o, none⟩ = w.cell? ⟨b, o, none⟩) : DR w' S' cs ts := by
  induction h with
  | nil => exact .nil
  | cons h0 h1 h2 h3 h ih => exact .cons h0 h1 h2 (h3.keep hS) ih
theorem DR.one {w : World} {S : Nat → Prop} {cs : List Value} {ts : List Rl} (h : DR w S cs ts) : ∀ u ∈ cs, u.oneCell' = true := by
  induction h with
  | nil => simp
  | cons h0 h1 h2 h3 h ih =>
    intro u hu
    simp only [List.mem_cons] at hu
    rcases hu with rfl | rfl | rfl | rfl | hu
    · rw [h0]; rfl
    · rw [h1]; rfl
    · rw [h2]; rfl
    · obtain ⟨A, c, rfl, _⟩ := h3; rfl
    · exact ih u hu
theorem DR.get {w : World} {S : Nat → Prop} {b : Nat} {cs : List Value} {ts : List Rl} (h : DR w S cs ts) : ∀ (o : Nat), (∀ j u, cs[j]? = some u → w.cell? ⟨b, o + j, none⟩ = some u) →
    ∀ (k : Nat) (hk : k < ts.length), w.cell? ⟨b, o + k * 4, none⟩ = some (.int .i64 ts[k].ops) ∧ CE w S b (o + k * 4 + 1) ts[k].cond := by
  induction h with
  | nil => intro o _ k hk; simp at hk
  | cons h0 h1 h2 h3 h ih =>
    intro o hc k hk
    cases k with
    | zero =>
      refine ⟨?_, CE.make ?_ ?_ ⟨_, hc 3 _ rfl, h3⟩⟩
      · rw [List.getElem_cons_zero, ← h0]; exact hc 0 _ rfl
      · rw [List.getElem_cons_zero, ← h1]; exact hc 1 _ rfl
      · rw [List.getElem_cons_zero, ← h2]; exact hc 2 _ rfl
    | succ k =>
      have := ih (o + 4) (fun j u hu => by rw [show o + 4 + j = o + (j + 4) by omega]; exact hc (j + 4) u hu) k (by simpa using hk)
      rw [show o + 4 + k * 4 = o + (k + 1) * 4 by omega] at this
      exact this
/-- An own row of rules; what they lead to lies in blocks from base on, apart from the row. -/
def OR (w : World) (base : Nat) (v : Value) (ts : List Rl) : Prop := ∃ cs : List Value, w.ownsRow base 53 4 v ts.length cs ∧ DR w (Offs w base v.ownBlock) cs ts
theorem OR.nil (w : World) (base : Nat) : OR w base (.slice none 0 0) [] := ⟨[], World.ownsRow_nil .., .nil⟩
theorem OR.value {w : World} {base : Nat} {v : Value} {ts : List Rl} (h : OR w base v ts) : ∃ A c, v = .slice A ts.length c := by
  obtain ⟨cs, h, _⟩ := h
  rcases h.2 with ⟨rfl, h0⟩ | ⟨g, cap, cur, rfl, _⟩
  · exact ⟨none, 0, by rw [h0]⟩
  · exact ⟨_, _, rfl⟩
theorem OR.ltB {w : World} {base : Nat} {v : Value} {ts : List Rl} (h : OR w base v ts) : ∀ b, v.ownBlock = some b → base ≤ b ∧ b < w.heap.size := by
  obtain ⟨cs, h, _⟩ := h
  exact fun b hb => h.lt b hb
theorem OR.later {w W : World} {base : Nat} {v : Value} {ts : List Rl} (h : OR w base v ts) (hb : Below w.heap.size w W) : OR W base v ts := by
  obtain ⟨cs, h1, h2⟩ := h
  refine ⟨cs, ?_, h2.keep fun b hS => ⟨⟨hS.1, Nat.lt_of_lt_of_le hS.2.1 hb.size, hS.2.2⟩, fun o => hb.cell (p := ⟨b, o, none⟩) hS.2.1⟩⟩
  exact h1.kept (row := none) ⟨hb.os, hb.tape, hb.output, hb.size, fun k hk _ => hb.block k hk⟩ (by
    cases hv : v.ownBlock with
    | none => exact .inl rfl
    | some k => exact .inr (by simp))
theorem OR.rc {w : World} {base : Nat} {v : Value} {ts : List Rl} (h : OR w base v ts) : RC w (From w base) v ts := by
  have hl := h.ltB
  obtain ⟨cs, h, hd⟩ := h
  have hd' : DR w (From w base) cs ts := hd.keep fun b hS => ⟨⟨hS.1, hS.2.1⟩, fun _ => rfl⟩
  rcases id h.2 with ⟨rfl, h0⟩ | ⟨g, cap, cur, rfl, hb, hg, hn, hm, hs, ht⟩
  · exact ⟨none, 0, by rw [h0], by omega, Nat.zero_le _, fun hp => absurd hp (by omega)⟩
  · refine ⟨some ⟨g, 0, none⟩, cap, rfl, hn, hm, fun _ => ⟨g, 0, rfl, hl g rfl, hd'.get 0 fun j u hu => ?_⟩⟩
    have hj := (List.getElem?_eq_some_iff.1 hu).1
    have hl := hd.len
    have := (World.ownsRow.cellAt (w := w) (base := base) (e := 53) (size := 4) (g := g) (n := ts.length) (cap := cap) (xs := cs) h j (by omega)).trans hu
    rw [Nat.zero_add]
    exact this

/-- One rule appended (it has just been laid into a block of its own, number B); its parts lie apart from the row: in blocks from lo on, the row below lo. -/
theorem wpList_appR {ops : Array Oper} {rest : List Oper} {o : Oper} {a : Act} {W : World} {Q : Exit → Act → World → Prop} (hgd : o.guard = none) (s x : Operand)
    (ho : o.op = .call { callee := .builtin .append, args := #[s, x], argTypes := #[33, 33] }) (base : Nat) (v : Value) (ts : List Rl) (t : Rl) (k : Value) (B lo : Nat)
    (hs : a.eval s = v) (hx : a.eval x = .slice (some ⟨B, 0, none⟩) 1 1) (hown : OR W base v ts)
    (hk : KC W (From W lo) k t.cond.kids) (hlo : ∀ b, v.ownBlock = some b → b < lo) (hbl : base ≤ lo) (hB : W.heap[B]? = some (.cells #[.int .i64 t.ops, .int .i64 t.cond.op, .int .i64 t.cond.n, k] 53 (0, 0)))
    (hlen : ts.length ≤ 1000000) (hbase : base ≤ W.heap.size)
    (h : ∀ v' w', OR w' base v' (ts ++ [t]) → Below base W w' → wpList Tryd.prog ops Q rest (a.put o.dst v') w') : wpList Tryd.prog ops Q (o :: rest) a W := by
  obtain ⟨i0, hi0, hz0, hz1, hz2⟩ := info_parts info48z
  obtain ⟨cs, h1, h2⟩ := hown
  have hn : DR W (Offs W base v.ownBlock) [.int .i64 t.ops, .int .i64 t.cond.op, .int .i64 t.cond.n, k] [t] := by
    have hS : ∀ b, From W lo b → Offs W base v.ownBlock b ∧ ∀ o, W.cell? ⟨b, o, none⟩ = W.cell? ⟨b, o, none⟩ := fun b hb =>
      ⟨⟨Nat.le_trans hbl hb.1, hb.2, fun e => absurd (hlo b e) (by have := hb.1; omega)⟩, fun _ => rfl⟩
    exact .cons rfl rfl rfl (hk.keep hS) .nil
  refine wpList_append_lies W hgd s x 33 ho base 53 i0 (.agg #[.int .i64 0, .int .i64 0, .int .i64 0, .slice none 0 0]) 4 48 Tryd.underlying33 hi0 hz0 hz1 hz2 rfl (by omega) v ts.length cs hs h1 ⟨B, 0, none⟩ 1 1 [.int .i64 t.ops, .int .i64 t.cond.op, .int .i64 t.cond.n, k] hx rfl
    (World.news_of_block (cs := #[.int .i64 t.ops, .int .i64 t.cond.op, .int .i64 t.cond.n, k]) hB) hn.one (by omega) (by simp only [maxLen]; omega) (by omega) hbase W.heap.size rfl fun g cap w' k1 k2 k3 k4 => ?_
  have hbel : Below base W w' := (Below.refl _ _).grown k2 hbase (fun k hk => (h1.lt k hk).1)
  refine h _ w' ⟨cs ++ [.int .i64 t.ops, .int .i64 t.cond.op, .int .i64 t.cond.n, k], ?_, (h2.app hn).keep fun b hS => ⟨⟨hS.1, Nat.lt_of_lt_of_le hS.2.1 hbel.size, fun e => ?_⟩, fun o => ?_⟩⟩ hbel
  · rw [List.length_append]; exact k1
  · have e2 : g = b := Option.some.inj e
    rcases k3 with k3 | k3
    · exact hS.2.2 (by rw [k3, e2])
    · have := hS.2.1; omega
  · exact k2.cell_far _ hS.2.1 (fun e => hS.2.2 e.symm)

/-- The rules of data objects, behind others. -/
def rulS : List T → List Rl → Option (List Rl)
  | [], acc => some acc
  | t :: ts, acc => match rulF t.tag t.val with
    | none => none
    | some (p, k) => rulS ts (acc ++ [⟨(p : Int), k⟩])
theorem rulS_drop (ts : List T) (k : Nat) (h : k < ts.length) (acc : List Rl) : rulS (ts.drop k) acc = match rulF ts[k].tag ts[k].val with
    | none => none
    | some (p, c) => rulS (ts.drop (k + 1)) (acc ++ [⟨(p : Int), c⟩]) := by rw [List.drop_eq_getElem_cons h, rulS]
/-- What Decode gives. -/
def decA (b : List UInt8) : Int × List Rl :=
  if (decR b).1 ≠ 0 then ((decR b).1, []) else match rulS (decR b).2 [] with
    | none => (4, [])
    | some rs => if chkR rs = 0 then (0, rs) else (4, [])

theorem cntK_app : ∀ (ts us : List Cn), cntK (ts ++ us) = cntK ts + cntK us
  | [], us => by simp [cntK]
  | t :: ts, us => by rw [List.cons_append, cntK, cntK, cntK_app ts us]; omega
theorem depK_app : ∀ (ts us : List Cn), depK (ts ++ us) = max (depK ts) (depK us)
  | [], us => by simp [depK]
  | t :: ts, us => by rw [List.cons_append, depK, depK, depK_app ts us]; omega
mutual
theorem rdF_cnt : ∀ (f : Nat) (b : List UInt8) (t : Cn) (r : List UInt8), rdF f b = some (t, r) → t.cnt + r.length ≤ b.length ∧ 2 * t.dep + r.length ≤ b.length + 1
  | 0, b, t, r, h => by unfold rdF at h; cases h
  | f + 1, b, t, r, h => by
    unfold rdF at h
    split at h
    · cases h
    split at h
    · cases h
    split at h
    · simp only [Option.some.injEq, Prod.mk.injEq] at h
      rw [← h.2, ← h.1, List.length_drop]
      simp only [Cn.cnt, Cn.dep, cntK, depK]
      omega
    split at h
    · cases h
    split at h
    · simp only [Option.some.injEq, Prod.mk.injEq] at h
      rw [← h.2, ← h.1, List.length_drop]
      simp only [Cn.cnt, Cn.dep, cntK, depK]
      omega
    · cases e : rdS (rdF f) (byN b 1) (b.drop 2) [] with
      | none => rw [e] at h; cases h
      | some p =>
        obtain ⟨ks, r'⟩ := p
        rw [e] at h
        simp only [Option.some.injEq, Prod.mk.injEq] at h
        have := rdS_cnt f (byN b 1) (b.drop 2) [] ks r' e
        simp only [cntK, depK, List.length_drop] at this
        rw [← h.2, ← h.1]
        simp only [Cn.cnt, Cn.dep]
        omega
theorem rdS_cnt : ∀ (f n : Nat) (b : List UInt8) (acc ks : List Cn) (r : List UInt8), rdS (rdF f) n b acc = some (ks, r) →
    cntK ks + r.length ≤ cntK acc + b.length ∧ (2 * depK ks + r.length ≤ b.length + 1 ∨ depK ks ≤ depK acc) ∧ r.length ≤ b.length
  | f, 0, b, acc, ks, r, h => by
    simp only [rdS, Option.some.injEq, Prod.mk.injEq] at h
    rw [← h.2, ← h.1]; exact ⟨Nat.le_refl _, .inr (Nat.le_refl _), Nat.le_refl _⟩
  | f, n + 1, b, acc, ks, r, h => by
    simp only [rdS] at h
    cases e : rdF f b with
    | none => rw [e] at h; cases h
    | some p =>
      obtain ⟨t, r'⟩ := p
      rw [e] at h
      have h1 := rdF_cnt f b t r' e
      have h2 := rdS_cnt f n r' (acc ++ [t]) ks r h
      rw [cntK_app, depK_app] at h2
      simp only [cntK, depK] at h2
      omega
end
end Go.Proofs.YtjkbfogjfgnhiaaDoor
