
/-
  Trees of data objects whose parts lie in blocks of a given set; own rows of such objects.
  Mathematics: what bytes say as data objects.
  The reference: tag and length.
  Mathematics: what is encoded is read as it was, and what is read is encoded to the same bytes.
-/
import Derived.Test.YtjkbfogjfgnhiaaDoorDmz
namespace Go.Proofs.YtjkbfogjfgnhiaaDoor
set_option linter.unusedVariables false
set_option linter.unusedSimpArgs false
open Go.RowKit


/-- v reads as the bytes l; what it reads lies in a block of S. -/
def VI (w : World) (S : Nat → Prop) (v : Value) (l : List UInt8) : Prop :=
  ∃ (A : Option Addr) (c : Nat), v = .slice A l.length c ∧ l.length ≤ c ∧ c ≤ maxLen ∧ Hid (0 < l.length → ∃ b o, A = some ⟨b, o, none⟩ ∧ S b ∧ ∀ k, k < l.length → w.cell? ⟨b, o + k, none⟩ = some (.int .u8 ((l.getD k 0).toNat : Int)))
mutual
def EI (w : World) (S : Nat → Prop) (b o : Nat) : T → Prop
  | .mk tag val kids => w.cell? ⟨b, o, none⟩ = some (.int .i64 tag) ∧ (∃ v, w.cell? ⟨b, o + 1, none⟩ = some v ∧ VI w S v val) ∧
      ∃ A c, w.cell? ⟨b, o + 2, none⟩ = some (.slice A kids.length c) ∧ kids.length ≤ c ∧ c ≤ maxLen ∧ (0 < kids.length → ∃ b' o', A = some ⟨b', o', none⟩ ∧ S b' ∧ EsI w S b' o' kids)
def EsI (w : World) (S : Nat → Prop) (b o : Nat) : List T → Prop
  | [] => True
  | t :: ts => EI w S b o t ∧ EsI w S b (o + 3) ts
end
/-- v is a slice of data objects that reads as ts; all of it lies in blocks of S. -/
def KI (w : World) (S : Nat → Prop) (v : Value) (ts : List T) : Prop :=
  ∃ A c, v = .slice A ts.length c ∧ ts.length ≤ c ∧ c ≤ maxLen ∧ Hid (0 < ts.length → ∃ b o, A = some ⟨b, o, none⟩ ∧ S b ∧ EsI w S b o ts)

section
variable {w w' : World} {S S' : Nat → Prop}
theorem VI.keep {v : Value} {l : List UInt8} (h : VI w S v l) (hS : ∀ b, S b → S' b ∧ ∀ o, w'.cell? ⟨b, o, none⟩ = w.cell? ⟨b, o, none⟩) : VI w' S' v l := by
  obtain ⟨A, c, hv, h1, h2, h3⟩ := h
  refine ⟨A, c, hv, h1, h2, fun hp => ?_⟩
  obtain ⟨b, o, hA, hb, hc⟩ := h3.out hp
  exact ⟨b, o, hA, (hS b hb).1, fun k hk => ((hS b hb).2 _).trans (hc k hk)⟩
mutual
theorem EI.keep (hS : ∀ b, S b → S' b ∧ ∀ o, w'.cell? ⟨b, o, none⟩ = w.cell? ⟨b, o, none⟩) : ∀ (t : T) (b o : Nat), S b → EI w S b o t → EI w' S' b o t
  | .mk tag val kids, b, o, hb, h => by
    unfold EI at h ⊢
    obtain ⟨h1, ⟨v, h2, h2'⟩, A, c, h3, h4, h5, h6⟩ := h
    refine ⟨((hS b hb).2 _).trans h1, ⟨v, ((hS b hb).2 _).trans h2, h2'.keep hS⟩, A, c, ((hS b hb).2 _).trans h3, h4, h5, fun hp => ?_⟩
    obtain ⟨b', o', hA, hb', hts⟩ := h6 hp
    exact ⟨b', o', hA, (hS b' hb').1, EsI.keep hS kids b' o' hb' hts⟩
theorem EsI.keep (hS : ∀ b, S b → S' b ∧ ∀ o, w'.cell? ⟨b, o, none⟩ = w.cell? ⟨b, o, none⟩) : ∀ (ts : List T) (b o : Nat), S b → EsI w S b o ts → EsI w' S' b o ts
  | [], _, _, _, _ => by unfold EsI; trivial
  | t :: ts, b, o, hb, h => by
    unfold EsI at h ⊢
    exact ⟨EI.keep hS t b o hb h.1, EsI.keep hS ts b (o + 3) hb h.2⟩
end
theorem KI.keep {v : Value} {ts : List T} (h : KI w S v ts) (hS : ∀ b, S b → S' b ∧ ∀ o, w'.cell? ⟨b, o, none⟩ = w.cell? ⟨b, o, none⟩) : KI w' S' v ts := by
  obtain ⟨A, c, hv, h1, h2, h3⟩ := h
  refine ⟨A, c, hv, h1, h2, fun hp => ?_⟩
  obtain ⟨b, o, hA, hb, hts⟩ := h3.out hp
  exact ⟨b, o, hA, (hS b hb).1, EsI.keep hS ts b o hb hts⟩
theorem VI.nil (w : World) (S : Nat → Prop) (c : Nat) (A : Option Addr) (hc : c ≤ maxLen) : VI w S (.slice A 0 c) [] := ⟨A, c, rfl, Nat.zero_le _, hc, fun hp => absurd hp (by simp)⟩
theorem KI.nil (w : World) (S : Nat → Prop) (c : Nat) (A : Option Addr) (hc : c ≤ maxLen) : KI w S (.slice A 0 c) [] := ⟨A, c, rfl, Nat.zero_le _, hc, fun hp => absurd hp (by simp)⟩
theorem VI.sl {B : Nat} {v : Value} {l : List UInt8} (h : VI w S v l) (hS : ∀ b, S b → b < B) : SL w B v l := by
  obtain ⟨A, c, hv, h1, h2, h3⟩ := h
  refine ⟨A, c, hv, h1, h2, fun hp => ?_⟩
  obtain ⟨b, o, hA, hb, hc⟩ := h3.out hp
  exact ⟨b, o, hA, hS b hb, hc⟩
theorem VI.of_fs {lo : Nat} {v : Value} {l : List UInt8} (h : FS w lo v l) : VI w (fun b => lo ≤ b ∧ b < w.heap.size) v l := by
  obtain ⟨⟨A, c, hv, h1, h2, h3⟩, h4⟩ := h
  refine ⟨A, c, hv, h1, h2, fun hp => ?_⟩
  obtain ⟨b, o, hA, hb, hc⟩ := h3 hp
  obtain ⟨b', e, hlo⟩ := h4.out hp
  rw [hv, hA] at e
  have e2 : b = b' := Option.some.inj e
  exact ⟨b, o, hA, ⟨by omega, hb⟩, hc⟩
mutual
theorem EI.tAt {B : Nat} (hS : ∀ b, S b → b < B) : ∀ (t : T) (b o : Nat), EI w S b o t → TAt w B b o t
  | .mk tag val kids, b, o, h => by
    unfold EI at h
    unfold TAt
    obtain ⟨h1, ⟨v, h2, h2'⟩, A, c, h3, h4, h5, h6⟩ := h
    refine ⟨h1, ⟨v, h2, h2'.sl hS⟩, A, c, h3, h4, h5, fun hp => ?_⟩
    obtain ⟨b', o', hA, hb', hts⟩ := h6 hp
    exact ⟨b', o', hA, hS b' hb', EsI.tsAt hS kids b' o' hts⟩
theorem EsI.tsAt {B : Nat} (hS : ∀ b, S b → b < B) : ∀ (ts : List T) (b o : Nat), EsI w S b o ts → TsAt w B b o ts
  | [], _, _, _ => by unfold TsAt; trivial
  | t :: ts, b, o, h => by
    unfold EsI at h
    unfold TsAt
    exact ⟨EI.tAt hS t b o h.1, EsI.tsAt hS ts b (o + 3) h.2⟩
end
theorem KI.tl {B : Nat} {v : Value} {ts : List T} (h : KI w S v ts) (hS : ∀ b, S b → b < B) : TL w B v ts := by
  obtain ⟨A, c, hv, h1, h2, h3⟩ := h
  refine ⟨A, c, hv, h1, h2, fun hp => ?_⟩
  obtain ⟨b, o, hA, hb, hts⟩ := h3.out hp
  exact ⟨b, o, hA, hS b hb, EsI.tsAt hS ts b o hts⟩
theorem EI.make {b o : Nat} {t : T} (h1 : w.cell? ⟨b, o, none⟩ = some (.int .i64 t.tag)) (h2 : ∃ v, w.cell? ⟨b, o + 1, none⟩ = some v ∧ VI w S v t.val)
    (h3 : ∃ u, w.cell? ⟨b, o + 2, none⟩ = some u ∧ KI w S u t.kids) : EI w S b o t := by
  cases t with
  | mk tag val kids =>
    unfold EI
    obtain ⟨u, h3, A, c, rfl, h4, h5, h6⟩ := h3
    exact ⟨h1, h2, A, c, h3, h4, h5, h6.out⟩
end

/-- What the cells of a list of data objects hold; all that they lead to lies in blocks of S. -/
inductive DI (w : World) (S : Nat → Prop) : List Value → List T → Prop
  | nil : DI w S [] []
  | cons {a b c : Value} {cs : List Value} {t : T} {ts : List T} (h1 : a = .int .i64 t.tag) (h2 : VI w S b t.val) (h3 : KI w S c t.kids) (h : DI w S cs ts) : DI w S (a :: b :: c :: cs) (t :: ts)
theorem DI.len {w : World} {S : Nat → Prop} {cs : List Value} {ts : List T} (h : DI w S cs ts) : cs.length = ts.length * 3 := by
  induction h with
  | nil => rfl
  | cons h1 h2 h3 h ih => simp only [List.length_cons, ih]; omega
theorem DI.app {w : World} {S : Nat → Prop} {cs ds : List Value} {ts us : List T} (h : DI w S cs ts) (g : DI w S ds us) : DI w S (cs ++ ds) (ts ++ us) := by
  induction h with
  | nil => exact g
  | cons h1 h2 h3 h ih => exact .cons h1 h2 h3 ih
theorem DI.keep {w w' : World} {S S' : Nat → Prop} {cs : List Value} {ts : List T} (h : DI w S cs ts) (hS : ∀ b, S b → S' b ∧ ∀ o, w'.cell? ⟨b, o, none⟩ = w.cell? ⟨b, o, none⟩) : DI w' S' cs ts := by
  induction h with
  | nil => exact .nil
  | cons h1 h2 h3 h ih => exact .cons h1 (h2.keep hS) (h3.keep hS) ih
theorem DI.one {w : World} {S : Nat → Prop} {cs : List Value} {ts : List T} (h : DI w S cs ts) : ∀ u ∈ cs, u.oneCell' = true := by
  induction h with
  | nil => simp
  | cons h1 h2 h3 h ih =>
    intro u hu
    simp only [List.mem_cons] at hu
    rcases hu with rfl | rfl | rfl | hu
    · rw [h1]; rfl
    · obtain ⟨A, c, rfl, _⟩ := h2; rfl
    · obtain ⟨A, c, rfl, _⟩ := h3; rfl
    · exact ih u hu
theorem DI.esI {w : World} {S : Nat → Prop} {b : Nat} {cs : List Value} {ts : List T} (h : DI w S cs ts) : ∀ (o : Nat), (∀ j u, cs[j]? = some u → w.cell? ⟨b, o + j, none⟩ = some u) → EsI w S b o ts := by
  induction h with
  | nil => intro o _; unfold EsI; trivial
  | cons h1 h2 h3 h ih =>
    intro o hc
    unfold EsI
    refine ⟨EI.make ?_ ⟨_, hc 1 _ rfl, h2⟩ ⟨_, hc 2 _ rfl, h3⟩, ih (o + 3) fun j u hu => ?_⟩
    · rw [← h1]; exact hc 0 _ rfl
    · rw [show o + 3 + j = o + (j + 3) by omega]; exact hc (j + 3) u hu
/-- The blocks from base on, but for one. -/
def Offs (w : World) (base : Nat) (row : Option Nat) (b : Nat) : Prop := base ≤ b ∧ b < w.heap.size ∧ row ≠ some b
/-- The blocks from base on. -/
def From (w : World) (base : Nat) (b : Nat) : Prop := base ≤ b ∧ b < w.heap.size
/-- An own row of data objects; what they lead to lies in blocks from base on, apart from the row. -/
def OD (w : World) (base : Nat) (v : Value) (ts : List T) : Prop := ∃ cs : List Value, w.ownsRow base 70 3 v ts.length cs ∧ DI w (Offs w base v.ownBlock) cs ts
theorem OD.nil (w : World) (base : Nat) : OD w base (.slice none 0 0) [] := ⟨[], World.ownsRow_nil .., .nil⟩
theorem OD.value {w : World} {base : Nat} {v : Value} {ts : List T} (h : OD w base v ts) : ∃ A c, v = .slice A ts.length c := by
  obtain ⟨cs, h, _⟩ := h
  rcases h.2 with ⟨rfl, h0⟩ | ⟨g, cap, cur, rfl, _⟩
  · exact ⟨none, 0, by rw [h0]⟩
  · exact ⟨_, _, rfl⟩
theorem OD.ltB {w : World} {base : Nat} {v : Value} {ts : List T} (h : OD w base v ts) : ∀ b, v.ownBlock = some b → base ≤ b ∧ b < w.heap.size := by
  obtain ⟨cs, h, _⟩ := h
  exact fun b hb => h.lt b hb
theorem OD.later {w W : World} {base : Nat} {v : Value} {ts : List T} (h : OD w base v ts) (hb : Below w.heap.size w W) : OD W base v ts := by
  obtain ⟨cs, h1, h2⟩ := h
  refine ⟨cs, ?_, h2.keep fun b hS => ⟨⟨hS.1, Nat.lt_of_lt_of_le hS.2.1 hb.size, hS.2.2⟩, fun o => hb.cell (p := ⟨b, o, none⟩) hS.2.1⟩⟩
  exact h1.kept (row := none) ⟨hb.os, hb.tape, hb.output, hb.size, fun k hk _ => hb.block k hk⟩ (by
    cases hv : v.ownBlock with
    | none => exact .inl rfl
    | some k => exact .inr (by simp))
theorem OD.ki {w : World} {base : Nat} {v : Value} {ts : List T} (h : OD w base v ts) : KI w (From w base) v ts := by
  have hl := h.ltB
  obtain ⟨cs, h, hd⟩ := h
  have hd' : DI w (From w base) cs ts := hd.keep fun b hS => ⟨⟨hS.1, hS.2.1⟩, fun _ => rfl⟩
  rcases id h.2 with ⟨rfl, h0⟩ | ⟨g, cap, cur, rfl, hb, hg, hn, hm, hs, ht⟩
  · exact ⟨none, 0, by rw [h0], by omega, Nat.zero_le _, fun hp => absurd hp (by omega)⟩
  · refine ⟨some ⟨g, 0, none⟩, cap, rfl, hn, hm, fun _ => ⟨g, 0, rfl, hl g rfl, hd'.esI 0 fun j u hu => ?_⟩⟩
    have hj := (List.getElem?_eq_some_iff.1 hu).1
    have hl := hd.len
    have := (World.ownsRow.cellAt (w := w) (base := base) (e := 70) (size := 3) (g := g) (n := ts.length) (cap := cap) (xs := cs) h j (by omega)).trans hu
    rw [Nat.zero_add]
    exact this
theorem KI.fromMore {w : World} {base base' : Nat} {v : Value} {ts : List T} (h : KI w (From w base) v ts) (hb : base' ≤ base) : KI w (From w base') v ts := h.keep fun b hS => ⟨⟨Nat.le_trans hb hS.1, hS.2⟩, fun _ => rfl⟩
theorem VI.fromMore {w : World} {base base' : Nat} {v : Value} {l : List UInt8} (h : VI w (From w base) v l) (hb : base' ≤ base) : VI w (From w base') v l := h.keep fun b hS => ⟨⟨Nat.le_trans hb hS.1, hS.2⟩, fun _ => rfl⟩
theorem KI.on {w W : World} {base : Nat} {v : Value} {ts : List T} (h : KI w (From w base) v ts) (hb : Below w.heap.size w W) : KI W (From W base) v ts := h.keep fun b hS => ⟨⟨hS.1, Nat.lt_of_lt_of_le hS.2 hb.size⟩, fun o => hb.cell (p := ⟨b, o, none⟩) hS.2⟩
theorem VI.on {w W : World} {base : Nat} {v : Value} {l : List UInt8} (h : VI w (From w base) v l) (hb : Below w.heap.size w W) : VI W (From W base) v l := h.keep fun b hS => ⟨⟨hS.1, Nat.lt_of_lt_of_le hS.2 hb.size⟩, fun o => hb.cell (p := ⟨b, o, none⟩) hS.2⟩

/-- One object appended (it has just been laid into a block of its own, number B); its parts lie apart from the row: in blocks from lo on, the row below lo. -/
theorem wpList_appD {ops : Array Oper} {rest : List Oper} {o : Oper} {a : Act} {W : World} {Q : Exit → Act → World → Prop} (hgd : o.guard = none) (s x : Operand)
    (ho : o.op = .call { callee := .builtin .append, args := #[s, x], argTypes := #[67, 67] }) (base : Nat) (v : Value) (ts : List T) (t : T) (u k : Value) (B lo : Nat)
    (hs : a.eval s = v) (hx : a.eval x = .slice (some ⟨B, 0, none⟩) 1 1) (hown : OD W base v ts)
    (hu : VI W (From W lo) u t.val) (hk : KI W (From W lo) k t.kids) (hlo : ∀ b, v.ownBlock = some b → b < lo) (hbl : base ≤ lo) (hB : W.heap[B]? = some (.cells #[.int .i64 t.tag, u, k] 70 (0, 0)))
    (hlen : ts.length ≤ 1000000) (hbase : base ≤ W.heap.size)
    (h : ∀ v' w', OD w' base v' (ts ++ [t]) → Below base W w' → wpList Tryd.prog ops Q rest (a.put o.dst v') w') : wpList Tryd.prog ops Q (o :: rest) a W := by
  obtain ⟨i0, hi0, hz0, hz1, hz2⟩ := info_parts info58z
  obtain ⟨cs, h1, h2⟩ := hown
  have hn : DI W (Offs W base v.ownBlock) [.int .i64 t.tag, u, k] [t] := by
    have hS : ∀ b, From W lo b → Offs W base v.ownBlock b ∧ ∀ o, W.cell? ⟨b, o, none⟩ = W.cell? ⟨b, o, none⟩ := fun b hb =>
      ⟨⟨Nat.le_trans hbl hb.1, hb.2, fun e => absurd (hlo b e) (by have := hb.1; omega)⟩, fun _ => rfl⟩
    exact .cons rfl (hu.keep hS) (hk.keep hS) .nil
  refine wpList_append_lies W hgd s x 67 ho base 70 i0 (.agg #[.int .i64 0, .slice none 0 0, .slice none 0 0]) 3 56 Tryd.underlying67 hi0 hz0 hz1 hz2 rfl (by omega) v ts.length cs hs h1 ⟨B, 0, none⟩ 1 1 [.int .i64 t.tag, u, k] hx rfl
    (World.news_of_block (cs := #[.int .i64 t.tag, u, k]) hB) hn.one (by omega) (by simp only [maxLen]; omega) (by omega) hbase W.heap.size rfl fun g cap w' k1 k2 k3 k4 => ?_
  have hbel : Below base W w' := (Below.refl _ _).grown k2 hbase (fun k hk => (h1.lt k hk).1)
  refine h _ w' ⟨cs ++ [.int .i64 t.tag, u, k], ?_, (h2.app hn).keep fun b hS => ⟨⟨hS.1, Nat.lt_of_lt_of_le hS.2.1 hbel.size, fun e => ?_⟩, fun o => ?_⟩⟩ hbel
  · rw [List.length_append]; exact k1
  · have e2 : g = b := Option.some.inj e
    rcases k3 with k3 | k3
    · exact hS.2.2 (by rw [k3, e2])
    · have := hS.2.1; omega
  · exact k2.cell_far _ hS.2.1 (fun e => hS.2.2 e.symm)



def byN (b : List UInt8) (k : Nat) : Nat := (b.getD k 0).toNat
theorem byN_lt (b : List UInt8) (k : Nat) : byN b k < 256 := (b.getD k 0).toNat_lt
/-- The tag at the beginning of bytes, how many bytes it has, the error. -/
def tagR (b : List UInt8) : Nat × Nat × Int :=
  if byN b 0 = 0 then (0, 0, 4) else if byN b 0 % 32 ≠ 31 then (byN b 0, 1, 0) else if b.length < 2 then (0, 0, 5) else
  if byN b 1 < 31 ∨ 127 < byN b 1 then (0, 0, 4) else (256 * byN b 0 + byN b 1, 2, 0)
/-- The length at the beginning of bytes, how many bytes it has, the error. -/
def lenR (b : List UInt8) : Nat × Nat × Int :=
  if b.length < 1 then (0, 0, 5) else if byN b 0 < 128 then (byN b 0, 1, 0) else
  if byN b 0 = 129 then (if b.length < 2 then (0, 0, 5) else if byN b 1 < 128 then (0, 0, 4) else (byN b 1, 2, 0)) else
  if byN b 0 ≠ 130 then (0, 0, 4) else if b.length < 3 then (0, 0, 5) else if 256 * byN b 1 + byN b 2 < 256 then (0, 0, 4) else (256 * byN b 1 + byN b 2, 3, 0)
/-- The head of an object of depth d: the tag, the head's bytes, the value's bytes, the error. -/
def hdR (d : Nat) (b : List UInt8) : Nat × Nat × Nat × Int :=
  if 8 < d then (0, 0, 0, 4) else
  if (tagR b).2.2 ≠ 0 then (0, 0, 0, (tagR b).2.2) else
  if (lenR (b.drop (tagR b).2.1)).2.2 ≠ 0 then (0, 0, 0, (lenR (b.drop (tagR b).2.1)).2.2) else
  if (b.drop ((tagR b).2.1 + (lenR (b.drop (tagR b).2.1)).2.1)).length < (lenR (b.drop (tagR b).2.1)).1 then (0, 0, 0, 5) else
  ((tagR b).1, (tagR b).2.1 + (lenR (b.drop (tagR b).2.1)).2.1, (lenR (b.drop (tagR b).2.1)).1, 0)
theorem tagR_ok {b : List UInt8} (h : (tagR b).2.2 = 0) : 1 ≤ (tagR b).2.1 ∧ (tagR b).2.1 ≤ 2 := by
  unfold tagR at h ⊢
  repeat' split at h
  all_goals first
    | (exfalso; revert h; decide)
    | (simp [*] at h ⊢; done)
    | skip
  all_goals (repeat' split) <;> first | omega | simp_all
theorem lenR_ok {b : List UInt8} (h : (lenR b).2.2 = 0) : 1 ≤ (lenR b).2.1 ∧ (lenR b).2.1 ≤ 3 ∧ (lenR b).2.1 ≤ b.length ∧ (lenR b).1 ≤ 65535 := by
  have h0 := byN_lt b 0
  have h1 := byN_lt b 1
  have h2 := byN_lt b 2
  unfold lenR at h ⊢
  by_cases c1 : b.length < 1
  · simp [c1] at h
  · by_cases c2 : byN b 0 < 128
    · simp [c1, c2]; omega
    · by_cases c3 : byN b 0 = 129
      · by_cases c4 : b.length < 2
        · simp [c1, c2, c3, c4] at h
        · by_cases c5 : byN b 1 < 128
          · simp [c1, c2, c3, c4, c5] at h
          · simp [c1, c2, c3, c4, c5]; omega
      · by_cases c4 : byN b 0 = 130
        · by_cases c5 : b.length < 3
          · simp [c1, c2, c3, c4, c5] at h
          · by_cases c6 : 256 * byN b 1 + byN b 2 < 256
            · simp [c1, c2, c3, c4, c5, c6] at h
            · simp [c1, c2, c3, c4, c5, c6]; omega
        · simp [c1, c2, c3, c4] at h
theorem hdR_ok {d : Nat} {b : List UInt8} (h : (hdR d b).2.2.2 = 0) : 2 ≤ (hdR d b).2.1 ∧ (hdR d b).2.1 + (hdR d b).2.2.1 ≤ b.length ∧ d ≤ 8 := by
  unfold hdR at h ⊢
  by_cases c1 : 8 < d
  · simp [c1] at h
  by_cases c2 : (tagR b).2.2 = 0
  · by_cases c3 : (lenR (b.drop (tagR b).2.1)).2.2 = 0
    · by_cases c4 : (b.drop ((tagR b).2.1 + (lenR (b.drop (tagR b).2.1)).2.1)).length < (lenR (b.drop (tagR b).2.1)).1
      · rw [if_neg c1, if_neg (by simp [c2]), if_neg (by simp [c3]), if_pos c4] at h
        exact absurd h (by decide)
      · rw [if_neg c1, if_neg (by simp [c2]), if_neg (by simp [c3]), if_neg c4]
        have g2 := tagR_ok c2
        have g3 := lenR_ok c3
        generalize lenR (b.drop (tagR b).2.1) = R at *
        generalize tagR b = Q at *
        simp only [List.length_drop] at c4 g3
        refine ⟨?_, ?_, by omega⟩
        · show 2 ≤ Q.2.1 + R.2.1; omega
        · show Q.2.1 + R.2.1 + R.1 ≤ b.length; omega
    · rw [if_neg c1, if_neg (by simp [c2]), if_pos c3] at h
      exact absurd h c3
  · rw [if_neg c1, if_pos c2] at h
    exact absurd h c2

/-- The objects of depth d of which bytes consist: the error, the objects. -/
def readL (d : Nat) (b : List UInt8) : Int × List T :=
  if hb : b = [] then (0, []) else
  if he : (hdR d b).2.2.2 ≠ 0 then ((hdR d b).2.2.2, []) else
  if consB ((hdR d b).1 : Int) then
    let r := readL (d + 1) ((b.drop (hdR d b).2.1).take (hdR d b).2.2.1)
    if r.1 ≠ 0 then (r.1, []) else
    let s := readL d (b.drop ((hdR d b).2.1 + (hdR d b).2.2.1))
    if s.1 ≠ 0 then (s.1, []) else (0, T.mk ((hdR d b).1 : Int) [] r.2 :: s.2)
  else
    let s := readL d (b.drop ((hdR d b).2.1 + (hdR d b).2.2.1))
    if s.1 ≠ 0 then (s.1, []) else (0, T.mk ((hdR d b).1 : Int) ((b.drop (hdR d b).2.1).take (hdR d b).2.2.1) [] :: s.2)
termination_by b.length
decreasing_by
  all_goals
    have hok := hdR_ok (Decidable.of_not_not he)
    simp only [List.length_take, List.length_drop]
    omega

/-- The object with a tag and the bytes of its value: the error, the object. -/
def valR (d t : Nat) (c : List UInt8) : Int × T := if consB (t : Int) then (if (readL (d + 1) c).1 ≠ 0 then ((readL (d + 1) c).1, T.zero) else (0, .mk (t : Int) [] (readL (d + 1) c).2)) else (0, .mk (t : Int) c [])
def comb (ts : List T) (r : Int × List T) : Int × List T := if r.1 ≠ 0 then (r.1, []) else (0, ts ++ r.2)
theorem comb_nil (r : Int × List T) (h : r.1 ≠ 0 → r.2 = []) : comb [] r = r := by
  unfold comb
  by_cases c : r.1 = 0
  · rw [if_neg (by simp [c])]; exact Prod.ext c.symm rfl
  · rw [if_pos c]; exact Prod.ext rfl (h c).symm
theorem comb_comb (ts : List T) (t : T) (r : Int × List T) : comb ts (comb [t] r) = comb (ts ++ [t]) r := by
  unfold comb
  by_cases c : r.1 = 0
  · simp [c]
  · simp [c]
theorem readL_nil (d : Nat) : readL d [] = (0, []) := by rw [readL]; simp
theorem readL_step (d : Nat) (b : List UInt8) (hb : b ≠ []) : readL d b = if (hdR d b).2.2.2 ≠ 0 then ((hdR d b).2.2.2, []) else
    if (valR d (hdR d b).1 ((b.drop (hdR d b).2.1).take (hdR d b).2.2.1)).1 ≠ 0 then ((valR d (hdR d b).1 ((b.drop (hdR d b).2.1).take (hdR d b).2.2.1)).1, []) else
    comb [(valR d (hdR d b).1 ((b.drop (hdR d b).2.1).take (hdR d b).2.2.1)).2] (readL d (b.drop ((hdR d b).2.1 + (hdR d b).2.2.1))) := by
  rw [readL, dif_neg hb]
  by_cases he : (hdR d b).2.2.2 = 0
  · rw [dif_neg (by simp [he]), if_neg (show ¬ (hdR d b).2.2.2 ≠ 0 by simp [he])]
    unfold valR comb
    generalize readL (d + 1) ((b.drop (hdR d b).2.1).take (hdR d b).2.2.1) = R
    generalize readL d (b.drop ((hdR d b).2.1 + (hdR d b).2.2.1)) = S
    by_cases hc : consB ((hdR d b).1 : Int) = true
    · rw [if_pos hc, if_pos hc]
      by_cases hr : R.1 = 0
      · have hr' : ¬ R.1 ≠ 0 := by simp [hr]
        simp only [if_neg hr']
        rfl
      · simp only [if_pos hr]
    · rw [if_neg hc, if_neg hc]; rfl
  · rw [dif_pos he, if_pos he]
theorem readL_bad (d : Nat) (b : List UInt8) : (readL d b).1 ≠ 0 → (readL d b).2 = [] := by
  intro h
  by_cases hb : b = []
  · subst hb; rw [readL_nil] at h; exact absurd rfl h
  · rw [readL_step d b hb] at h ⊢
    by_cases he : (hdR d b).2.2.2 = 0
    · rw [if_neg (by simp [he])] at h ⊢
      split
      · rfl
      · rename_i hv
        rw [if_neg hv] at h
        unfold comb at h ⊢
        split
        · rfl
        · rename_i hr; rw [if_neg hr] at h; exact absurd rfl h
    · rw [if_pos he]
theorem comb_readL (d : Nat) (b : List UInt8) : comb [] (readL d b) = readL d b := comb_nil _ (readL_bad d b)



theorem ret3_int {j k m : IntKind} {a b c d e f : Int} (h : a = b) (g : c = d) (i : e = f) : Ending.returned (.tuple #[.int j a, .int k c, .int m e]) = .returned (.tuple #[.int j b, .int k d, .int m f]) := by rw [h, g, i]
theorem tag_eq (b : List UInt8) : tagR b = if byN b 0 = 0 then (0, 0, 4) else if byN b 0 % 32 ≠ 31 then (byN b 0, 1, 0) else if b.length < 2 then (0, 0, 5) else
  if byN b 1 < 31 ∨ 127 < byN b 1 then (0, 0, 4) else (256 * byN b 0 + byN b 1, 2, 0) := rfl
set_option maxRecDepth 100000 in
set_option maxHeartbeats 3200000 in
theorem rtag_any (b : List UInt8) (v : Value) (w : World) (B0 : Nat) (hv : SL w B0 v b) (h0 : 0 < b.length) :
    Calls Tryd.prog 99 #[v] w fun e w' => e = .returned (.tuple #[.int .i64 ((tagR b).1 : Int), .int .i64 ((tagR b).2.1 : Int), .int .i64 (tagR b).2.2]) ∧ Below w.heap.size w w' := by
  obtain ⟨A, c, rfl, h1, h2, h3⟩ := hv
  obtain ⟨B, o, rfl, hB, hc⟩ := h3 h0
  have g0 := hc 0 h0
  have g1 := hc 1
  have hx := byN_lt b 0
  have hy := byN_lt b 1
  change w.cell? ⟨B, o, none⟩ = some (.int .u8 (byN b 0 : Int)) at g0
  change 1 < b.length → w.cell? ⟨B, o + 1, none⟩ = some (.int .u8 (byN b 1 : Int)) at g1
  obtain ⟨R, hR⟩ : ∃ R, R = tagR b := ⟨_, rfl⟩
  rw [← hR]
  rw [tag_eq] at hR
  generalize byN b 0 = x at *
  generalize byN b 1 = y at *
  generalize b.length = L at *
  clear hc h3
  unfold maxLen at h2
  by_cases c1 : x = 0
  · rw [if_pos c1] at hR
    subst hR c1
    go_enter Tryd.func99, Tryd.ntmps99
    go_wp2
    go_ret3
    exact ⟨rfl, Below.refl _ _⟩
  · rw [if_neg c1] at hR
    have c1' : ¬ (x : Int) = 0 := by omega
    by_cases c2 : x % 32 ≠ 31
    · rw [if_pos c2] at hR
      subst hR
      have c2' : ¬ (x : Int) % 32 = 31 := by omega
      go_enter Tryd.func99, Tryd.ntmps99
      go_wp2
      go_ret3
      exact ⟨rfl, Below.refl _ _⟩
    · rw [if_neg c2] at hR
      have c2' : (x : Int) % 32 = 31 := by omega
      by_cases c3 : L < 2
      · rw [if_pos c3] at hR
        subst hR
        go_enter Tryd.func99, Tryd.ntmps99
        go_wp2
        go_ret3
        exact ⟨rfl, Below.refl _ _⟩
      · rw [if_neg c3] at hR
        have g1' := g1 (by omega)
        by_cases c4 : y < 31 ∨ 127 < y
        · rw [if_pos c4] at hR
          subst hR
          rcases c4 with c4 | c4
          · go_enter Tryd.func99, Tryd.ntmps99
            go_wp2
            go_ret3
            exact ⟨rfl, Below.refl _ _⟩
          · have c5 : ¬ (y : Int) < 31 := by omega
            go_enter Tryd.func99, Tryd.ntmps99
            go_wp2
            go_ret3
            exact ⟨rfl, Below.refl _ _⟩
        · rw [if_neg c4] at hR
          subst hR
          have c5 : ¬ (y : Int) < 31 := by omega
          have c6 : ¬ 127 < (y : Int) := by omega
          go_enter Tryd.func99, Tryd.ntmps99
          go_wp2
          go_region
          go_wp2
          go_ret3
          exact ⟨ret3_int (by show _ = ((256 * x + y : Nat) : Int); omega) rfl rfl, (Below.refl _ _).drew⟩
theorem len_eq (b : List UInt8) : lenR b = if b.length < 1 then (0, 0, 5) else if byN b 0 < 128 then (byN b 0, 1, 0) else
  if byN b 0 = 129 then (if b.length < 2 then (0, 0, 5) else if byN b 1 < 128 then (0, 0, 4) else (byN b 1, 2, 0)) else
  if byN b 0 ≠ 130 then (0, 0, 4) else if b.length < 3 then (0, 0, 5) else if 256 * byN b 1 + byN b 2 < 256 then (0, 0, 4) else (256 * byN b 1 + byN b 2, 3, 0) := rfl
set_option maxRecDepth 100000 in
set_option maxHeartbeats 3200000 in
theorem rlength_any (b : List UInt8) (v : Value) (w : World) (B0 : Nat) (hv : SL w B0 v b) :
    Calls Tryd.prog 100 #[v] w fun e w' => e = .returned (.tuple #[.int .i64 ((lenR b).1 : Int), .int .i64 ((lenR b).2.1 : Int), .int .i64 (lenR b).2.2]) ∧ Below w.heap.size w w' := by
  obtain ⟨A, c, rfl, h1, h2, h3⟩ := hv
  obtain ⟨R, hR⟩ : ∃ R, R = lenR b := ⟨_, rfl⟩
  rw [← hR]
  rw [len_eq] at hR
  unfold maxLen at h2
  by_cases c0 : b.length < 1
  · rw [if_pos c0] at hR
    subst hR
    have e0 : b.length = 0 := by omega
    rw [e0]
    clear h3
    go_enter Tryd.func100, Tryd.ntmps100
    go_wp2
    go_ret3
    exact ⟨rfl, Below.refl _ _⟩
  · rw [if_neg c0] at hR
    obtain ⟨B, o, rfl, hB, hc⟩ := h3 (by omega)
    have g0 := hc 0 (by omega)
    have g1 := hc 1
    have g2 := hc 2
    have hx := byN_lt b 0
    have hy := byN_lt b 1
    have hz := byN_lt b 2
    change w.cell? ⟨B, o, none⟩ = some (.int .u8 (byN b 0 : Int)) at g0
    change 1 < b.length → w.cell? ⟨B, o + 1, none⟩ = some (.int .u8 (byN b 1 : Int)) at g1
    change 2 < b.length → w.cell? ⟨B, o + 2, none⟩ = some (.int .u8 (byN b 2 : Int)) at g2
    generalize byN b 0 = x at *
    generalize byN b 1 = y at *
    generalize byN b 2 = z at *
    generalize b.length = L at *
    clear hc h3
    by_cases c1 : x < 128
    · rw [if_pos c1] at hR
      subst hR
      go_enter Tryd.func100, Tryd.ntmps100
      go_wp2
      go_ret3
      exact ⟨rfl, Below.refl _ _⟩
    · rw [if_neg c1] at hR
      have c1' : ¬ (x : Int) < 128 := by omega
      by_cases c2 : x = 129
      · rw [if_pos c2] at hR
        subst c2
        by_cases c3 : L < 2
        · rw [if_pos c3] at hR
          subst hR
          clear g1 g2 c1 c1'
          go_enter Tryd.func100, Tryd.ntmps100
          go_wp2
          go_ret3
          exact ⟨rfl, Below.refl _ _⟩
        · rw [if_neg c3] at hR
          have g1' := g1 (by omega)
          clear g1 g2 c1 c1'
          by_cases c4 : y < 128
          · rw [if_pos c4] at hR
            subst hR
            go_enter Tryd.func100, Tryd.ntmps100
            go_wp2
            go_ret3
            exact ⟨rfl, Below.refl _ _⟩
          · rw [if_neg c4] at hR
            subst hR
            have c4' : ¬ (y : Int) < 128 := by omega
            go_enter Tryd.func100, Tryd.ntmps100
            go_wp2
            go_ret3
            exact ⟨rfl, Below.refl _ _⟩
      · rw [if_neg c2] at hR
        have c2' : ¬ (x : Int) = 129 := by omega
        by_cases c3 : x ≠ 130
        · rw [if_pos c3] at hR
          subst hR
          have c3' : ¬ (x : Int) = 130 := by omega
          go_enter Tryd.func100, Tryd.ntmps100
          go_wp2
          go_ret3
          exact ⟨rfl, Below.refl _ _⟩
        · rw [if_neg c3] at hR
          have c3' : x = 130 := by omega
          subst c3'
          clear c1 c1' c2 c2' c3
          by_cases c4 : L < 3
          · rw [if_pos c4] at hR
            subst hR
            clear g1 g2
            go_enter Tryd.func100, Tryd.ntmps100
            go_wp2
            go_ret3
            exact ⟨rfl, Below.refl _ _⟩
          · rw [if_neg c4] at hR
            have g1' := g1 (by omega)
            have g2' := g2 (by omega)
            clear g1 g2
            by_cases c5 : 256 * y + z < 256
            · rw [if_pos c5] at hR
              subst hR
              have c5' : 256 * (y : Int) + (z : Int) < 256 := by omega
              go_enter Tryd.func100, Tryd.ntmps100
              go_wp2
              go_region
              go_wp2
              go_ret3
              exact ⟨rfl, (Below.refl _ _).drew⟩
            · rw [if_neg c5] at hR
              subst hR
              have c5' : ¬ 256 * (y : Int) + (z : Int) < 256 := by omega
              go_enter Tryd.func100, Tryd.ntmps100
              go_wp2
              go_region
              go_wp2
              go_ret3
              exact ⟨ret3_int (by show _ = ((256 * y + z : Nat) : Int); omega) rfl rfl, (Below.refl _ _).drew⟩



theorem byN_zero (x : UInt8) (l : List UInt8) : byN (x :: l) 0 = x.toNat := rfl
theorem byN_one (x y : UInt8) (l : List UInt8) : byN (x :: y :: l) 1 = y.toNat := rfl
theorem byN_two (x y z : UInt8) (l : List UInt8) : byN (x :: y :: z :: l) 2 = z.toNat := rfl
theorem of_toNat (n : Nat) : (UInt8.ofNat n).toNat = n % 256 := by simp
theorem to_ofNat (x : UInt8) (n : Nat) (h : n % 256 = x.toNat) : UInt8.ofNat n = x := by
  apply UInt8.toNat_inj.1
  rw [of_toNat, h]
theorem validN {N : Nat} (h : validB (N : Int) = true) : 1 ≤ N ∧ N ≤ 65535 ∧ (N ≤ 255 → N % 32 ≠ 31) ∧ (255 < N → N / 256 % 32 = 31 ∧ 31 ≤ N % 256 ∧ N % 256 ≤ 127) := by
  unfold validB at h
  split at h
  · cases h
  · rename_i c
    split at h
    · rename_i c2
      refine ⟨by omega, by omega, fun _ e => ?_, fun g => by omega⟩
      have : (N : Int) % 32 = 31 := by omega
      rw [this] at h; cases h
    · rename_i c2
      simp only [Bool.and_eq_true, decide_eq_true_eq, beq_iff_eq] at h
      exact ⟨by omega, by omega, fun g => by omega, fun _ => by omega⟩
theorem validN_of {N : Nat} (h0 : 1 ≤ N) (h1 : N ≤ 65535) (h2 : N ≤ 255 → N % 32 ≠ 31) (h3 : 255 < N → N / 256 % 32 = 31 ∧ 31 ≤ N % 256 ∧ N % 256 ≤ 127) : validB (N : Int) = true := by
  unfold validB
  rw [if_neg (by omega)]
  by_cases c : N ≤ 255
  · rw [if_pos (by omega)]
    have := h2 c
    simp only [bne_iff_ne, ne_eq]
    omega
  · rw [if_neg (by omega)]
    have := h3 (by omega)
    simp only [Bool.and_eq_true, decide_eq_true_eq, beq_iff_eq]
    omega
theorem tagR_enc (N : Nat) (hv : validB (N : Int) = true) (x : List UInt8) : tagR (tagF (N : Int) ++ x) = (N, (tagF (N : Int)).length, 0) := by
  obtain ⟨h0, h1, h2, h3⟩ := validN hv
  by_cases c : 255 < N
  · obtain ⟨g1, g2, g3⟩ := h3 c
    rw [tagF_two N c]
    unfold tagR
    simp only [List.cons_append, List.nil_append, byN_zero, byN_one, of_toNat, List.length_cons]
    rw [if_neg (by omega), if_neg (by omega), if_neg (by omega), if_neg (by omega)]
    refine Prod.ext ?_ rfl
    show 256 * (N / 256 % 256) + N % 256 = N
    omega
  · rw [tagF_one N c]
    have g := h2 (by omega)
    unfold tagR
    simp only [List.cons_append, List.nil_append, byN_zero, of_toNat]
    rw [if_neg (by omega), if_pos (by omega)]
    refine Prod.ext ?_ rfl
    show N % 256 = N
    omega
theorem lenR_enc (n : Nat) (hn : n ≤ 65535) (x : List UInt8) : lenR (lenF n ++ x) = (n, (lenF n).length, 0) := by
  by_cases c1 : n < 128
  · rw [lenF_small n c1]
    unfold lenR
    simp only [List.cons_append, List.nil_append, byN_zero, of_toNat, List.length_cons]
    rw [if_neg (by omega), if_pos (by omega)]
    refine Prod.ext ?_ rfl
    show n % 256 = n
    omega
  · by_cases c2 : n < 256
    · rw [lenF_mid n c1 c2]
      unfold lenR
      simp only [List.cons_append, List.nil_append, byN_zero, byN_one, of_toNat, List.length_cons]
      have e : (129 : UInt8).toNat = 129 := rfl
      rw [e, if_neg (by omega), if_neg (by omega), if_pos rfl, if_neg (by omega), if_neg (by omega)]
      refine Prod.ext ?_ rfl
      show n % 256 = n
      omega
    · rw [lenF_big n c2]
      unfold lenR
      simp only [List.cons_append, List.nil_append, byN_zero, byN_one, byN_two, of_toNat, List.length_cons]
      have e : (130 : UInt8).toNat = 130 := rfl
      rw [e, if_neg (by omega), if_neg (by omega), if_neg (by omega), if_neg (by omega), if_neg (by omega), if_neg (by omega)]
      refine Prod.ext ?_ rfl
      show 256 * (n / 256 % 256) + n % 256 = n
      omega
theorem hdR_enc (d N : Nat) (hd : d ≤ 8) (hv : validB (N : Int) = true) (C x : List UInt8) (hC : C.length ≤ 65535) :
    hdR d (tagF (N : Int) ++ (lenF C.length ++ (C ++ x))) = (N, (tagF (N : Int)).length + (lenF C.length).length, C.length, 0) := by
  have e1 := tagR_enc N hv (lenF C.length ++ (C ++ x))
  have e2 := lenR_enc C.length hC (C ++ x)
  have e3 : (tagF (N : Int) ++ (lenF C.length ++ (C ++ x))).drop (tagF (N : Int)).length = lenF C.length ++ (C ++ x) := by simp
  unfold hdR
  rw [e1]
  simp only [e3, e2]
  rw [if_neg (by omega), if_neg (by decide), if_neg (by decide), if_neg ?_]
  simp only [List.length_drop, List.length_append]
  omega
theorem enc_tail (t : T) (ts : List T) : encL (t :: ts) = tagF t.tag ++ (lenF (t.val ++ encL t.kids).length ++ ((t.val ++ encL t.kids) ++ encL ts)) := by
  rw [encL, enc_parts]; simp
theorem tagF_pos (t : Int) : 1 ≤ (tagF t).length := by unfold tagF; split <;> simp [putL_length]
/-- What is encoded is read as it was. -/
theorem back_enc : ∀ (n : Nat) (ts : List T) (d : Nat), (encL ts).length < n → okL (d : Int) ts = true → (encL ts).length ≤ 65535 → readL d (encL ts) = (0, ts)
  | 0, _, _, h, _, _ => absurd h (by omega)
  | n + 1, [], d, _, _, _ => by rw [encL, readL_nil]
  | n + 1, t :: ts, d, h, hok, hl => by
    rw [okL, tok_parts] at hok
    simp only [Bool.and_eq_true, decide_eq_true_eq] at hok
    obtain ⟨⟨⟨k1, k2⟩, k3⟩, k4⟩ := hok
    have k3' : okL ((d + 1 : Nat) : Int) t.kids = true := by rw [show ((d + 1 : Nat) : Int) = (d : Int) + 1 by omega]; exact k3
    rw [enc_tail] at h hl ⊢
    have hv : validB t.tag = true := by
      unfold objOk at k2
      split at k2
      · rename_i c; exact cons_valid c
      · simp only [Bool.and_eq_true] at k2; exact k2.1
    obtain ⟨tag, val, kids⟩ := t
    simp only [T.tag, T.val, T.kids] at k1 k3 k3' hv h hl ⊢
    change (if consB (tag : Int) then decide (val.length = 0) else validB tag && decide (kids.length = 0)) = true at k2
    have hr := validB_range hv
    obtain ⟨N, rfl⟩ := Int.eq_ofNat_of_zero_le (show 0 ≤ tag by omega)
    have hp := tagF_pos (N : Int)
    simp only [List.length_append] at h hl
    obtain ⟨C, hC⟩ : ∃ C, C = val ++ encL kids := ⟨_, rfl⟩
    have hCl : C.length = val.length + (encL kids).length := by rw [hC, List.length_append]
    rw [← hC]
    have hh := hdR_enc d N (by omega) hv C (encL ts) (by omega)
    have e1 : (((tagF (N : Int) ++ (lenF C.length ++ (C ++ encL ts))).drop ((tagF (N : Int)).length + (lenF C.length).length)).take C.length) = C := by
      rw [← List.append_assoc, ← List.length_append, List.drop_left, List.take_left]
    have e2 : (tagF (N : Int) ++ (lenF C.length ++ (C ++ encL ts))).drop ((tagF (N : Int)).length + (lenF C.length).length + C.length) = encL ts := by
      rw [← List.append_assoc, ← List.append_assoc, ← List.length_append, ← List.length_append, List.drop_left]
    rw [readL_step d _ (by intro e; have := congrArg List.length e; simp only [List.length_append, List.length_nil] at this; omega), hh]
    simp only [e1, e2]
    rw [if_neg (by decide), back_enc n ts d (by omega) k4 (by omega)]
    have hvr : valR d N C = (0, .mk (N : Int) val kids) := by
      unfold valR
      by_cases hc : consB (N : Int) = true
      · rw [if_pos hc] at k2 ⊢
        have hvn : val = [] := List.eq_nil_of_length_eq_zero (by simpa using k2)
        have : C = encL kids := by rw [hC, hvn]; rfl
        rw [this, back_enc n kids (d + 1) (by omega) k3' (by omega), hvn]
        rfl
      · rw [if_neg hc] at k2 ⊢
        simp only [Bool.and_eq_true, decide_eq_true_eq] at k2
        have hkn : kids = [] := List.eq_nil_of_length_eq_zero k2.2
        have : C = val := by rw [hC, hkn]; simp [encL]
        rw [this, hkn]
    rw [hvr]
    rfl
theorem tagR_one (x : UInt8) : tagR [x] = if x.toNat = 0 then (0, 0, 4) else if x.toNat % 32 ≠ 31 then (x.toNat, 1, 0) else (0, 0, 5) := rfl
theorem tagR_two (x y : UInt8) (l : List UInt8) : tagR (x :: y :: l) = if x.toNat = 0 then (0, 0, 4) else if x.toNat % 32 ≠ 31 then (x.toNat, 1, 0) else
    if (x :: y :: l).length < 2 then (0, 0, 5) else if y.toNat < 31 ∨ 127 < y.toNat then (0, 0, 4) else (256 * x.toNat + y.toNat, 2, 0) := rfl
theorem tagR_back {b : List UInt8} (h : (tagR b).2.2 = 0) : validB ((tagR b).1 : Int) = true ∧ tagF ((tagR b).1 : Int) = b.take (tagR b).2.1 := by
  match b, h with
  | [], h => simp [tagR, byN] at h
  | [x], h =>
    have hx := x.toNat_lt
    rw [tagR_one] at h ⊢
    by_cases c1 : x.toNat = 0
    · rw [if_pos c1] at h; exact absurd h (by decide)
    by_cases c2 : x.toNat % 32 ≠ 31
    · rw [if_neg c1, if_pos c2]
      refine ⟨validN_of (by simp only []; omega) (by simp only []; omega) (fun _ => c2) (fun g => absurd g (by simp only []; omega)), ?_⟩
      show tagF (x.toNat : Int) = [x]
      rw [tagF_one _ (by omega), to_ofNat x _ (by omega)]
    · rw [if_neg c1, if_neg c2] at h; exact absurd h (by decide)
  | x :: y :: l, h =>
    have hx := x.toNat_lt
    have hy := y.toNat_lt
    rw [tagR_two] at h ⊢
    by_cases c1 : x.toNat = 0
    · rw [if_pos c1] at h; exact absurd h (by decide)
    by_cases c2 : x.toNat % 32 ≠ 31
    · rw [if_neg c1, if_pos c2]
      refine ⟨validN_of (by simp only []; omega) (by simp only []; omega) (fun _ => c2) (fun g => absurd g (by simp only []; omega)), ?_⟩
      show tagF (x.toNat : Int) = [x]
      rw [tagF_one _ (by omega), to_ofNat x _ (by omega)]
    · have c0 : ¬ (x :: y :: l).length < 2 := by simp
      by_cases c3 : y.toNat < 31 ∨ 127 < y.toNat
      · rw [if_neg c1, if_neg c2, if_neg c0, if_pos c3] at h; exact absurd h (by decide)
      · rw [if_neg c1, if_neg c2, if_neg c0, if_neg c3]
        refine ⟨validN_of (by simp only []; omega) (by simp only []; omega) (fun g => absurd g (by simp only []; omega)) (fun _ => by simp only []; omega), ?_⟩
        show tagF ((256 * x.toNat + y.toNat : Nat) : Int) = [x, y]
        rw [tagF_two _ (by omega), to_ofNat x _ (by omega), to_ofNat y _ (by omega)]
theorem lenR_one (x : UInt8) (l : List UInt8) : lenR (x :: l) = if (x :: l).length < 1 then (0, 0, 5) else if x.toNat < 128 then (x.toNat, 1, 0) else
  if x.toNat = 129 then (if (x :: l).length < 2 then (0, 0, 5) else if byN (x :: l) 1 < 128 then (0, 0, 4) else (byN (x :: l) 1, 2, 0)) else
  if x.toNat ≠ 130 then (0, 0, 4) else if (x :: l).length < 3 then (0, 0, 5) else if 256 * byN (x :: l) 1 + byN (x :: l) 2 < 256 then (0, 0, 4) else (256 * byN (x :: l) 1 + byN (x :: l) 2, 3, 0) := rfl
theorem lenR_back {b : List UInt8} (h : (lenR b).2.2 = 0) : lenF (lenR b).1 = b.take (lenR b).2.1 := by
  match b, h with
  | [], h => simp [lenR] at h
  | x :: l, h =>
    have hx := x.toNat_lt
    rw [lenR_one] at h ⊢
    have c0 : ¬ (x :: l).length < 1 := by simp
    rw [if_neg c0] at h ⊢
    by_cases c1 : x.toNat < 128
    · rw [if_pos c1]
      show lenF x.toNat = [x]
      rw [lenF_small _ c1, to_ofNat x _ (by omega)]
    · rw [if_neg c1] at h ⊢
      by_cases c2 : x.toNat = 129
      · rw [if_pos c2] at h ⊢
        match l, h with
        | [], h => simp at h
        | y :: l, h =>
          have hy := y.toNat_lt
          have e1 : byN (x :: y :: l) 1 = y.toNat := rfl
          have c3 : ¬ (x :: y :: l).length < 2 := by simp
          rw [if_neg c3] at h ⊢
          generalize byN (x :: y :: l) 1 = Y at *
          by_cases c3 : Y < 128
          · rw [if_pos c3] at h; exact absurd h (by decide)
          · rw [if_neg c3]
            show lenF Y = [x, y]
            rw [lenF_mid _ c3 (by omega), to_ofNat y _ (by omega), ← to_ofNat x 129 (by omega)]
            rfl
      · rw [if_neg c2] at h ⊢
        by_cases c3 : x.toNat ≠ 130
        · rw [if_pos c3] at h; exact absurd h (by decide)
        · rw [if_neg c3] at h ⊢
          match l, h with
          | [], h => simp at h
          | [y], h => simp at h
          | y :: z :: l, h =>
            have hy := y.toNat_lt
            have hz := z.toNat_lt
            have e1 : byN (x :: y :: z :: l) 1 = y.toNat := rfl
            have e2 : byN (x :: y :: z :: l) 2 = z.toNat := rfl
            have c5 : ¬ (x :: y :: z :: l).length < 3 := by simp
            rw [if_neg c5] at h ⊢
            generalize byN (x :: y :: z :: l) 1 = Y at *
            generalize byN (x :: y :: z :: l) 2 = Z at *
            by_cases c4 : 256 * Y + Z < 256
            · rw [if_pos c4] at h; exact absurd h (by decide)
            · rw [if_neg c4]
              show lenF (256 * Y + Z) = [x, y, z]
              rw [lenF_big _ c4, to_ofNat y _ (by omega), to_ofNat z _ (by omega), ← to_ofNat x 130 (by omega)]
              rfl
theorem hdR_back {d : Nat} {b : List UInt8} (h : (hdR d b).2.2.2 = 0) : validB ((hdR d b).1 : Int) = true ∧ tagF ((hdR d b).1 : Int) ++ lenF (hdR d b).2.2.1 = b.take (hdR d b).2.1 := by
  unfold hdR at h ⊢
  by_cases c1 : 8 < d
  · simp [c1] at h
  by_cases c2 : (tagR b).2.2 = 0
  · by_cases c3 : (lenR (b.drop (tagR b).2.1)).2.2 = 0
    · by_cases c4 : (b.drop ((tagR b).2.1 + (lenR (b.drop (tagR b).2.1)).2.1)).length < (lenR (b.drop (tagR b).2.1)).1
      · rw [if_neg c1, if_neg (by simp [c2]), if_neg (by simp [c3]), if_pos c4] at h
        exact absurd h (by decide)
      · rw [if_neg c1, if_neg (by simp [c2]), if_neg (by simp [c3]), if_neg c4]
        have g2 := tagR_back c2
        have g3 := lenR_back c3
        refine ⟨g2.1, ?_⟩
        show tagF ((tagR b).1 : Int) ++ lenF (lenR (b.drop (tagR b).2.1)).1 = b.take ((tagR b).2.1 + (lenR (b.drop (tagR b).2.1)).2.1)
        rw [g2.2, g3, List.take_add]
    · rw [if_neg c1, if_neg (by simp [c2]), if_pos c3] at h
      exact absurd h c3
  · rw [if_neg c1, if_pos c2] at h
    exact absurd h c2
/-- What is read is valid, and encoded to the same bytes. -/
theorem back_dec : ∀ (n : Nat) (b : List UInt8) (d : Nat), b.length < n → (readL d b).1 = 0 → okL (d : Int) (readL d b).2 = true ∧ encL (readL d b).2 = b
  | 0, _, _, h, _ => absurd h (by omega)
  | n + 1, b, d, h, h0 => by
    by_cases hb : b = []
    · subst hb; rw [readL_nil]; simp [okL, encL]
    · rw [readL_step d b hb] at h0 ⊢
      by_cases he : (hdR d b).2.2.2 = 0
      · rw [if_neg (by simp [he])] at h0 ⊢
        have hk := hdR_ok he
        have hbk := hdR_back he
        generalize hdR d b = H at *
        obtain ⟨t, k, m, e⟩ := H
        simp only at he hk hbk h0 ⊢
        obtain ⟨C, hC⟩ : ∃ C, C = (b.drop k).take m := ⟨_, rfl⟩
        rw [← hC] at h0 ⊢
        have hCl : C.length = m := by rw [hC, List.length_take, List.length_drop]; omega
        by_cases hv : (valR d t C).1 = 0
        · rw [if_neg (by simp [hv])] at h0 ⊢
          unfold comb at h0 ⊢
          by_cases hs : (readL d (b.drop (k + m))).1 = 0
          · rw [if_neg (by simp [hs])]
            obtain ⟨i1, i2⟩ := back_dec n (b.drop (k + m)) d (by rw [List.length_drop]; omega) hs
            have hb3 : b = b.take k ++ (C ++ b.drop (k + m)) := by
              rw [hC, ← List.drop_drop, List.take_append_drop, List.take_append_drop]
            have hvv : (valR d t C).2.ok (d : Int) = true ∧ (valR d t C).2.enc = tagF (t : Int) ++ (lenF C.length ++ C) := by
              unfold valR at hv ⊢
              by_cases hc : consB (t : Int) = true
              · rw [if_pos hc] at hv ⊢
                by_cases hr : (readL (d + 1) C).1 = 0
                · rw [if_neg (by simp [hr])]
                  obtain ⟨j1, j2⟩ := back_dec n C (d + 1) (by omega) hr
                  rw [show ((d + 1 : Nat) : Int) = (d : Int) + 1 by omega] at j1
                  refine ⟨?_, ?_⟩
                  · rw [tok_parts]
                    simp only [Bool.and_eq_true, decide_eq_true_eq]
                    refine ⟨⟨by omega, ?_⟩, j1⟩
                    show (if consB (t : Int) then decide ((0 : Nat) = 0) else validB (t : Int) && decide ((readL (d + 1) C).2.length = 0)) = true
                    rw [if_pos hc]; rfl
                  · rw [enc_parts]
                    simp only [T.tag, T.val, T.kids, List.nil_append, j2]
                · rw [if_pos hr] at hv; exact absurd hv hr
              · rw [if_neg hc]
                refine ⟨?_, ?_⟩
                · rw [tok_parts]
                  simp only [Bool.and_eq_true, decide_eq_true_eq]
                  refine ⟨⟨by omega, ?_⟩, by simp [T.kids, okL]⟩
                  show (if consB (t : Int) then decide (C.length = 0) else validB (t : Int) && decide ((0 : Nat) = 0)) = true
                  rw [if_neg hc, hbk.1]; rfl
                · rw [enc_parts]
                  simp only [T.tag, T.val, T.kids, encL, List.append_nil]
            refine ⟨?_, ?_⟩
            · show okL (d : Int) ((valR d t C).2 :: (readL d (b.drop (k + m))).2) = true
              rw [okL, hvv.1, i1]; rfl
            · show encL ((valR d t C).2 :: (readL d (b.drop (k + m))).2) = b
              rw [encL, hvv.2, i2, hCl, ← List.append_assoc, hbk.2, List.append_assoc]
              exact hb3.symm
          · rw [if_pos hs] at h0; exact absurd h0 hs
        · rw [if_pos hv] at h0; exact absurd h0 hv
      · rw [if_pos he] at h0; exact absurd h0 he

end Go.Proofs.YtjkbfogjfgnhiaaDoor
