/-
  Lists of commands in memory: one that reads as a list, one that the call itself owns, an append to it.
-/
import Derived.Test.YtjoibonbmalbdaaSam
namespace Go.Proofs.Ytjoibonbmalbdaa
set_option linter.unusedVariables false
set_option linter.unusedSimpArgs false
open Go.RowKit

instance : Inhabited Cm := ⟨⟨0, 0, 0, 0, [], 0, false⟩⟩
/-- Seven cells that hold the command c; its data lie below block B. -/
def CA (w : World) (B b o : Nat) (c : Cm) : Prop :=
  w.cell? ⟨b, o, none⟩ = some (.int .i64 c.cla) ∧ w.cell? ⟨b, o + 1, none⟩ = some (.int .i64 c.ins) ∧ w.cell? ⟨b, o + 2, none⟩ = some (.int .i64 c.p1) ∧ w.cell? ⟨b, o + 3, none⟩ = some (.int .i64 c.p2) ∧
    (∃ u, w.cell? ⟨b, o + 4, none⟩ = some u ∧ SL w B u c.data) ∧ w.cell? ⟨b, o + 5, none⟩ = some (.int .i64 c.le) ∧ w.cell? ⟨b, o + 6, none⟩ = some (.bool c.long)
/-- v is a slice of commands that reads as cs; all of it lies below block B. -/
def ML (w : World) (B : Nat) (v : Value) (cs : List Cm) : Prop :=
  ∃ A k, v = .slice A cs.length k ∧ cs.length ≤ k ∧ k ≤ maxLen ∧ Hid (0 < cs.length → ∃ b o, A = some ⟨b, o, none⟩ ∧ b < B ∧ ∀ i, i < cs.length → CA w B b (o + i * 7) (cs.getD i default))
theorem CA.keep {w w' : World} {B B' b o : Nat} {c : Cm} (h : CA w B b o c) (hb : b < B) (hB : B ≤ B') (hk : ∀ p : Addr, p.block < B → w'.cell? p = w.cell? p) : CA w' B' b o c := by
  obtain ⟨h0, h1, h2, h3, ⟨u, h4, h4'⟩, h5, h6⟩ := h
  exact ⟨(hk _ hb).trans h0, (hk _ hb).trans h1, (hk _ hb).trans h2, (hk _ hb).trans h3, ⟨u, (hk _ hb).trans h4, (h4'.keep hk).more hB⟩, (hk _ hb).trans h5, (hk _ hb).trans h6⟩
theorem ML.keep {w w' : World} {B B' : Nat} {v : Value} {cs : List Cm} (h : ML w B v cs) (hB : B ≤ B') (hk : ∀ p : Addr, p.block < B → w'.cell? p = w.cell? p) : ML w' B' v cs := by
  obtain ⟨A, k, hv, h1, h2, h3⟩ := h
  refine ⟨A, k, hv, h1, h2, fun hp => ?_⟩
  obtain ⟨b, o, hA, hb, hc⟩ := h3.out hp
  exact ⟨b, o, hA, by omega, fun i hi => (hc i hi).keep hb hB hk⟩
theorem ML.on {w w' : World} {v : Value} {cs : List Cm} (h : ML w w.heap.size v cs) (hb : Below w.heap.size w w') : ML w' w'.heap.size v cs := h.keep hb.size fun _ hp => hb.cell hp
theorem ML.nil (w : World) (B k : Nat) (A : Option Addr) (hk : k ≤ maxLen) : ML w B (.slice A 0 k) [] := ⟨A, k, rfl, Nat.zero_le _, hk, fun hp => absurd hp (by simp)⟩

def cmV (c : Cm) (u : Value) : List Value := [.int .i64 c.cla, .int .i64 c.ins, .int .i64 c.p1, .int .i64 c.p2, u, .int .i64 c.le, .bool c.long]
def cmVs : List (Cm × Value) → List Value
  | [] => []
  | p :: ps => cmV p.1 p.2 ++ cmVs ps
theorem cmVs_len : ∀ ps : List (Cm × Value), (cmVs ps).length = ps.length * 7
  | [] => rfl
  | p :: ps => by simp only [cmVs, List.length_append, cmVs_len ps, List.length_cons]; simp [cmV]; omega
theorem cmVs_app : ∀ ps qs : List (Cm × Value), cmVs (ps ++ qs) = cmVs ps ++ cmVs qs
  | [], qs => rfl
  | p :: ps, qs => by simp only [List.cons_append, cmVs, cmVs_app ps qs, List.append_assoc]
theorem cmVs_get : ∀ (ps : List (Cm × Value)) (k j : Nat) (h : k < ps.length) (hj : j < 7), (cmVs ps)[k * 7 + j]? = (cmV ps[k].1 ps[k].2)[j]?
  | p :: ps, 0, j, h, hj => by
    simp only [cmVs, Nat.zero_mul, Nat.zero_add, List.getElem_cons_zero]
    rw [List.getElem?_append_left (by simp [cmV]; omega)]
  | p :: ps, k + 1, j, h, hj => by
    simp only [cmVs, List.getElem_cons_succ]
    rw [List.getElem?_append_right (by simp [cmV]; omega)]
    have e : (k + 1) * 7 + j - (cmV p.1 p.2).length = k * 7 + j := by simp [cmV]; omega
    rw [e]
    exact cmVs_get ps k j (by simpa using h) hj
theorem cmV_one (c : Cm) (u : Value) (hu : u.oneCell' = true) : ∀ y ∈ cmV c u, y.oneCell' = true := by
  intro y hy
  simp only [cmV, List.mem_cons, List.not_mem_nil, or_false] at hy
  rcases hy with rfl | rfl | rfl | rfl | rfl | rfl | rfl <;> first | rfl | exact hu

/-- v is a slice of commands, it and their data made by the call, in blocks from base on. -/
def OM (w : World) (base : Nat) (v : Value) (cs : List Cm) : Prop :=
  ∃ ps : List (Cm × Value), ps.map Prod.fst = cs ∧ w.ownsRow base 24 7 v cs.length (cmVs ps) ∧ ∀ p ∈ ps, OB w base p.2 p.1.data
theorem info24 : (Try.prog.info? 24).map (fun i => (i.zero, i.size, i.bytes)) = some (some (.agg #[.int .i64 0, .int .i64 0, .int .i64 0, .int .i64 0, .slice none 0 0, .int .i64 0, .bool false]), 7, 72) := by kernel_rfl
theorem OM.nil (w : World) (base : Nat) : OM w base (.slice none 0 0) [] := ⟨[], rfl, World.ownsRow_nil .., fun p hp => by cases hp⟩
theorem OB.ne_block7 {w : World} {base base' n : Nat} {v u : Value} {l : List UInt8} {vs : List Value} (h : OB w base v l) (h' : w.ownsRow base' 24 7 u n vs) : v.ownBlock = none ∨ v.ownBlock ≠ u.ownBlock := by
  rcases h.2 with ⟨rfl, _⟩ | ⟨g, cap, cur, rfl, _, hg, _⟩
  · exact .inl rfl
  · refine .inr fun e => ?_
    rcases h'.2 with ⟨rfl, _⟩ | ⟨g', cap', cur', rfl, _, hg', _⟩
    · cases e
    · simp only [Value.ownBlock, Option.some.injEq] at e
      subst e
      rw [hg] at hg'
      injection hg' with hg'
      injection hg' with _ ht
      exact absurd ht (by decide)
theorem OM.later {w W : World} {base : Nat} {v : Value} {cs : List Cm} (h : OM w base v cs) (hb : Below w.heap.size w W) : OM W base v cs := by
  obtain ⟨ps, h1, h2, h3⟩ := h
  refine ⟨ps, h1, ?_, fun p hp => (h3 p hp).later hb⟩
  exact h2.kept (row := none) ⟨hb.os, hb.tape, hb.output, hb.size, fun k hk _ => hb.block k hk⟩ (by
    cases hv : v.ownBlock with
    | none => exact .inl rfl
    | some k => exact .inr (by simp))
theorem ca_of {w : World} {B b o : Nat} {c : Cm} {u : Value} (h : ∀ j, j < 7 → w.cell? ⟨b, o + j, none⟩ = (cmV c u)[j]?) (hu : SL w B u c.data) : CA w B b o c :=
  ⟨h 0 (by omega), h 1 (by omega), h 2 (by omega), h 3 (by omega), ⟨u, h 4 (by omega), hu⟩, h 5 (by omega), h 6 (by omega)⟩
theorem OM.ml {w : World} {base : Nat} {v : Value} {cs : List Cm} (h : OM w base v cs) : ML w w.heap.size v cs := by
  obtain ⟨ps, h1, h2, h3⟩ := h
  have hlp : ps.length = cs.length := by rw [← h1]; simp
  rcases h2.2 with ⟨rfl, h0⟩ | ⟨g, cap, cur, rfl, hb, hg, hn, hm, hs, ht⟩
  · exact ⟨none, 0, by rw [h0], by omega, Nat.zero_le _, fun hp => absurd hp (by omega)⟩
  · refine ⟨some ⟨g, 0, none⟩, cap, rfl, hn, hm, fun _ => ⟨g, 0, rfl, ?_, fun i hi => ?_⟩⟩
    · rcases Nat.lt_or_ge g w.heap.size with hlt | hge
      · exact hlt
      · rw [Array.getElem?_eq_none hge] at hg; cases hg
    · have hip : i < ps.length := by omega
      have e : cs.getD i default = ps[i].1 := by
        subst h1
        simp [List.getD, List.getElem?_eq_getElem hip]
      rw [e]
      refine ca_of (u := ps[i].2) (fun j hj => ?_) (h3 _ (List.getElem_mem hip)).sl
      have := World.ownsRow.cellAt (w := w) (base := base) (e := 24) (size := 7) (g := g) (n := cs.length) (cap := cap) (xs := cmVs ps) h2 (0 + i * 7 + j) (by omega)
      rw [this, Nat.zero_add, cmVs_get ps i j hip hj]
theorem OM.value {w : World} {base : Nat} {v : Value} {cs : List Cm} (h : OM w base v cs) : ∃ A c, v = .slice A cs.length c := by
  obtain ⟨A, c, e, _⟩ := h.ml
  exact ⟨A, c, e⟩

/-- One command appended (it has just been laid into a block of its own, number B); its data are the call's own. -/
theorem wpList_appM {ops : Array Oper} {rest : List Oper} {o : Oper} {a : Act} {W : World} {Q : Exit → Act → World → Prop} (hgd : o.guard = none) (s x : Operand)
    (ho : o.op = .call { callee := .builtin .append, args := #[s, x], argTypes := #[53, 53] }) (w : World) (base : Nat) (v u : Value) (cs : List Cm) (c : Cm) (B : Nat)
    (hs : a.eval s = v) (hx : a.eval x = .slice (some ⟨B, 0, none⟩) 1 1) (hW : Below w.heap.size w W) (hown : OM w base v cs) (hu : OB w base u c.data) (hB : W.heap[B]? = some (.cells (cmV c u).toArray 24 (0, 0)))
    (hlen : cs.length ≤ 1000000) (hbase : base ≤ w.heap.size)
    (h : ∀ v' w', OM w' base v' (cs ++ [c]) → Below base W w' → wpList Try.prog ops Q rest (a.put o.dst v') w') : wpList Try.prog ops Q (o :: rest) a W := by
  obtain ⟨i0, hi0, hz0, hz1, hz2⟩ := info_parts info24
  obtain ⟨ps, h1, h2, h3⟩ := hown.later hW
  have hu' := hu.later hW
  have hsz := hW.size
  have hone : u.oneCell' = true := by
    obtain ⟨A, c, rfl⟩ := hu.value
    rfl
  refine wpList_append_lies W hgd s x 53 ho base 24 i0 (.agg #[.int .i64 0, .int .i64 0, .int .i64 0, .int .i64 0, .slice none 0 0, .int .i64 0, .bool false]) 7 72 Try.underlying53 hi0 hz0 hz1 hz2 rfl (by omega) v cs.length (cmVs ps) hs h2 ⟨B, 0, none⟩ 1 1 (cmV c u) hx rfl
    (World.news_of_block (cs := (cmV c u).toArray) hB) (cmV_one c u hone) (by omega) (by simp only [maxLen]; omega) (by omega) (by omega) W.heap.size rfl fun g cap w' k1 k2 k3 k4 => ?_
  have hl : (cs ++ [c]).length = cs.length + 1 := by simp
  have hkept : ∀ {y : Value} {m : List UInt8}, OB W base y m → OB w' base y m := fun {y m} hy => World.ownsRow.kept hy k2 (OB.ne_block7 hy h2)
  refine h _ w' ⟨ps ++ [(c, u)], by simp [h1], by rw [hl, cmVs_app]; simpa [cmVs] using k1, fun p hp => ?_⟩ ((Below.refl _ _).grown k2 (by omega) (fun k hk => (h2.lt k hk).1))
  rcases List.mem_append.1 hp with hp | hp
  · exact hkept (h3 p hp)
  · simp at hp; subst hp; exact hkept hu'

/-! ### The mathematics of chains -/
def chnE (c : Cm) (n : Int) : Int := if chkC c = 0 then (if n < 1 ∨ 255 < n then 1 else if clsB c.cla = false ∨ (clsK c.cla).chn = true then 4 else 0) else chkC c
def mkC (c : Cm) (d : List UInt8) : Cm := ⟨c.cla + 16, c.ins, c.p1, c.p2, d, 0, false⟩
def lastC (c : Cm) (d : List UInt8) : Cm := ⟨c.cla, c.ins, c.p1, c.p2, d, c.le, c.long⟩
def chnF (c : Cm) (n : Nat) : Nat → List UInt8 → List Cm
  | 0, r => [lastC c r]
  | f + 1, r => if n < r.length then mkC c (r.take n) :: chnF c n f (r.drop n) else [lastC c r]
/-- The chain of a command. -/
def chnL (c : Cm) (n : Nat) : List Cm := chnF c n c.data.length c.data
theorem chnF_fuel (c : Cm) (n : Nat) (hn : 1 ≤ n) : ∀ (f g : Nat) (r : List UInt8), r.length ≤ f → r.length ≤ g → chnF c n f r = chnF c n g r
  | 0, 0, r, _, _ => rfl
  | 0, g + 1, r, h, _ => by simp only [chnF]; rw [if_neg (by omega)]
  | f + 1, 0, r, _, h => by simp only [chnF]; rw [if_neg (by omega)]
  | f + 1, g + 1, r, h1, h2 => by
    simp only [chnF]
    by_cases h : n < r.length
    · rw [if_pos h, if_pos h, chnF_fuel c n hn f g (r.drop n) (by simp; omega) (by simp; omega)]
    · rw [if_neg h, if_neg h]
/-- The chain of what is left. -/
def chnR (c : Cm) (n : Nat) (r : List UInt8) : List Cm := chnF c n r.length r
theorem chnR_more (c : Cm) (n : Nat) (hn : 1 ≤ n) (r : List UInt8) (h : n < r.length) : chnR c n r = mkC c (r.take n) :: chnR c n (r.drop n) := by
  unfold chnR
  obtain ⟨f, hf⟩ : ∃ f, r.length = f + 1 := ⟨r.length - 1, by omega⟩
  rw [hf]
  simp only [chnF]
  rw [if_pos (by omega), chnF_fuel c n hn f (r.drop n).length (r.drop n) (by simp; omega) (Nat.le_refl _)]
theorem chnR_last (c : Cm) (n : Nat) (r : List UInt8) (h : r.length ≤ n) : chnR c n r = [lastC c r] := by
  unfold chnR
  cases r.length with
  | zero => rfl
  | succ f => simp only [chnF]; rw [if_neg (by omega)]
/-- Part i of a chain: its data are piece i. -/
theorem chnR_pieces (c : Cm) (n : Nat) (hn : 1 ≤ n) : ∀ (f : Nat) (r : List UInt8), r.length ≤ f → 0 < r.length → (chnR c n r).length = (splitL r n).length ∧
    ∀ i, i < (splitL r n).length → (chnR c n r).getD i default = if i + 1 < (splitL r n).length then mkC c ((splitL r n).getD i []) else lastC c ((splitL r n).getD i [])
  | 0, r, h, h0 => absurd h0 (by omega)
  | f + 1, r, h, h0 => by
    rw [splitL_step r n hn h0]
    by_cases hl : n < r.length
    · rw [chnR_more c n hn r hl]
      obtain ⟨e1, e2⟩ := chnR_pieces c n hn f (r.drop n) (by simp; omega) (by simp; omega)
      have h3 : 0 < (splitL (r.drop n) n).length := by rw [splitL_step _ n hn (by simp; omega)]; simp
      refine ⟨by simp [e1], fun i hi => ?_⟩
      cases i with
      | zero => simp only [List.length_cons, List.getD_cons_zero]; rw [if_pos (by omega)]
      | succ i =>
        simp only [List.length_cons, List.getD_cons_succ] at hi ⊢
        rw [e2 i (by omega)]
        by_cases h4 : i + 1 < (splitL (r.drop n) n).length
        · rw [if_pos h4, if_pos (by omega)]
        · rw [if_neg h4, if_neg (by omega)]
    · rw [chnR_last c n r (by omega), List.take_of_length_le (by omega)]
      have e : r.drop n = [] := List.drop_of_length_le (by omega)
      rw [e, splitL_nil]
      refine ⟨rfl, fun i hi => ?_⟩
      have : i = 0 := by simpa using hi
      subst this
      rfl
end Go.Proofs.Ytjoibonbmalbdaa
