
/-
  Slices of byte slices: one that reads as a list of lists, one that the call itself owns, and an append to it.
-/
import Derived.Test.YtdalcldilmmgmaaDoorUnp
namespace Go.Proofs.YtdalcldilmmgmaaDoor
set_option linter.unusedVariables false
set_option linter.unusedSimpArgs false
open Go.RowKit

/-- v is a slice of byte slices that reads as ls; all of it lies below block B. -/
def LL (w : World) (B : Nat) (v : Value) (ls : List (List UInt8)) : Prop :=
  ∃ (A : Option Addr) (c : Nat) (vs : List Value), v = .slice A ls.length c ∧ ls.length ≤ c ∧ c ≤ maxLen ∧ vs.length = ls.length ∧
    Hid (0 < ls.length → ∃ b o, A = some ⟨b, o, none⟩ ∧ b < B ∧ ∀ k, k < ls.length → w.cell? ⟨b, o + k, none⟩ = some (vs.getD k (.slice none 0 0))) ∧
    Hid (∀ k, k < ls.length → SL w B (vs.getD k (.slice none 0 0)) (ls.getD k []))

/-- v is a slice of byte slices, it and they made by the call, in blocks from base on. -/
def OL (w : World) (base : Nat) (v : Value) (ls : List (List UInt8)) : Prop :=
  ∃ vs : List Value, w.ownsRow base 22 1 v ls.length vs ∧ (∀ u ∈ vs, u.oneCell' = true) ∧ ∀ k, k < ls.length → OB w base (vs.getD k (.slice none 0 0)) (ls.getD k [])

theorem info22 : (Tryd.prog.info? 22).map (fun i => (i.zero, i.size, i.bytes)) = some (some (.slice none 0 0), 1, 24) := by kernel_rfl

theorem OL.nil (w : World) (base : Nat) : OL w base (.slice none 0 0) [] := ⟨[], World.ownsRow_nil .., by simp, fun k hk => absurd hk (by simp)⟩

/-- An own row of byte slices in its block; a byte row never lies there. -/
theorem OB.ne_block {w : World} {base base' n : Nat} {v u : Value} {l : List UInt8} {vs : List Value} (h : OB w base v l) (h' : w.ownsRow base' 22 1 u n vs) : v.ownBlock = none ∨ v.ownBlock ≠ u.ownBlock := by
  rcases h.2 with ⟨rfl, _⟩ | ⟨g, cap, cur, rfl, _, hg, _⟩
  · exact .inl rfl
  · refine .inr fun e => ?_
    rcases h'.2 with ⟨rfl, _⟩ | ⟨g', cap', cur', rfl, _, hg', _⟩
    · cases e
    · simp only [Value.ownBlock, Option.some.injEq] at e
      subst e
      rw [hg] at hg'
      injection hg' with hg'
      injection hg' with _ ht
      exact absurd ht (by decide)

theorem OL.later {w W : World} {base : Nat} {v : Value} {ls : List (List UInt8)} (h : OL w base v ls) (hb : Below w.heap.size w W) : OL W base v ls := by
  obtain ⟨vs, h1, h2, h3⟩ := h
  refine ⟨vs, ?_, h2, fun k hk => (h3 k hk).later hb⟩
  exact h1.kept (row := none) ⟨hb.os, hb.tape, hb.output, hb.size, fun k hk _ => hb.block k hk⟩ (by
    cases hv : v.ownBlock with
    | none => exact .inl rfl
    | some k => exact .inr (by simp))

theorem OL.ll {w : World} {base : Nat} {v : Value} {ls : List (List UInt8)} (h : OL w base v ls) : LL w w.heap.size v ls := by
  obtain ⟨vs, h1, h2, h3⟩ := h
  have hlen : vs.length = ls.length := by have := h1.1; omega
  rcases h1.2 with ⟨rfl, h0⟩ | ⟨g, cap, cur, rfl, hb, hg, hn, hm, hs, ht⟩
  · exact ⟨none, 0, vs, by rw [h0], by omega, Nat.zero_le _, hlen, fun hp => absurd hp (by omega), fun k hk => (h3 k hk).sl⟩
  · refine ⟨some ⟨g, 0, none⟩, cap, vs, rfl, hn, hm, hlen, fun _ => ⟨g, 0, rfl, ?_, fun k hk => ?_⟩, fun k hk => (h3 k hk).sl⟩
    · rcases Nat.lt_or_ge g w.heap.size with hlt | hge
      · exact hlt
      · rw [Array.getElem?_eq_none hge] at hg; cases hg
    · have := World.ownsRow.cellAt (w := w) (base := base) (e := 22) (size := 1) (g := g) (n := ls.length) (cap := cap) (xs := vs) h1 (0 + k) (by omega)
      rw [this, Nat.zero_add, List.getD, List.getElem?_eq_getElem (by omega)]
      rfl

theorem OL.value {w : World} {base : Nat} {v : Value} {ls : List (List UInt8)} (h : OL w base v ls) : ∃ A c, v = .slice A ls.length c := by
  obtain ⟨A, c, vs, e, _⟩ := h.ll
  exact ⟨A, c, e⟩

/-- One byte slice of the call's own appended (it has just been laid into a block of its own, number B). -/
theorem wpList_appL {ops : Array Oper} {rest : List Oper} {o : Oper} {a : Act} {W : World} {Q : Exit → Act → World → Prop} (hgd : o.guard = none) (s x : Operand)
    (ho : o.op = .call { callee := .builtin .append, args := #[s, x], argTypes := #[74, 74] }) (w : World) (base : Nat) (v u : Value) (ls : List (List UInt8)) (l : List UInt8) (B : Nat)
    (hs : a.eval s = v) (hx : a.eval x = .slice (some ⟨B, 0, none⟩) 1 1) (hW : Below w.heap.size w W) (hown : OL w base v ls) (hu : OB w base u l) (hB : W.heap[B]? = some (.cells #[u] 22 (0, 0)))
    (hlen : ls.length ≤ 1000000) (hbase : base ≤ w.heap.size)
    (h : ∀ v' w', OL w' base v' (ls ++ [l]) → Below base w w' → wpList Tryd.prog ops Q rest (a.put o.dst v') w') : wpList Tryd.prog ops Q (o :: rest) a W := by
  obtain ⟨i0, hi0, hz0, hz1, hz2⟩ := info_parts info22
  obtain ⟨vs, h1, h2, h3⟩ := hown.later hW
  have hu' := hu.later hW
  have hsz := hW.size
  have hlen' : vs.length = ls.length := by have := h1.1; omega
  have hone : u.oneCell' = true := by
    obtain ⟨A, c, rfl⟩ := hu.value
    rfl
  refine wpList_append_lies W hgd s x 74 ho base 22 i0 (.slice none 0 0) 1 24 Tryd.underlying74 hi0 hz0 hz1 hz2 rfl (by omega) v ls.length vs hs h1 ⟨B, 0, none⟩ 1 1 [u] hx rfl
    (World.news_of_block (cs := #[u]) hB) (by intro y hy; simp at hy; subst hy; exact hone) (by omega) (by simp only [maxLen]; omega) (by omega) (by omega) W.heap.size rfl fun g cap w' k1 k2 k3 k4 => ?_
  have hl : (ls ++ [l]).length = ls.length + 1 := by simp
  refine h _ w' ⟨vs ++ [u], by rw [hl]; exact k1, ?_, fun k hk => ?_⟩ ((hW.mono hbase).grown k2 (by omega) (fun k hk => (h1.lt k hk).1))
  · intro y hy
    rcases List.mem_append.1 hy with hy | hy
    · exact h2 y hy
    · simp at hy; subst hy; exact hone
  · have hkept : ∀ {y : Value} {m : List UInt8}, OB W base y m → OB w' base y m := fun {y m} hy => World.ownsRow.kept hy k2 (OB.ne_block hy h1)
    by_cases e : k < ls.length
    · have e1 : (vs ++ [u]).getD k (.slice none 0 0) = vs.getD k (.slice none 0 0) := by simp [List.getD, List.getElem?_append, hlen', e]
      have e2 : (ls ++ [l]).getD k [] = ls.getD k [] := by simp [List.getD, List.getElem?_append, e]
      rw [e1, e2]
      exact hkept (h3 k e)
    · have ek : k = ls.length := by omega
      subst ek
      have e1 : (vs ++ [u]).getD ls.length (.slice none 0 0) = u := by simp [List.getD, ← hlen']
      have e2 : (ls ++ [l]).getD ls.length [] = l := by simp [List.getD]
      rw [e1, e2]
      exact hkept hu'

theorem clone_own (l : List UInt8) (v : Value) (w : World) (hl : SL w w.heap.size v l) (hs : l.length ≤ 100000000) :
    Calls Tryd.prog 23 #[v] w fun e w' => ∃ v', e = .returned v' ∧ OB w' w.heap.size v' l ∧ Below w.heap.size w w' := by
  obtain ⟨A1, c1, rfl, h11, h12, h13⟩ := hl
  rcases A1 with _ | a
  · have h0 : l = [] := by
      rcases Nat.eq_zero_or_pos l.length with h | h
      · exact List.eq_nil_of_length_eq_zero h
      · obtain ⟨b, o, hA, _⟩ := h13 h
        cases hA
    subst h0
    exact (Tryd.bytes_Clone_nil 0 c1 w).mono fun e w' ⟨he, hw⟩ => ⟨_, he, OB.nil _ _, by rw [hw]; exact Below.refl _ _⟩
  · refine (Tryd.bytes_Clone_at a l.length c1 (l.map fun x => (x.toNat : Int)) w (by simp) (by omega) (fun i hi => ?_)).mono fun e w' ⟨v', he, ho, _, hb⟩ => ⟨v', he, ?_, hb⟩
    · obtain ⟨b, o, hA, _, hc⟩ := h13 (by omega)
      simp only [Option.some.injEq] at hA
      subst hA
      rw [addr_add, hc i hi, map_nat_getD]
    · have e2 : (l.map fun x => (x.toNat : Int)).map (Value.int .u8) = l.map bv := by rw [List.map_map]; rfl
      rw [e2] at ho
      exact ho

end Go.Proofs.YtdalcldilmmgmaaDoor
