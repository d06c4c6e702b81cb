/-
  Own rows of statuses; added.
-/
import Derived.Test.YtjkbfogjfgnhiaaDoorInx
namespace Go.Proofs.YtjkbfogjfgnhiaaDoor
set_option linter.unusedVariables false
set_option linter.unusedSimpArgs false
open Go.RowKit

theorem info31 : (Tryd.prog.info? 31).map (fun i => (i.zero, i.size, i.bytes)) = some (some (.agg #[.int .i64 0, .int .i64 0, .int .i64 0, .int .i64 0]), 4, 32) := by kernel_rfl
def srow (s : Sc) : List Value := [.int .i64 s.pins, .int .i64 s.keys, .int .i64 s.state, .int .i64 s.level]
theorem srow_len : ∀ l : List Sc, (l.flatMap srow).length = l.length * 4
  | [] => rfl
  | s :: l => by rw [List.flatMap_cons, List.length_append, srow_len l, List.length_cons]; simp [srow]; omega
theorem srow_get : ∀ (l : List Sc) (k j : Nat) (h : k < l.length), j < 4 → (l.flatMap srow)[k * 4 + j]? = (srow l[k])[j]?
  | s :: l, 0, j, h, hj => by
    rw [List.flatMap_cons, List.getElem?_append_left (by simp [srow]; omega)]
    simp
  | s :: l, k + 1, j, h, hj => by
    rw [List.flatMap_cons, List.getElem?_append_right (by simp [srow]; omega)]
    have := srow_get l k j (by simpa using h) hj
    rw [show (k + 1) * 4 + j - (srow s).length = k * 4 + j by simp [srow]; omega, this]
    simp
/-- An own row of statuses. -/
def OSc (w : World) (base : Nat) (v : Value) (l : List Sc) : Prop := w.ownsRow base 31 4 v l.length (l.flatMap srow)
theorem OSc.nil (w : World) (base : Nat) : OSc w base (.slice none 0 0) [] := World.ownsRow_nil ..
theorem OSc.later {w W : World} {base : Nat} {v : Value} {l : List Sc} (h : OSc w base v l) (hb : Below w.heap.size w W) : OSc W base v l :=
  World.ownsRow.kept (row := none) h ⟨hb.os, hb.tape, hb.output, hb.size, fun k hk _ => hb.block k hk⟩ (by
    cases hv : v.ownBlock with
    | none => exact .inl rfl
    | some k => exact .inr (by simp))
theorem OSc.value {w : World} {base : Nat} {v : Value} {l : List Sc} (h : OSc w base v l) : ∃ A c, v = .slice A l.length c := by
  rcases h.2 with ⟨rfl, h0⟩ | ⟨g, cap, cur, rfl, _⟩
  · exact ⟨none, 0, by rw [h0]⟩
  · exact ⟨_, _, rfl⟩
theorem OSc.ltB {w : World} {base : Nat} {v : Value} {l : List Sc} (h : OSc w base v l) : ∀ k, v.ownBlock = some k → base ≤ k ∧ k < w.heap.size := fun k hk => h.lt k hk
theorem OSc.ml {w : World} {base : Nat} {v : Value} {l : List Sc} (h : OSc w base v l) : ML w w.heap.size v l := by
  rcases id h.2 with ⟨rfl, h0⟩ | ⟨g, cap, cur, rfl, hb, hg, hn, hm, hs, ht⟩
  · exact ⟨none, 0, by rw [h0], by omega, Nat.zero_le _, fun hp => absurd hp (by omega)⟩
  · refine ⟨some ⟨g, 0, none⟩, cap, rfl, hn, hm, fun _ => ⟨g, 0, rfl, ?_, fun k hk => ?_⟩⟩
    · rcases Nat.lt_or_ge g w.heap.size with hlt | hge
      · exact hlt
      · rw [Array.getElem?_eq_none hge] at hg; cases hg
    · have cell := fun i (hi : i < 4) => (World.ownsRow.cellAt (w := w) (base := base) (e := 31) (size := 4) (g := g) (n := l.length) (cap := cap) (xs := l.flatMap srow) h (k * 4 + i) (by omega)).trans (srow_get l k i hk hi)
      rw [Nat.zero_add]
      exact ⟨cell 0 (by omega), cell 1 (by omega), cell 2 (by omega), cell 3 (by omega)⟩
theorem ML.grown {w w' : World} {u v : Value} {l : List Sc} (h : ML w w.heap.size u l) (hne : 0 < l.length → u.ownBlock ≠ v.ownBlock) (hg : w.grownBy w' v.ownBlock) : ML w' w'.heap.size u l := by
  obtain ⟨A, c, rfl, h1, h2, h3⟩ := h
  refine ⟨A, c, rfl, h1, h2, fun hp => ?_⟩
  obtain ⟨b, o, rfl, hb, ht⟩ := h3.out hp
  have hk : w'.heap[b]? = w.heap[b]? := by
    rw [Array.getElem?_eq_getElem hb]
    exact app_box hg (fun e => hne hp e.symm) (Array.getElem?_eq_getElem hb)
  refine ⟨b, o, rfl, Nat.lt_of_lt_of_le hb hg.size, fun k hk' => ?_⟩
  have e := fun (p : Addr) (hp : p.block = b) => World.cell?_of_block (w := w) (w' := w') (a := p) (by rw [hp]; exact hk)
  obtain ⟨a0, a1, a2, a3⟩ := ht k hk'
  exact ⟨(e _ rfl).trans a0, (e _ rfl).trans a1, (e _ rfl).trans a2, (e _ rfl).trans a3⟩

theorem wpList_appMs {ops : Array Oper} {rest : List Oper} {o : Oper} {a : Act} {W : World} {Q : Exit → Act → World → Prop} (hgd : o.guard = none) (s x : Operand)
    (ho : o.op = .call { callee := .builtin .append, args := #[s, x], argTypes := #[63, 63] }) (base : Nat) (v : Value) (l : List Sc) (y : Sc) (B : Nat)
    (hs : a.eval s = v) (hx : a.eval x = .slice (some ⟨B, 0, none⟩) 1 1) (hown : OSc W base v l) (hB : W.heap[B]? = some (.cells #[.int .i64 y.pins, .int .i64 y.keys, .int .i64 y.state, .int .i64 y.level] 31 (0, 0)))
    (hlen : l.length ≤ 1000000) (hbase : base ≤ W.heap.size)
    (h : ∀ g cap w', OSc w' base (.slice (some ⟨g, 0, none⟩) (l.length + 1) cap) (l ++ [y]) → W.grownBy w' v.ownBlock → (v.ownBlock = some g ∨ g = W.heap.size) → wpList Tryd.prog ops Q rest (a.put o.dst (.slice (some ⟨g, 0, none⟩) (l.length + 1) cap)) w') : wpList Tryd.prog ops Q (o :: rest) a W := by
  obtain ⟨i0, hi0, hz0, hz1, hz2⟩ := info_parts info31
  refine wpList_append_lies W hgd s x 63 ho base 31 i0 (.agg #[.int .i64 0, .int .i64 0, .int .i64 0, .int .i64 0]) 4 32 Tryd.underlying63 hi0 hz0 hz1 hz2 rfl (by omega) v l.length (l.flatMap srow) hs hown ⟨B, 0, none⟩ 1 1 (srow y) hx rfl
    (World.news_of_block (cs := #[.int .i64 y.pins, .int .i64 y.keys, .int .i64 y.state, .int .i64 y.level]) hB) (by intro z hz; simp [srow] at hz; rcases hz with rfl | rfl | rfl | rfl <;> rfl) (by omega) (by simp only [maxLen]; omega) (by omega) hbase W.heap.size rfl fun g cap w' k1 k2 k3 k4 => ?_
  refine h g cap w' ?_ k2 k3
  unfold OSc
  rw [List.length_append, List.flatMap_append]
  simpa using k1

def addS (l : List Sc) (s : Sc) : List Sc := if (l.any fun t => s.eqB t) then l else l ++ [s]
/-- What added answers. -/
def addL (l more : List Sc) : List Sc := more.foldl addS l
theorem addL_take (l more : List Sc) (k : Nat) (h : k < more.length) : addL l (more.take (k + 1)) = addS (addL l (more.take k)) more[k] := by
  rw [addL, List.take_succ_eq_append_getElem h, List.foldl_append]; rfl
theorem addS_len (l : List Sc) (s : Sc) : (addS l s).length ≤ l.length + 1 := by
  unfold addS; split
  · omega
  · simp
theorem addL_len : ∀ (more l : List Sc), (addL l more).length ≤ l.length + more.length
  | [], l => by simp [addL]
  | s :: more, l => by
    have h1 := addL_len more (addS l s)
    have h2 := addS_len l s
    have e : addL l (s :: more) = addL (addS l s) more := rfl
    rw [e, List.length_cons]
    omega
end Go.Proofs.YtjkbfogjfgnhiaaDoor
