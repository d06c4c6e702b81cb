/-
  Own rows of atoms; the walks of the reference's add, atoms, Atoms.
-/
import Derived.Test.YtjkbfogjfgnhiaaDoorAtm
namespace Go.Proofs.YtjkbfogjfgnhiaaDoor
set_option linter.unusedVariables false
set_option linter.unusedSimpArgs false
open Go.RowKit

theorem info24 : (Tryd.prog.info? 24).map (fun i => (i.zero, i.size, i.bytes)) = some (some (.agg #[.int .i64 0, .int .i64 0, .slice none 0 0]), 3, 40) := by kernel_rfl
def arow (x : Ato) : List Value := [.int .i64 x.op, .int .i64 x.n, .slice none 0 0]
def Ato.obj (o n : Int) : Obj := .cells #[.int .i64 o, .int .i64 n, .slice none 0 0] 24 (0, 0)
theorem arow_len : ∀ l : List Ato, (l.flatMap arow).length = l.length * 3
  | [] => rfl
  | s :: l => by rw [List.flatMap_cons, List.length_append, arow_len l, List.length_cons]; simp [arow]; omega
theorem arow_get : ∀ (l : List Ato) (k j : Nat) (h : k < l.length), j < 3 → (l.flatMap arow)[k * 3 + j]? = (arow l[k])[j]?
  | s :: l, 0, j, h, hj => by
    rw [List.flatMap_cons, List.getElem?_append_left (by simp [arow]; omega)]
    simp
  | s :: l, k + 1, j, h, hj => by
    rw [List.flatMap_cons, List.getElem?_append_right (by simp [arow]; omega)]
    have := arow_get l k j (by simpa using h) hj
    rw [show (k + 1) * 3 + j - (arow s).length = k * 3 + j by simp [arow]; omega, this]
    simp
/-- An own row of atoms. -/
def OAt (w : World) (base : Nat) (v : Value) (l : List Ato) : Prop := w.ownsRow base 24 3 v l.length (l.flatMap arow)
theorem OAt.nil (w : World) (base : Nat) : OAt w base (.slice none 0 0) [] := World.ownsRow_nil ..
theorem OAt.later {w W : World} {base : Nat} {v : Value} {l : List Ato} (h : OAt w base v l) (hb : Below w.heap.size w W) : OAt W base v l :=
  World.ownsRow.kept (row := none) h ⟨hb.os, hb.tape, hb.output, hb.size, fun k hk _ => hb.block k hk⟩ (by
    cases hv : v.ownBlock with
    | none => exact .inl rfl
    | some k => exact .inr (by simp))
theorem OAt.value {w : World} {base : Nat} {v : Value} {l : List Ato} (h : OAt w base v l) : ∃ A c, v = .slice A l.length c := by
  rcases h.2 with ⟨rfl, h0⟩ | ⟨g, cap, cur, rfl, _⟩
  · exact ⟨none, 0, by rw [h0]⟩
  · exact ⟨_, _, rfl⟩
theorem OAt.ltB {w : World} {base : Nat} {v : Value} {l : List Ato} (h : OAt w base v l) : ∀ k, v.ownBlock = some k → base ≤ k ∧ k < w.heap.size := fun k hk => h.lt k hk
/-- An atom at three cells. -/
def AtAt (w : World) (b o : Nat) (x : Ato) : Prop := w.cell? ⟨b, o, none⟩ = some (.int .i64 x.op) ∧ w.cell? ⟨b, o + 1, none⟩ = some (.int .i64 x.n) ∧ w.cell? ⟨b, o + 2, none⟩ = some (.slice none 0 0)
/-- v is a slice of atoms that reads as l. -/
def AL (w : World) (B : Nat) (v : Value) (l : List Ato) : Prop :=
  ∃ A c, v = .slice A l.length c ∧ l.length ≤ c ∧ c ≤ maxLen ∧ Hid (0 < l.length → ∃ b o, A = some ⟨b, o, none⟩ ∧ b < B ∧ ∀ (k : Nat) (h : k < l.length), AtAt w b (o + k * 3) l[k])
theorem AtAt.keep {w w' : World} {B b o : Nat} {s : Ato} (h : AtAt w b o s) (hb : b < B) (hk : ∀ p : Addr, p.block < B → w'.cell? p = w.cell? p) : AtAt w' b o s :=
  ⟨(hk ⟨b, o, none⟩ hb).trans h.1, (hk ⟨b, o + 1, none⟩ hb).trans h.2.1, (hk ⟨b, o + 2, none⟩ hb).trans h.2.2⟩
theorem AL.keep {w w' : World} {B B' : Nat} {v : Value} {l : List Ato} (h : AL w B v l) (hB : B ≤ B') (hk : ∀ p : Addr, p.block < B → w'.cell? p = w.cell? p) : AL w' B' v l := by
  obtain ⟨A, c, hv, h1, h2, h3⟩ := h
  refine ⟨A, c, hv, h1, h2, fun hp => ?_⟩
  obtain ⟨b, o, hA, hb, hts⟩ := h3.out hp
  exact ⟨b, o, hA, by omega, fun k hk' => (hts k hk').keep hb hk⟩
theorem AL.on {w w' : World} {v : Value} {l : List Ato} (h : AL w w.heap.size v l) (hb : Below w.heap.size w w') : AL w' w'.heap.size v l := h.keep hb.size fun _ hp => hb.cell hp
theorem OAt.al {w : World} {base : Nat} {v : Value} {l : List Ato} (h : OAt w base v l) : AL w w.heap.size v l := by
  rcases id h.2 with ⟨rfl, h0⟩ | ⟨g, cap, cur, rfl, hb, hg, hn, hm, hs, ht⟩
  · exact ⟨none, 0, by rw [h0], by omega, Nat.zero_le _, fun hp => absurd hp (by omega)⟩
  · refine ⟨some ⟨g, 0, none⟩, cap, rfl, hn, hm, fun _ => ⟨g, 0, rfl, ?_, fun k hk => ?_⟩⟩
    · rcases Nat.lt_or_ge g w.heap.size with hlt | hge
      · exact hlt
      · rw [Array.getElem?_eq_none hge] at hg; cases hg
    · have cell := fun i (hi : i < 3) => (World.ownsRow.cellAt (w := w) (base := base) (e := 24) (size := 3) (g := g) (n := l.length) (cap := cap) (xs := l.flatMap arow) h (k * 3 + i) (by omega)).trans (arow_get l k i hk hi)
      rw [Nat.zero_add]
      exact ⟨cell 0 (by omega), cell 1 (by omega), cell 2 (by omega)⟩

theorem wpList_appAt {ops : Array Oper} {rest : List Oper} {o : Oper} {a : Act} {W : World} {Q : Exit → Act → World → Prop} (hgd : o.guard = none) (s x : Operand)
    (ho : o.op = .call { callee := .builtin .append, args := #[s, x], argTypes := #[22, 22] }) (base : Nat) (v : Value) (l : List Ato) (y : Ato) (B : Nat)
    (hs : a.eval s = v) (hx : a.eval x = .slice (some ⟨B, 0, none⟩) 1 1) (hown : OAt W base v l) (hB : W.heap[B]? = some (.cells #[.int .i64 y.op, .int .i64 y.n, .slice none 0 0] 24 (0, 0)))
    (hlen : l.length ≤ 1000000) (hbase : base ≤ W.heap.size)
    (h : ∀ g cap w', OAt w' base (.slice (some ⟨g, 0, none⟩) (l.length + 1) cap) (l ++ [y]) → W.grownBy w' v.ownBlock → (v.ownBlock = some g ∨ g = W.heap.size) → wpList Tryd.prog ops Q rest (a.put o.dst (.slice (some ⟨g, 0, none⟩) (l.length + 1) cap)) w') : wpList Tryd.prog ops Q (o :: rest) a W := by
  obtain ⟨i0, hi0, hz0, hz1, hz2⟩ := info_parts info24
  refine wpList_append_lies W hgd s x 22 ho base 24 i0 (.agg #[.int .i64 0, .int .i64 0, .slice none 0 0]) 3 40 Tryd.underlying22 hi0 hz0 hz1 hz2 rfl (by omega) v l.length (l.flatMap arow) hs hown ⟨B, 0, none⟩ 1 1 (arow y) hx rfl
    (World.news_of_block (cs := #[.int .i64 y.op, .int .i64 y.n, .slice none 0 0]) hB) (by intro z hz; simp [arow] at hz; rcases hz with rfl | rfl | rfl <;> rfl) (by omega) (by simp only [maxLen]; omega) (by omega) hbase W.heap.size rfl fun g cap w' k1 k2 k3 k4 => ?_
  refine h g cap w' ?_ k2 k3
  unfold OAt
  rw [List.length_append, List.flatMap_append]
  simpa using k1

def Ato.zero : Ato := ⟨0, 0⟩
theorem gD_at (l : List Ato) (k : Nat) (h : k < l.length) : l.getD k Ato.zero = l[k] := by simp [List.getD, List.getElem?_eq_getElem h]
theorem atAdd_at (l : List Ato) (o n : Int) (k : Nat) (hk : k < l.length) (h : (l[k]).eqB o n = true) : atAdd l o n = l := by
  unfold atAdd; rw [if_pos (List.any_eq_true.2 ⟨l[k], List.getElem_mem hk, h⟩)]
theorem atAdd_no (l : List Ato) (o n : Int) (h : ∀ j, j < l.length → (l.getD j Ato.zero).eqB o n = false) : atAdd l o n = l ++ [⟨o, n⟩] := by
  unfold atAdd
  rw [if_neg]
  intro hm
  obtain ⟨x, hx, e⟩ := List.any_eq_true.1 hm
  obtain ⟨j, hj, rfl⟩ := List.getElem_of_mem hx
  have := h j hj
  rw [gD_at l j hj, e] at this
  cases this
theorem no_snocA {o n : Int} {l : List Ato} {k : Nat} (hl : k < l.length) (h : ∀ j, j < k → (l.getD j Ato.zero).eqB o n = false) (hk : (l[k]).eqB o n = false) : ∀ j, j < k + 1 → (l.getD j Ato.zero).eqB o n = false := by
  intro j hj
  rcases Nat.lt_or_ge j k with h' | h'
  · exact h j h'
  · obtain rfl : j = k := by omega
    rw [gD_at l j hl]
    exact hk

set_option maxRecDepth 100000 in
set_option maxHeartbeats 3200000 in
theorem aadd_any (l : List Ato) (o n : Int) (v : Value) (base : Nat) (w : World) (hown : OAt w base v l) (hbase : base ≤ w.heap.size) (hlen : l.length ≤ 100000) :
    Calls Tryd.prog 72 #[v, .agg #[.int .i64 o, .int .i64 n, .slice none 0 0]] w fun e w' => ∃ v', e = .returned v' ∧ OAt w' base v' (atAdd l o n) ∧ Below base w w' ∧ KQ w v v' w' := by
  obtain ⟨A, c, rfl⟩ := hown.value
  have ha := alloc_below w (Ato.obj o n)
  have HA := Lib.hid ha
  have HO := Lib.hid (hown.later ha)
  have HN := Lib.hid (heap_alloc_new w (Ato.obj o n))
  have hz := alloc_size w (Ato.obj o n)
  have HZ := Lib.hid hz
  have HBS := Lib.hid hbase
  have HLL := Lib.hid hlen
  have HNO := Lib.hid (atAdd_no l o n)
  obtain ⟨hc1, hc2⟩ : l.length ≤ c ∧ c ≤ maxLen := by
    obtain ⟨A', c', hv', h1', h2', _⟩ := hown.al
    obtain ⟨rfl, rfl⟩ : A = A' ∧ c = c' := by simpa using hv'
    exact ⟨h1', h2'⟩
  unfold maxLen at hc2
  clear hown ha hz hbase hlen
  go_enter Tryd.func72, Tryd.ntmps72
  go_wp2_with fail
  go_loopw [5] (fun i wr => ∃ k : Nat, k ≤ l.length ∧ i = .int .i64 k ∧ Hid (∀ j, j < k → (l.getD j Ato.zero).eqB o n = false) ∧ Hid (Below (w.alloc (Ato.obj o n)).heap.size (w.alloc (Ato.obj o n)) wr)) (fun i _ => l.length - (intOf i).toNat)
  case atStart => exact ⟨0, Nat.zero_le _, rfl, fun j hj => absurd hj (by omega), Below.refl _ _⟩
  case round =>
    obtain ⟨k, hk, rfl, HE, HB⟩ := hrel
    have hs0 := HB.out.size
    rw [HZ.out] at hs0
    have hbx := (HB.out.block w.heap.size (by rw [HZ.out]; omega)).trans HN.out
    have b0 : wr.cell? ⟨w.heap.size, 0, none⟩ = some (.int .i64 o) := (cell_of_row _ _ 0 _ _ _ hbx).trans rfl
    have b1 : wr.cell? ⟨w.heap.size, 1, none⟩ = some (.int .i64 n) := (cell_of_row _ _ 1 _ _ _ hbx).trans rfl
    have b2 : wr.cell? ⟨w.heap.size, 2, none⟩ = some (.slice none 0 0) := (cell_of_row _ _ 2 _ _ _ hbx).trans rfl
    have HOR := Lib.hid (HO.out.later HB.out)
    have HBR := Lib.hid (HA.out.trans (HB.out.mono HA.out.size))
    clear hbx
    by_cases hlt : k < l.length
    · obtain ⟨A', c', hv', h1', h2', h3'⟩ := HOR.out.al
      obtain ⟨rfl, rfl⟩ : A = A' ∧ c = c' := by simpa using hv'
      obtain ⟨b, oo, rfl, hb, hts⟩ := h3'.out (by omega)
      obtain ⟨g0, g1, g2⟩ := hts k hlt
      have HAT := Lib.hid (atAdd_at l o n k hlt)
      have HSN := Lib.hid (@no_snocA o n l k hlt HE.out)
      clear hts h3' hv' h1' h2'
      generalize l[k] = x at *
      obtain ⟨xo, xn⟩ := x
      simp only at g0 g1
      by_cases e1 : xo = o
      · subst e1
        by_cases e2 : xn = n
        · subst e2
          have HAT2 := Lib.hid (HAT.out ((Ato.eqB_iff _ _ _).2 rfl))
          clear HSN
          go_wp2_with fail
          go_quiet (fail)
          go_wp2_with fail
          go_ret
          exact ⟨_, rfl, by rw [HAT2.out]; exact HOR.out, (below_drewN HBR.out _).mono HBS.out, (KQ.refl _ _).later (below_drewN HBR.out _)⟩
        · have e3 : (xn == n) = false := by simpa using e2
          have e4 : decide (xn = n) = false := decide_eq_false e2
          have HSN2 := Lib.hid (HSN.out (by rw [← Bool.not_eq_true, Ato.eqB_iff]; intro h; exact e2 (Ato.mk.inj h).2))
          clear HAT HSN
          go_wp2_with fail
          go_quiet (fail)
          go_wp2_with fail
          go_roundw
          case rel => exact ⟨k + 1, by omega, by go_num, HSN2, below_drewN HB.out _⟩
          case measure => simp [intOf]; omega
      · have e3 : (xo == o) = false := by simpa using e1
        have e4 : decide (xo = o) = false := decide_eq_false e1
        have HSN2 := Lib.hid (HSN.out (by rw [← Bool.not_eq_true, Ato.eqB_iff]; intro h; exact e1 (Ato.mk.inj h).1))
        clear HAT HSN
        go_wp2_with fail
        go_quiet (fail)
        go_wp2_with fail
        go_roundw
        case rel => exact ⟨k + 1, by omega, by go_num, HSN2, below_drewN HB.out _⟩
        case measure => simp [intOf]; omega
    · have hkk : k = l.length := by omega
      have HNO2 := Lib.hid (HNO.out (by rw [← hkk]; exact HE.out))
      have hba := alloc_below wr (Obj.cells #[Value.int IntKind.i64 o, Value.int IntKind.i64 n, Value.slice none 0 0] 24)
      have HO3 := Lib.hid (HOR.out.later hba)
      have HB3 := Lib.hid ((HBR.out.trans (hba.mono (by omega))).mono HBS.out)
      have HK3 := Lib.hid (((KQ.refl w (.slice A l.length c)).later HBR.out).later hba)
      have HL3 := Lib.hid (show l.length ≤ 1000000 by have := HLL.out; omega)
      have HS3 := Lib.hid (show base ≤ (wr.alloc (Obj.cells #[Value.int IntKind.i64 o, Value.int IntKind.i64 n, Value.slice none 0 0] 24)).heap.size by rw [alloc_size]; have := HBS.out; omega)
      clear hkk hba
      go_wp2_with (at_builtin; refine wpList_appAt rfl (.tmp 31) (.tmp 33) rfl base _ l ⟨o, n⟩ wr.heap.size rfl rfl HO3.out (heap_alloc_new wr _) HL3.out HS3.out ?_; intro g cap w6 hos hg hgg; have HO6 := Lib.hid hos; have HK6 := Lib.hid (HK3.out.grown (n := l.length + 1) (c := cap) hg hgg); have HB6 := Lib.hid (HB3.out.grown hg HS3.out (fun k hk => (HO3.out.ltB k hk).1)); clear hos hg hgg)
      go_ret
      exact ⟨_, rfl, by rw [HNO2.out]; exact HO6.out, HB6.out, HK6.out⟩

theorem KQ.trans {w w' w2 : World} {v q r : Value} (h : KQ w v q w') (g : KQ w' q r w2) : KQ w v r w2 := by
  refine ⟨fun m hm hv => ?_, ?_, Nat.le_trans h.2.2 g.2.2⟩
  · have hq : q.ownBlock ≠ some m := fun e => by
      rcases h.2.1 with h1 | ⟨g', h1, h2⟩
      · exact hv (h1.symm.trans e)
      · have := Option.some.inj (h1.symm.trans e); omega
    rw [g.1 m (Nat.lt_of_lt_of_le hm h.2.2) hq]
    exact h.1 m hm hv
  · rcases g.2.1 with e | ⟨g', e1, e2⟩
    · rw [e]; exact h.2.1
    · exact .inr ⟨g', e1, Nat.le_trans h.2.2 e2⟩
theorem KQ.under {w w' w2 : World} {v q : Value} (h : KQ w' v q w2) (hb : Below w.heap.size w w') : KQ w v q w2 :=
  ⟨fun m hm hv => (h.1 m (Nat.lt_of_lt_of_le hm hb.size) hv).trans (hb.block m hm), h.2.1.elim .inl fun ⟨g, e1, e2⟩ => .inr ⟨g, e1, Nat.le_trans hb.size e2⟩, Nat.le_trans hb.size h.2.2⟩
def atBits (n : Int) (l : List Ato) : Nat → List Ato | 0 => l | j + 1 => atBit n (2 ^ j) (atBits n l j)
theorem atBits_six (n : Int) (l : List Ato) : atBits n l 6 = atLev n l := rfl
theorem atBits_len (n : Int) (l : List Ato) : ∀ j, (atBits n l j).length ≤ l.length + j
  | 0 => by rw [atBits]; omega
  | j + 1 => by
    have h1 := atBits_len n l j
    have h2 := atBit_len n (2 ^ j) (atBits n l j)
    rw [atBits]; omega
theorem pow6 (j : Nat) (h : j ≤ 6) : (1 : Int) ≤ 2 ^ j ∧ (2 : Int) ^ j ≤ 64 ∧ (j < 6 → (2 : Int) ^ j ≤ 51) ∧ (¬ j < 6 → (51 : Int) < 2 ^ j) ∧ (2 : Int) ^ (j + 1) = 2 * 2 ^ j := by
  match j, h with
  | 0, _ | 1, _ | 2, _ | 3, _ | 4, _ | 5, _ | 6, _ => simp only [Int.reducePow, Nat.reduceAdd]; omega
  | j + 7, h => exact absurd h (by omega)

def AtmC (c : Cn) : Prop := ∀ (l : List Ato) (vk u : Value) (base : Nat) (w : World), KL w base vk c.kids → OAt w base u l → base ≤ w.heap.size → l.length + 6 * c.cnt ≤ 100000 →
  Calls Tryd.prog 48 #[.agg #[.int .i64 c.op, .int .i64 c.n, vk], u] w fun e w' => ∃ v', e = .returned v' ∧ OAt w' base v' (c.atm l) ∧ Below base w w' ∧ KQ w u v' w'

set_option maxRecDepth 100000 in
set_option maxHeartbeats 6400000 in
theorem atm_step (c : Cn) (ih : ∀ c' : Cn, c'.dep < c.dep → AtmC c') : AtmC c := by
  intro l vk u base w hk hown hbase hlen
  have hkd := dep_kids c
  have hkc := cnt_kids c
  have hC : ∀ (k : Nat) (h : k < c.kids.length), AtmC c.kids[k] := fun k h => ih _ (by have := depK_get c.kids k h; omega)
  have hap := atm_parts c l
  obtain ⟨A, cap, rfl, h1, h2, h3⟩ := hk
  unfold maxLen at h2
  obtain ⟨Au, cu, rfl⟩ := hown.value
  generalize c.op = op at *
  generalize c.n = n at *
  generalize c.kids = ts at *
  generalize c.cnt = cc at *
  generalize c.atm l = R at *
  have ha := alloc_below w (bx op n A ts.length cap)
  have HA := Lib.hid ha
  have HO := Lib.hid (hown.later ha)
  have HN := Lib.hid (heap_alloc_new w (bx op n A ts.length cap))
  have HZ := Lib.hid (alloc_size w (bx op n A ts.length cap))
  have HBS := Lib.hid hbase
  have HC := Lib.hid hC
  have HR := Lib.hid hap
  have HOW := Lib.hid fun k hk => (hown.ltB k hk).2
  have HK0 := Lib.hid ((KQ.refl w (.slice Au l.length cu)).later ha)
  have hml := atmK_len ts l
  clear hown ha hbase hC ih hap hkd
  have HNE := Lib.hid (show (Value.slice Au l.length cu).ownBlock ≠ some w.heap.size from fun e => by have := (HO.out.ltB _ e); have := HOW.out _ e; omega)
  go_enter Tryd.func48, Tryd.ntmps48
  go_wp2_with fail
  go_loopw [1, 5] (fun q i wr => ∃ (k : Nat) (L : List Ato), k ≤ ts.length ∧ i = .int .i64 k ∧ Hid (atmK ts l = atmK (ts.drop k) L) ∧ Hid (L.length + 6 * cntK (ts.drop k) + 6 ≤ 100000) ∧ Hid (OAt wr base q L) ∧ Hid (Below base w wr) ∧ Hid (KQ (w.alloc (bx op n A ts.length cap)) (.slice Au l.length cu) q wr)) (fun _ i _ => ts.length - (intOf i).toNat)
  case atStart => exact ⟨0, l, Nat.zero_le _, rfl, by show _ = _; rw [List.drop_zero], by show _ ≤ _; rw [List.drop_zero]; omega, HO, HA.out.mono HBS.out, KQ.refl _ _⟩
  case round =>
    obtain ⟨k, L, hkl, rfl, HS, HLN, HOW1, HB, HK⟩ := hrel
    obtain ⟨A6, c6, hq6⟩ := HOW1.out.value
    have hbx := (HK.out.1 w.heap.size (by rw [HZ.out]; omega) HNE.out).trans HN.out
    have b0 : wr.cell? ⟨w.heap.size, 0, none⟩ = some (.int .i64 op) := (cell_of_row _ _ 0 _ _ _ hbx).trans rfl
    have b1 : wr.cell? ⟨w.heap.size, 1, none⟩ = some (.int .i64 n) := (cell_of_row _ _ 1 _ _ _ hbx).trans rfl
    have b2 : wr.cell? ⟨w.heap.size, 2, none⟩ = some (.slice A ts.length cap) := (cell_of_row _ _ 2 _ _ _ hbx).trans rfl
    have hsz := HK.out.2.2
    rw [HZ.out] at hsz
    clear hbx
    by_cases hlt : k < ts.length
    · obtain ⟨b, o, rfl, hb, hts⟩ := h3.out (by omega)
      have hta := CnsAt.get hts hlt
      have hcd := cntK_drop ts k hlt
      have hCt := HC.out k hlt
      have hst := atmK_drop ts k hlt L
      obtain ⟨t, ht⟩ : ∃ t, t = ts[k] := ⟨_, rfl⟩
      rw [← ht] at hta hcd hCt hst
      have hln := HLN.out
      rw [hcd] at hln
      have hal := Cn.atm_len t L
      have hta' := CnAt.keep (Nat.le_refl _) (fun p hp => HB.out.cell hp) t b _ hb hta
      obtain ⟨A2, c2, g0, g1, g2, hu⟩ := hta'.cells
      have HV := Lib.hid (hCt L (.slice A2 t.kids.length c2) _ base wr hu HOW1.out (by have := HBS.out; omega) (by omega))
      have HST := Lib.hid (HS.out.trans hst)
      have HLN2 : Hid ((t.atm L).length + 6 * cntK (ts.drop (k + 1)) + 6 ≤ 100000) := by show _ ≤ _; omega
      clear hta hta' hts ht hu hcd hCt hst hln hal
      generalize t.atm L = L2 at *
      subst hq6
      go_wp2_with fail
      refine HV.out.mono ?_
      rintro e w5 ⟨v5, rfl, ho5, hb5, hk5⟩
      obtain ⟨A5, c5, rfl⟩ := ho5.value
      have HO5 := Lib.hid ho5
      have HB5 := Lib.hid (HB.out.trans hb5)
      have HK5 := Lib.hid (HK.out.trans hk5)
      clear ho5 hb5 hk5
      go_wp2_with fail
      go_roundw
      case rel => exact ⟨k + 1, L2, by omega, by go_num, HST, HLN2, HO5, HB5, HK5⟩
      case measure => simp [intOf]; omega
    · have hkk : k = ts.length := by omega
      have hs := HS.out
      have hln := HLN.out
      rw [hkk, List.drop_length, atmK] at hs
      have hr := HR.out
      rw [hs] at hr
      unfold atOwn at hr
      have HLL : Hid (L.length + 6 ≤ 100000) := by show _ ≤ _; omega
      subst hq6
      clear hs hkk hln HS HLN HR
      by_cases e5 : op = 5
      · subst e5
        rw [if_pos rfl] at hr
        have HR := Lib.hid hr
        have HB0 := Lib.hid (show (wr.heap[w.heap.size]? = some (bx 5 n A ts.length cap)) from (HK.out.1 w.heap.size (by rw [HZ.out]; omega) HNE.out).trans HN.out)
        have HSZ := Lib.hid hsz
        clear hr
        obtain ⟨wo, hwo⟩ : ∃ z, z = wr := ⟨wr, rfl⟩
        subst hwo
        go_wp2_with fail
        go_loopw [1, 6] (fun q i wr => ∃ (j : Nat), j ≤ 6 ∧ i = .int .i64 (2 ^ j) ∧ Hid (OAt wr base q (atBits n L j)) ∧ Hid (Below base w wr) ∧ Hid (KQ (w.alloc (bx 5 n A ts.length cap)) (.slice Au l.length cu) q wr)) (fun _ i _ => 64 - (intOf i).toNat)
        case atStart => exact ⟨0, by omega, rfl, HOW1, HB, HK⟩
        case round =>
          obtain ⟨j, hj, rfl, HO7, HB7, HK7⟩ := hrel
          obtain ⟨p1, p2, p3, p4, p5⟩ := pow6 j hj
          obtain ⟨A7, c7, hq7⟩ := HO7.out.value
          have hbx := (HK7.out.1 w.heap.size (by rw [HZ.out]; omega) HNE.out).trans HN.out
          have b0 : wr.cell? ⟨w.heap.size, 0, none⟩ = some (.int .i64 5) := (cell_of_row _ _ 0 _ _ _ hbx).trans rfl
          have b1 : wr.cell? ⟨w.heap.size, 1, none⟩ = some (.int .i64 n) := (cell_of_row _ _ 1 _ _ _ hbx).trans rfl
          have hsz7 := HK7.out.2.2
          rw [HZ.out] at hsz7
          have hlj := atBits_len n L j
          have hab : atBits n L (j + 1) = if lvB n (2 ^ j) then atAdd (atBits n L j) 5 (2 ^ j) else atBits n L j := rfl
          have HPJ := Lib.hid p5
          have HL6 := Lib.hid (show ¬ j < 6 → atBits n L j = atLev n L from fun h => (show j = 6 by omega) ▸ rfl)
          have hwr : IntKind.i64.wrap (2 * 2 ^ j) = 2 * 2 ^ j := IntWalk.i64_in _ (by omega)
          generalize (2 : Int) ^ j = P at *
          generalize atBits n L j = L3 at *
          have HV7 := Lib.hid (has_any n P wr)
          have HAD := Lib.hid (aadd_any L3 5 P _ base wr HO7.out (by have := HBS.out; omega) (by have := HLL.out; omega))
          have HAB := Lib.hid hab
          clear hbx hab p5
          generalize lvB n P = X at *
          by_cases hj6 : j < 6
          · have p6 := p3 hj6
            clear p3 p4
            subst hq7
            cases X with
            | false =>
              go_wp2_with fail
              refine HV7.out.mono ?_
              rintro e w8 ⟨rfl, rfl⟩
              go_wp2_with fail
              go_roundw
              case rel => exact ⟨j + 1, by omega, by rw [HPJ.out], by show OAt _ _ _ (atBits n L (j + 1)); rw [HAB.out]; exact HO7.out, HB7, HK7⟩
              case measure => simp [intOf]; omega
            | true =>
              go_wp2_with fail
              refine HV7.out.mono ?_
              rintro e w8 ⟨rfl, rfl⟩
              go_wp2_with fail
              refine HAD.out.mono ?_
              rintro e w9 ⟨v9, rfl, ho9, hb9, hk9⟩
              obtain ⟨A9, c9, rfl⟩ := ho9.value
              have HO9 := Lib.hid ho9
              have HB9 := Lib.hid (HB7.out.trans hb9)
              have HK9 := Lib.hid (HK7.out.trans hk9)
              clear ho9 hb9 hk9
              go_wp2_with fail
              go_roundw
              case rel => exact ⟨j + 1, by omega, by rw [HPJ.out], by show OAt _ _ _ (atBits n L (j + 1)); rw [HAB.out]; exact HO9.out, HB9, HK9⟩
              case measure => simp [intOf]; omega
          · have p6 := p4 hj6
            have HE := Lib.hid (HL6.out hj6)
            clear p3 p4
            subst hq7
            go_wp2_with fail
            go_ret
            exact ⟨_, rfl, by rw [HR.out, ← HE.out]; exact HO7.out, HB7.out, HK7.out.under HA.out⟩
      · rw [if_neg e5] at hr
        have e5' : (op == 5) = false := by simpa using e5
        have e5'' : decide (op = 5) = false := decide_eq_false e5
        have HADD : Hid (Calls Tryd.prog 72 #[.slice A6 L.length c6, .agg #[.int .i64 op, .int .i64 n, .slice none 0 0]] wr fun e w' => ∃ v', e = .returned v' ∧ OAt w' base v' (atAdd L op n) ∧ Below base wr w' ∧ KQ wr (.slice A6 L.length c6) v' w') := aadd_any L op n _ base wr HOW1.out (by have := HBS.out; omega) (by have := HLL.out; omega)
        by_cases e2 : op = 2
        · subst e2
          rw [if_pos (.inl rfl)] at hr
          have HR := Lib.hid hr
          clear hr
          go_wp2_with fail
          refine HADD.out.mono ?_
          rintro e w9 ⟨v9, rfl, ho9, hb9, hk9⟩
          obtain ⟨A9, c9, rfl⟩ := ho9.value
          go_wp2_with fail
          go_ret
          exact ⟨_, rfl, by rw [HR.out]; exact ho9, HB.out.trans hb9, (HK.out.trans hk9).under HA.out⟩
        · have e2' : (op == 2) = false := by simpa using e2
          have e2'' : decide (op = 2) = false := decide_eq_false e2
          by_cases e3 : op = 3
          · subst e3
            rw [if_pos (.inr (.inl rfl))] at hr
            have HR := Lib.hid hr
            clear hr
            go_wp2_with fail
            refine HADD.out.mono ?_
            rintro e w9 ⟨v9, rfl, ho9, hb9, hk9⟩
            obtain ⟨A9, c9, rfl⟩ := ho9.value
            go_wp2_with fail
            go_ret
            exact ⟨_, rfl, by rw [HR.out]; exact ho9, HB.out.trans hb9, (HK.out.trans hk9).under HA.out⟩
          · have e3' : (op == 3) = false := by simpa using e3
            have e3'' : decide (op = 3) = false := decide_eq_false e3
            by_cases e4 : op = 4
            · subst e4
              rw [if_pos (.inr (.inr rfl))] at hr
              have HR := Lib.hid hr
              clear hr
              go_wp2_with fail
              refine HADD.out.mono ?_
              rintro e w9 ⟨v9, rfl, ho9, hb9, hk9⟩
              obtain ⟨A9, c9, rfl⟩ := ho9.value
              go_wp2_with fail
              go_ret
              exact ⟨_, rfl, by rw [HR.out]; exact ho9, HB.out.trans hb9, (HK.out.trans hk9).under HA.out⟩
            · have e4' : (op == 4) = false := by simpa using e4
              have e4'' : decide (op = 4) = false := decide_eq_false e4
              rw [if_neg (by omega)] at hr
              have HR := Lib.hid hr
              clear hr HADD
              go_wp2_with fail
              go_ret
              exact ⟨_, rfl, by rw [HR.out]; exact HOW1.out, HB.out, HK.out.under HA.out⟩
theorem atm_any : ∀ (n : Nat) (c : Cn), c.dep < n → AtmC c
  | 0, c, h => absurd h (by omega)
  | n + 1, c, h => atm_step c fun c' h' => atm_any n c' (by omega)
end Go.Proofs.YtjkbfogjfgnhiaaDoor
