/-
  A slice of byte slices that the call owns, whose entries lie apart from it; an append of three; Join, tagField and lengthField with fresh results.
-/
import Derived.Test.YtahnmnbjgbfeaaaEnca
import Derived.Test.YtahnmnbjgbfeaaaWlkd
namespace Go.Proofs.Ytahnmnbjgbfeaaa
set_option linter.unusedVariables false
set_option linter.unusedSimpArgs false
open Go.RowKit

/-- v reads as l, and its bytes lie in blocks from lo on. -/
def FS (w : World) (lo : Nat) (v : Value) (l : List UInt8) : Prop := SL w w.heap.size v l ∧ Hid (0 < l.length → ∃ b, v.ownBlock = some b ∧ lo ≤ b)
theorem FS.on {w w' : World} {lo : Nat} {v : Value} {l : List UInt8} (h : FS w lo v l) (hb : Below w.heap.size w w') : FS w' lo v l := ⟨h.1.on hb, h.2⟩
theorem FS.more {w : World} {lo lo' : Nat} {v : Value} {l : List UInt8} (h : FS w lo v l) (hb : lo' ≤ lo) : FS w lo' v l := ⟨h.1, fun hp => by
  obtain ⟨b, h1, h2⟩ := h.2.out hp
  exact ⟨b, h1, Nat.le_trans hb h2⟩⟩
theorem OB.fs {w : World} {base : Nat} {v : Value} {l : List UInt8} (h : OB w base v l) : FS w base v l := ⟨h.sl, fun hp => by
  rcases h.2 with ⟨rfl, h0⟩ | ⟨g, cap, cur, rfl, hb, _⟩
  · omega
  · exact ⟨g, rfl, hb⟩⟩
theorem fresh_fs {w : World} {B : Nat} {v : Value} {l : List UInt8} (h : Lib.FreshBytes B w v l) : FS w B v l := ⟨fresh_sl h, fun _ => by
  obtain ⟨g, cap, zs, rfl, hg, _⟩ := h
  exact ⟨g, rfl, hg⟩⟩
theorem FS.nil (w : World) (lo c : Nat) (A : Option Addr) (hc : c ≤ maxLen) : FS w lo (.slice A 0 c) [] := ⟨SL.nil _ _ _ _ hc, fun hp => absurd hp (by simp)⟩

/-- An own row of byte slices; its entries lie apart from it. -/
def OM (w : World) (base : Nat) (v : Value) (ls : List (List UInt8)) : Prop :=
  ∃ vs : List Value, w.ownsRow base 22 1 v ls.length vs ∧ (∀ u ∈ vs, u.oneCell' = true) ∧ ∀ k, k < ls.length → SL w w.heap.size (vs.getD k (.slice none 0 0)) (ls.getD k []) ∧ (0 < (ls.getD k []).length → (vs.getD k (.slice none 0 0)).ownBlock ≠ v.ownBlock)
theorem OM.nil (w : World) (base : Nat) : OM w base (.slice none 0 0) [] := ⟨[], World.ownsRow_nil .., by simp, fun k hk => absurd hk (by simp)⟩
theorem OM.later {w W : World} {base : Nat} {v : Value} {ls : List (List UInt8)} (h : OM w base v ls) (hb : Below w.heap.size w W) : OM W base v ls := by
  obtain ⟨vs, h1, h2, h3⟩ := h
  refine ⟨vs, ?_, h2, fun k hk => ⟨(h3 k hk).1.on hb, (h3 k hk).2⟩⟩
  exact h1.kept (row := none) ⟨hb.os, hb.tape, hb.output, hb.size, fun k hk _ => hb.block k hk⟩ (by
    cases hv : v.ownBlock with
    | none => exact .inl rfl
    | some k => exact .inr (by simp))
theorem OM.ll {w : World} {base : Nat} {v : Value} {ls : List (List UInt8)} (h : OM w base v ls) : LL w w.heap.size v ls := by
  obtain ⟨vs, h1, h2, h3⟩ := h
  have hlen : vs.length = ls.length := by have := h1.1; omega
  rcases h1.2 with ⟨rfl, h0⟩ | ⟨g, cap, cur, rfl, hb, hg, hn, hm, hs, ht⟩
  · exact ⟨none, 0, vs, by rw [h0], by omega, Nat.zero_le _, hlen, fun hp => absurd hp (by omega), fun k hk => (h3 k hk).1⟩
  · refine ⟨some ⟨g, 0, none⟩, cap, vs, rfl, hn, hm, hlen, fun _ => ⟨g, 0, rfl, ?_, fun k hk => ?_⟩, fun k hk => (h3 k hk).1⟩
    · rcases Nat.lt_or_ge g w.heap.size with hlt | hge
      · exact hlt
      · rw [Array.getElem?_eq_none hge] at hg; cases hg
    · have := World.ownsRow.cellAt (w := w) (base := base) (e := 22) (size := 1) (g := g) (n := ls.length) (cap := cap) (xs := vs) h1 (0 + k) (by omega)
      rw [this, Nat.zero_add, List.getD, List.getElem?_eq_getElem (by omega)]
      rfl
theorem OM.lt {w : World} {base : Nat} {v : Value} {ls : List (List UInt8)} (h : OM w base v ls) : ∀ b, v.ownBlock = some b → b < w.heap.size := by
  obtain ⟨vs, h1, h2, h3⟩ := h
  intro b hb
  exact (h1.lt b hb).2

theorem SL.grown {W w1 : World} {u : Value} {l : List UInt8} {row : Option Nat} (h : SL W W.heap.size u l) (ha : 0 < l.length → u.ownBlock ≠ row) (hg : W.grownBy w1 row) : SL w1 w1.heap.size u l := by
  obtain ⟨A, c, rfl, h1, h2, h3⟩ := h
  refine ⟨A, c, rfl, h1, h2, fun hp => ?_⟩
  obtain ⟨b, o, rfl, hb, hc⟩ := h3 hp
  refine ⟨b, o, rfl, Nat.lt_of_lt_of_le hb hg.size, fun k hk => ?_⟩
  exact (hg.cell_far ⟨b, o + k, none⟩ hb (ha hp)).trans (hc k hk)

/-- Three fresh byte slices appended (they have just been laid into a block of their own, number B). -/
theorem wpList_appM {ops : Array Oper} {rest : List Oper} {o : Oper} {a : Act} {W : World} {Q : Exit → Act → World → Prop} (hgd : o.guard = none) (s x : Operand)
    (ho : o.op = .call { callee := .builtin .append, args := #[s, x], argTypes := #[40, 40] }) (w : World) (base lo : Nat) (v : Value) (ls : List (List UInt8)) (u1 u2 u3 : Value) (l1 l2 l3 : List UInt8) (B : Nat)
    (hs : a.eval s = v) (hx : a.eval x = .slice (some ⟨B, 0, none⟩) 3 3) (hW : Below w.heap.size w W) (hown : OM w base v ls) (hlo : ∀ b, v.ownBlock = some b → b < lo)
    (hu1 : FS w lo u1 l1) (hu2 : FS w lo u2 l2) (hu3 : FS w lo u3 l3) (hB : W.heap[B]? = some (.cells #[u1, u2, u3] 22 (0, 0)))
    (hlen : ls.length ≤ 1000000) (hbase : base ≤ w.heap.size)
    (h : ∀ v' w', OM w' base v' (ls ++ [l1, l2, l3]) → Below base w w' → wpList Try.prog ops Q rest (a.put o.dst v') w') : wpList Try.prog ops Q (o :: rest) a W := by
  obtain ⟨i0, hi0, hz0, hz1, hz2⟩ := info_parts info22
  have hown' := hown.later hW
  have hap : ∀ {u l}, FS w lo u l → SL W W.heap.size u l ∧ (0 < l.length → u.ownBlock ≠ v.ownBlock) := fun {u l} hu => ⟨hu.1.on hW, fun hp e => by
    obtain ⟨b, hb1, hb2⟩ := hu.2.out hp
    have := hlo b (by rw [← e, hb1])
    omega⟩
  have a1 := hap hu1
  have a2 := hap hu2
  have a3 := hap hu3
  have hone : ∀ {u l}, FS w lo u l → u.oneCell' = true := fun {u l} hu => by
    obtain ⟨A, c, rfl, _⟩ := hu.1
    rfl
  have hsz := hW.size
  obtain ⟨vs, h1, h2, h3⟩ := hown'
  have hlen' : vs.length = ls.length := by have := h1.1; omega
  refine wpList_append_lies W hgd s x 40 ho base 22 i0 (.slice none 0 0) 1 24 Try.underlying40 hi0 hz0 hz1 hz2 rfl (by omega) v ls.length vs hs h1 ⟨B, 0, none⟩ 3 3 [u1, u2, u3] hx rfl
    (World.news_of_block (cs := #[u1, u2, u3]) hB) (by intro y hy; simp at hy; rcases hy with rfl | rfl | rfl <;> first | exact hone hu1 | exact hone hu2 | exact hone hu3) (by omega) (by simp only [maxLen]; omega) (by omega) (by omega) W.heap.size rfl fun g cap w' k1 k2 k3 k4 => ?_
  have hl : (ls ++ [l1, l2, l3]).length = ls.length + 3 := by simp
  have hnew : ∀ {u l}, SL W W.heap.size u l ∧ (0 < l.length → u.ownBlock ≠ v.ownBlock) → SL w' w'.heap.size u l ∧ (0 < l.length → u.ownBlock ≠ some g) := fun {u l} hu => by
    refine ⟨hu.1.grown hu.2 k2, fun hp e => ?_⟩
    rcases k3 with k3 | k3
    · exact hu.2 hp (e.trans k3.symm)
    · obtain ⟨A, c, rfl, _, _, hr⟩ := hu.1
      obtain ⟨b, o, rfl, hb, _⟩ := hr hp
      simp only [Value.ownBlock, Option.some.injEq] at e
      omega
  refine h _ w' ⟨vs ++ [u1, u2, u3], by rw [hl]; exact k1, ?_, fun k hk => ?_⟩ ((hW.mono hbase).grown k2 (by omega) (fun k hk => (h1.lt k hk).1))
  · intro y hy
    rcases List.mem_append.1 hy with hy | hy
    · exact h2 y hy
    · simp at hy; rcases hy with rfl | rfl | rfl <;> first | exact hone hu1 | exact hone hu2 | exact hone hu3
  · have hcs : k < ls.length ∨ k = ls.length ∨ k = ls.length + 1 ∨ k = ls.length + 2 := by omega
    rcases hcs with e | rfl | rfl | rfl
    · have e1 : (vs ++ [u1, u2, u3]).getD k (.slice none 0 0) = vs.getD k (.slice none 0 0) := by simp [List.getD, List.getElem?_append, hlen', e]
      have e2 : (ls ++ [l1, l2, l3]).getD k [] = ls.getD k [] := by simp [List.getD, List.getElem?_append, e]
      rw [e1, e2]
      exact hnew (h3 k e)
    · have e1 : (vs ++ [u1, u2, u3]).getD ls.length (.slice none 0 0) = u1 := by simp [List.getD, ← hlen']
      have e2 : (ls ++ [l1, l2, l3]).getD ls.length [] = l1 := by simp [List.getD]
      rw [e1, e2]
      exact hnew a1
    · have e1 : (vs ++ [u1, u2, u3]).getD (ls.length + 1) (.slice none 0 0) = u2 := by simp [List.getD, ← hlen']
      have e2 : (ls ++ [l1, l2, l3]).getD (ls.length + 1) [] = l2 := by simp [List.getD]
      rw [e1, e2]
      exact hnew a2
    · have e1 : (vs ++ [u1, u2, u3]).getD (ls.length + 2) (.slice none 0 0) = u3 := by simp [List.getD, ← hlen']
      have e2 : (ls ++ [l1, l2, l3]).getD (ls.length + 2) [] = l3 := by simp [List.getD]
      rw [e1, e2]
      exact hnew a3

set_option maxRecDepth 100000 in
theorem pput_own (N k : Nat) (w : World) (h : 1 ≤ k) (h' : k ≤ 8) (h63 : N ≤ 9223372036854775807) (hn : N < 256 ^ k) :
    Calls Try.prog 35 #[.int .i64 N, .int .i64 k] w fun e w' => ∃ v', e = .returned (.tuple #[v', .int .i64 0]) ∧ FS w' w.heap.size v' (putL N k) ∧ Below w.heap.size w w' := by
  have hz := shr_zero N k
  rw [decide_eq_false (by omega)] at hz
  clear hn
  go_enter Try.func35, Try.ntmps35
  go_wp2_with (at_make; refine wpList_mk (by rfl) _ _ (by rfl) .i64 .i64 _ _ k (by rfl) (by rfl) (by rfl) (by rfl) (by omega) ?_; intro w1 hown1 hb1')
  go_loopw [28] (fun i wr => ∃ j : Nat, j ≤ k ∧ i = .int .i64 j ∧ OB wr w.heap.size (.slice (some ⟨w.heap.size, 0, none⟩) k k) (List.replicate (k - j) 0 ++ putL N j) ∧ Below w.heap.size w wr) (fun i _ => k - (intOf i).toNat)
  case atStart => exact ⟨0, Nat.zero_le _, rfl, by simpa [putL] using hown1, hb1'⟩
  case round =>
    obtain ⟨j, hj, rfl, hown, hbel⟩ := hrel
    by_cases h1 : j < k
    · have g3 := hown.cellAt (k - 1 - j) (by simp [putL_length]; omega)
      have g4 := hown.frozenAt (k - 1 - j)
      go_wp2
      go_roundw
      case rel => exact ⟨j + 1, by omega, by go_num, put_round N _ (shr_byte N j) hown h1, hbel.setCell (p := ⟨w.heap.size, k - 1 - j, none⟩) (Nat.le_refl _) _⟩
      case measure => simp [intOf]; omega
    · have hjk : j = k := by omega
      subst hjk
      go_wp2
      go_ret2
      exact ⟨_, rfl, by simpa using hown.fs, hbel⟩

set_option maxRecDepth 100000 in
theorem tagF_own (t : Int) (w : World) (h1 : 1 ≤ t) (h2 : t ≤ 65535) :
    Calls Try.prog 88 #[.int .i64 t] w fun e w' => ∃ v', e = .returned v' ∧ FS w' w.heap.size v' (tagF t) ∧ Below w.heap.size w w' := by
  obtain ⟨N, rfl⟩ := Int.eq_ofNat_of_zero_le (show 0 ≤ t by omega)
  by_cases h : 255 < (N : Int)
  · have HT := Lib.hid (show tagF (N : Int) = putL N 2 by unfold tagF; rw [if_pos h, Int.toNat_natCast])
    have HC := Lib.hid (pput_own N 2 w (by omega) (by omega) (by omega) (by omega))
    go_enter Try.func88, Try.ntmps88
    go_wp2_with (go_at_call 35; refine HC.out.mono ?_; rintro e w' ⟨v', rfl, hv', hb'⟩)
    go_ret
    exact ⟨v', rfl, by rw [HT.out]; exact hv', hb'⟩
  · have HT := Lib.hid (show tagF (N : Int) = putL N 1 by unfold tagF; rw [if_neg h, Int.toNat_natCast])
    have HC := Lib.hid (pput_own N 1 w (by omega) (by omega) (by omega) (by omega))
    have h' : (N : Int) ≤ 255 := by omega
    clear h
    go_enter Try.func88, Try.ntmps88
    go_wp2_with (go_at_call 35; refine HC.out.mono ?_; rintro e w' ⟨v', rfl, hv', hb'⟩)
    go_ret
    exact ⟨v', rfl, by rw [HT.out]; exact hv', hb'⟩

theorem FS.new (w : World) (cs : Array Value) (l : List UInt8) (hcs : cs = (l.map bv).toArray) (h : l.length ≤ 1000) :
    FS (w.alloc (.cells cs 5)) w.heap.size (.slice (some ⟨w.heap.size, 0, none⟩) l.length l.length) l := ⟨SL.new w cs l hcs h, fun _ => ⟨_, rfl, Nat.le_refl _⟩⟩
set_option maxRecDepth 100000 in
theorem lenF_own (n : Nat) (w : World) (h1 : n ≤ 10000000) :
    Calls Try.prog 89 #[.int .i64 n] w fun e w' => ∃ v', e = .returned v' ∧ FS w' w.heap.size v' (lenF n) ∧ Below w.heap.size w w' := by
  by_cases h : n < 128
  · have HT := Lib.hid (show lenF n = [UInt8.ofNat n] by unfold lenF; rw [if_pos h])
    go_enter Try.func89, Try.ntmps89
    go_wp2
    go_ret
    refine ⟨_, rfl, ?_, alloc_below _ _⟩
    rw [HT.out]
    exact FS.new w _ [UInt8.ofNat n] (by simp [bv]; omega) (by simp)
  · by_cases h' : n ≤ 255
    · have HT := Lib.hid (show lenF n = [129, UInt8.ofNat n] by unfold lenF; rw [if_neg h, if_pos h'])
      go_enter Try.func89, Try.ntmps89
      go_wp2
      go_ret
      refine ⟨_, rfl, ?_, alloc_below _ _⟩
      rw [HT.out]
      exact FS.new w _ [129, UInt8.ofNat n] (by simp [bv]; omega) (by simp)
    · have HT := Lib.hid (show lenF n = [130, UInt8.ofNat (n / 256), UInt8.ofNat n] by unfold lenF; rw [if_neg h, if_neg h'])
      go_enter Try.func89, Try.ntmps89
      go_wp2
      go_ret
      refine ⟨_, rfl, ?_, alloc_below _ _⟩
      rw [HT.out]
      exact FS.new w _ [130, UInt8.ofNat (n / 256), UInt8.ofNat n] (by simp [bv]) (by simp)

theorem bjoin_own (ls : List (List UInt8)) (v : Value) (w : World) (h : LL w w.heap.size v ls) (hn : ls.length ≤ 1000000) (hs : Lib.lens ls ≤ 10000000) :
    Calls Try.prog 67 #[v, .slice none 0 0] w fun e w' => ∃ v', e = .returned v' ∧ FS w' w.heap.size v' ls.flatten ∧ Below w.heap.size w w' := by
  obtain ⟨A, c, vs, rfl, h1, h2, h3, h4, h5⟩ := h
  match ls, h1, h3, h4, h5, hn, hs with
  | [], h1, h3, h4, h5, hn, hs =>
    exact (Try.bytes_Join_none A c (.slice none 0 0) w).mono fun e w' ⟨he, hw⟩ => ⟨_, he, FS.nil _ _ _ _ (Nat.zero_le _), by rw [hw]; exact (Below.refl _ _).alloc (Nat.le_refl _) _⟩
  | [l0], h1, h3, h4, h5, hn, hs =>
    obtain ⟨b, o, rfl, hb, hc⟩ := h4.out (by simp)
    have hc0 : w.cell? ⟨b, o, none⟩ = some (vs.getD 0 (.slice none 0 0)) := hc 0 (by simp)
    have hs0 : SL w w.heap.size (vs.getD 0 (.slice none 0 0)) l0 := h5.out 0 (by simp)
    obtain ⟨A0, c0, e0, k1, k2, k3⟩ := hs0
    rw [e0] at hc0
    have hf : [l0].flatten = l0 := by simp
    rw [hf]
    rcases Nat.eq_zero_or_pos l0.length with h0 | h0
    · have hl : l0 = [] := List.eq_nil_of_length_eq_zero h0
      subst hl
      exact (Try.bytes_Join_one_empty b o c A0 c0 (.slice none 0 0) w hc0).mono fun e w' ⟨he, hw⟩ => ⟨_, he, FS.nil _ _ _ _ (Nat.zero_le _), by rw [hw]; exact Below.refl _ _⟩
    · obtain ⟨b0, o0, rfl, hb0, hcc⟩ := k3 h0
      refine (Try.bytes_Join_one b o c ⟨b0, o0, none⟩ c0 l0 (.slice none 0 0) w hc0 (fun i x hx => ?_) h0 ?_).mono fun e w' ⟨v', he, hf, hbl⟩ => ⟨v', he, fresh_fs hf, hbl⟩
      · have hi : i < l0.length := (List.getElem?_eq_some_iff.1 hx).1
        rw [addr_add, hcc i hi]
        congr 2
        rw [List.getD, hx]
        rfl
      · have : Lib.lens [l0] = l0.length := by simp [Lib.lens]
        omega
  | l0 :: l1 :: r, h1, h3, h4, h5, hn, hs =>
    obtain ⟨b, o, rfl, hb, hc⟩ := h4.out (by simp)
    have hP : Lib.PartsAt w ⟨b, o, none⟩ vs (l0 :: l1 :: r) := by
      refine ⟨h3, fun i u hu => ?_, fun i u l hu hl => ?_⟩
      · have hi : i < vs.length := (List.getElem?_eq_some_iff.1 hu).1
        rw [addr_add, hc i (by omega), List.getD, hu]
        rfl
      · have hi : i < vs.length := (List.getElem?_eq_some_iff.1 hu).1
        have := h5.out i (by omega)
        rw [List.getD, hu, List.getD, hl] at this
        exact sl_holds this
    have hS : Lib.HoldsBytes w (.slice none 0 0) [] := sl_holds (SL.nil w 0 0 none (Nat.zero_le _))
    refine (Try.bytes_Join_many b o _ c vs (l0 :: l1 :: r) (.slice none 0 0) [] w rfl (by simp) hP h1 hS (by omega) (by simp; omega)).mono fun e w' ⟨v', he, hf, hbl⟩ => ⟨v', he, ?_, hbl⟩
    rw [join_nosep] at hf
    exact fresh_fs hf

set_option maxRecDepth 100000 in
theorem pjoin_own (ls : List (List UInt8)) (v : Value) (w : World) (h : LL w w.heap.size v ls) (hn : ls.length ≤ 1000000) (hs : Lib.lens ls ≤ 10000000) :
    Calls Try.prog 39 #[v] w fun e w' => ∃ v', e = .returned v' ∧ FS w' w.heap.size v' ls.flatten ∧ Below w.heap.size w w' := by
  have HC := Lib.hid (bjoin_own ls v w h hn hs)
  clear h
  go_enter Try.func39, Try.ntmps39
  go_wp2_with (go_at_call 67; refine HC.out.mono ?_; rintro e w' ⟨v', rfl, hv', hb'⟩)
  go_ret
  exact ⟨_, rfl, hv', hb'⟩
end Go.Proofs.Ytahnmnbjgbfeaaa
