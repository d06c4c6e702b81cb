/-
  Layer 20: the reference's chaining.
-/
import Derived.Test.YtndkkkkfgihemaaMoc
namespace Go.Proofs.Ytndkkkkfgihemaa
set_option linter.unusedVariables false
set_option linter.unusedSimpArgs false
open Go.RowKit

set_option maxRecDepth 100000 in
set_option maxHeartbeats 1600000 in
theorem rxor_any (a b : List UInt8) (v u : Value) (w : World) (ha : SL w w.heap.size v a) (hb : SL w w.heap.size u b) (h1 : a.length = 8) (h2 : b.length = 8) :
    Calls Try.prog 46 #[v, u] w fun e w' => ∃ v', e = .returned v' ∧ OB w' w.heap.size v' (xorL a b) ∧ Below w.heap.size w w' := by
  obtain ⟨A1, c1, rfl, h11, h12, h13⟩ := ha
  obtain ⟨A2, c2, rfl, h21, h22, h23⟩ := hb
  obtain ⟨b1, o1, rfl, hb1, hc1⟩ := h13 (by omega)
  obtain ⟨b2, o2, rfl, hb2, hc2⟩ := h23 (by omega)
  have HT := Lib.hid (fun k (hk : k < 8) => xorL_take a b k (by omega) (by omega))
  have HE : Hid (xorL (a.take 8) (b.take 8) = xorL a b) := by show _ = _; rw [List.take_of_length_le (by omega), List.take_of_length_le (by omega)]
  have HL := Lib.hid (fun k (hk : k ≤ 8) => show (xorL (a.take k) (b.take k)).length ≤ 8 by simp [xorL]; omega)
  have HC1 := Lib.hid (fun k (hk : k < 8) => hc1 k (by omega))
  have HC2 := Lib.hid (fun k (hk : k < 8) => hc2 k (by omega))
  rw [h1, h2]
  unfold maxLen at h12 h22
  rw [h1] at h11
  rw [h2] at h21
  clear hc1 hc2 h13 h23 h1 h2
  go_enter Try.func46, Try.ntmps46
  go_wp2_with fail
  go_loopw [5, 6] (fun o i wr => ∃ k : Nat, k ≤ 8 ∧ i = .int .i64 k ∧ OB wr w.heap.size o (xorL (a.take k) (b.take k)) ∧ Below w.heap.size w wr) (fun _ i _ => 8 - (intOf i).toNat)
  case atStart => exact ⟨0, by omega, rfl, by simpa [xorL] using OB.nil w w.heap.size, Below.refl _ _⟩
  case round =>
    obtain ⟨k, hk, rfl, hown, hbel⟩ := hrel
    obtain ⟨A5, c5, rfl⟩ := hown.value
    by_cases hlt : k < 8
    · have g1 := (hbel.cell (p := ⟨b1, o1 + k, none⟩) hb1).trans (HC1.out k hlt)
      have g2 := (hbel.cell (p := ⟨b2, o2 + k, none⟩) hb2).trans (HC2.out k hlt)
      have HX := Lib.hid (bits_xor (a.getD k 0) (b.getD k 0))
      have HTK := Lib.hid (HT.out k hlt)
      have hle := HL.out k hk
      generalize a.getD k 0 = x at *
      generalize b.getD k 0 = y at *
      generalize xorL (a.take k) (b.take k) = q at *
      have HLE : Hid (q.length ≤ 10000000) := Nat.le_trans hle (by omega)
      clear hle
      have HX0 : Hid (∀ W, Below w.heap.size wr W → W.cell? ⟨b1, o1 + k, none⟩ = some (.int .u8 (x.toNat : Int)) ∧ W.cell? ⟨b2, o2 + k, none⟩ = some (.int .u8 (y.toNat : Int))) :=
        fun W hb => ⟨(hb.cell (p := ⟨b1, o1 + k, none⟩) hb1).trans g1, (hb.cell (p := ⟨b2, o2 + k, none⟩) hb2).trans g2⟩
      have ba : Hid (∀ o, Below w.heap.size wr (wr.alloc o).drew) := fun o => ((Below.refl _ _).alloc hbel.size _).drew
      have bd : Below w.heap.size wr wr.drew := (Below.refl _ _).drew
      go_wp2_with fail
      go_region_held3 (fun W => W.cell? ⟨b1, o1 + k, none⟩ = some (.int .u8 (x.toNat : Int)) ∧ W.cell? ⟨b2, o2 + k, none⟩ = some (.int .u8 (y.toNat : Int)))
        (first
          | exact HX0.out _ bd
          | exact HX0.out _ (ba.out _)
          | exact HX0.out _ (by assumption))
        ((refine step_app1 (by rfl) (.tmp 11) (.tmp 21) (by rfl) wr w.heap.size _ q (x ^^^ y) _ wr.heap.size (by rfl) (by rfl) (((Below.refl _ _).alloc (Nat.le_refl _) _).drew) hown (heap_alloc_new wr _) HX.out HLE.out hbel.size ?_; intro g9 cap9 w9 hv9 hb9))
      all_goals
        go_wp2
        go_roundw
        case rel => exact ⟨k + 1, by omega, by go_num, by rw [HTK.out]; exact hv9, hbel.trans hb9⟩
        case measure => simp [intOf]; omega
    · have hk8 : k = 8 := by omega
      subst hk8
      have HOW := Lib.hid hown
      clear hown
      rw [HE.out] at HOW ⊢
      go_wp2
      go_ret
      exact ⟨_, rfl, HOW.out, hbel⟩
/-- A slice that reads as l and lies off what o owns. -/
def FLo (w : World) (o v : Value) (l : List UInt8) : Prop :=
  ∃ (A : Option Addr) (c : Nat), v = .slice A l.length c ∧ l.length ≤ c ∧ c ≤ maxLen ∧ (0 < l.length → ∃ b f, A = some ⟨b, f, none⟩ ∧ o.ownBlock ≠ some b ∧ b < w.heap.size ∧ ∀ k, k < l.length → w.cell? ⟨b, f + k, none⟩ = some (.int .u8 ((l.getD k 0).toNat : Int)))
theorem FLo.sl {o : Value} {w : World} {v : Value} {l : List UInt8} (h : FLo w o v l) : SL w w.heap.size v l := by
  obtain ⟨A, c, hv, h1, h2, h3⟩ := h
  exact ⟨A, c, hv, h1, h2, fun hp => by obtain ⟨b, o, hA, _, hb, hc⟩ := h3 hp; exact ⟨b, o, hA, hb, hc⟩⟩
theorem FLo.app {w w' : World} {o v : Value} {l : List UInt8} {g n cap : Nat} (h : FLo w o v l) (hg : w.grownBy w' o.ownBlock) (hc : o.ownBlock = some g ∨ g = w.heap.size) : FLo w' (.slice (some ⟨g, 0, none⟩) n cap) v l := by
  obtain ⟨A, c, hv, h1, h2, h3⟩ := h
  refine ⟨A, c, hv, h1, h2, fun hp => ?_⟩
  obtain ⟨b, f, hA, hn, hb, hcl⟩ := h3 hp
  refine ⟨b, f, hA, fun e => ?_, Nat.lt_of_lt_of_le hb hg.size, fun k hk => ?_⟩
  · have e' : g = b := by simpa [Value.ownBlock] using e
    rcases hc with hc | hc
    · exact hn (by rw [hc, e'])
    · omega
  · rw [← hcl k hk]
    exact World.cell?_of_block (hg.block b hb (fun e => hn e.symm))
theorem OB.flo {w W : World} {B base : Nat} {o v : Value} {l lo : List UInt8} (h : OB w B v l) (ho : OB W base o lo) (hB : W.heap.size ≤ B) : FLo w o v l := by
  rcases h.2 with ⟨rfl, h0⟩ | ⟨b, cap, cur, rfl, hb, hgc, hn, hm, hs, ht⟩
  · have : l = [] := List.eq_nil_of_length_eq_zero h0
    subst this
    exact ⟨none, 0, rfl, Nat.le_refl _, Nat.zero_le _, fun h => absurd h (by simp)⟩
  · refine ⟨some ⟨b, 0, none⟩, cap, rfl, hn, hm, fun _ => ⟨b, 0, rfl, fun e => ?_, blk_lt hgc, fun k hk => ?_⟩⟩
    · have := (ho.lt b e).2
      omega
    · have := World.ownsRow.cellAt (w := w) (base := B) (e := 5) (size := 1) (g := b) (n := l.length) (cap := cap) (xs := l.map bv) h (0 + k) (by omega)
      rw [this, Nat.zero_add, map_bv_get l k hk]
theorem SL.flo {w : World} {v : Value} {l : List UInt8} (h : SL w w.heap.size v l) : FLo w (.slice none 0 0) v l := by
  obtain ⟨A, c, hv, h1, h2, h3⟩ := h
  exact ⟨A, c, hv, h1, h2, fun hp => by obtain ⟨b, o, hA, hb, hc⟩ := h3 hp; exact ⟨b, o, hA, by simp [Value.ownBlock], hb, hc⟩⟩
/-- Some bytes appended to what the call owns, told in full. -/
theorem wpList_appF {ops : Array Oper} {rest : List Oper} {o : Oper} {a : Act} {W : World} {Q : Exit → Act → World → Prop} (hgd : o.guard = none) (s x : Operand)
    (ho : o.op = .call { callee := .builtin .append, args := #[s, x], argTypes := #[22, 22] }) (base : Nat) (v : Value) (l m : List UInt8) (A : Option Addr) (c ml : Nat) (hml : m.length = ml)
    (hs : a.eval s = v) (hx : a.eval x = .slice A ml c) (hown : OB W base v l) (h0 : 0 < m.length)
    (hm : 0 < m.length → ∃ b o, A = some ⟨b, o, none⟩ ∧ ∀ k, k < m.length → W.cell? ⟨b, o + k, none⟩ = some (.int .u8 ((m.getD k 0).toNat : Int)))
    (hlen : l.length + m.length ≤ 100000000) (hbase : base ≤ W.heap.size)
    (h : ∀ g cap w', OB w' base (.slice (some ⟨g, 0, none⟩) (l.length + ml) cap) (l ++ m) → Hid (W.grownBy w' v.ownBlock ∧ (v.ownBlock = some g ∨ g = W.heap.size)) → wpList Try.prog ops Q rest (a.put o.dst (.slice (some ⟨g, 0, none⟩) (l.length + ml) cap)) w') : wpList Try.prog ops Q (o :: rest) a W := by
  subst hml
  obtain ⟨i0, hi0, hz0, hz1, hz2⟩ := info_parts info5
  obtain ⟨b, of, rfl, hc⟩ := hm h0
  refine wpList_append_lies W hgd s x 22 ho base 5 i0 (.int .u8 0) 1 1 Try.underlying22 hi0 hz0 hz1 hz2 rfl (by omega) v l.length (l.map bv) hs hown ⟨b, of, none⟩ m.length c (m.map bv) hx (by simp)
    (fun j u hu => by
      have hj : j < m.length := by have := (List.getElem?_eq_some_iff.1 hu).1; simpa using this
      rw [addr_add, hc j hj, ← hu, map_bv_get m j hj]) (map_bv_one m) h0 (by simp only [maxLen]; omega) (by omega) hbase W.heap.size rfl fun g cap w' k1 k2 k3 k4 => ?_
  refine h g cap w' ?_ (show _ ∧ _ from ⟨k2, k3⟩)
  unfold OB
  rw [List.length_append, List.map_append]
  exact k1
theorem OB.rd {w : World} {base n c : Nat} {A : Option Addr} {l : List UInt8} (h : OB w base (.slice A n c) l) : 0 < l.length → ∃ b o, A = some ⟨b, o, none⟩ ∧ ∀ k, k < l.length → w.cell? ⟨b, o + k, none⟩ = some (.int .u8 ((l.getD k 0).toNat : Int)) := fun hp => by
  obtain ⟨A', c', e, _, _, h3⟩ := h.sl
  injection e with e1 e2 e3
  subst e1
  obtain ⟨b, o, hA, _, hc⟩ := h3 hp
  exact ⟨b, o, hA, hc⟩
theorem OB.grown {w w' : World} {base : Nat} {o : Value} {l : List UInt8} (h : OB w base o l) {w0 : World} (hb : Below base w0 w) (hs : base ≤ w.heap.size) (hg : w.grownBy w' o.ownBlock) : Below base w0 w' := hb.grown hg hs (fun k hk => (h.lt k hk).1)

end Go.Proofs.Ytndkkkkfgihemaa
