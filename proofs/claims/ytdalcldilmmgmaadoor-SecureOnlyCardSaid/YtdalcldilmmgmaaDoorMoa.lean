
/-
  Layer 20: the closures and the loop of chain.
-/
import Derived.Test.YtdalcldilmmgmaaDoorMom
import Derived.Test.YtdalcldilmmgmaaDoorCif
namespace Go.Proofs.YtdalcldilmmgmaaDoor
set_option linter.unusedVariables false
set_option linter.unusedSimpArgs false
open Go.RowKit

theorem fit_ok {k b : List UInt8} (h1 : k.length = 16) (h2 : b.length = 8) : fitE k b = 0 := by rw [fitE, if_neg (by simp [h1]), if_neg (by simp [h2])]

theorem blk_lt {w : World} {b : Nat} {o : Obj} (h : w.heap[b]? = some o) : b < w.heap.size := by
  rcases Nat.lt_or_ge b w.heap.size with hlt | hge
  · exact hlt
  · rw [Array.getElem?_eq_none hge] at h; cases h
theorem after {w w1 w2 : World} (h : Below w.heap.size w w1) (g : Below w1.heap.size w1 w2) : Below w.heap.size w w2 := h.trans (g.mono h.size)
/-- A slice that reads as l and lies off block g. -/
def FL (g : Nat) (w : World) (v : Value) (l : List UInt8) : Prop :=
  ∃ (A : Option Addr) (c : Nat), v = .slice A l.length c ∧ l.length ≤ c ∧ c ≤ maxLen ∧ (0 < l.length → ∃ b o, A = some ⟨b, o, none⟩ ∧ b ≠ g ∧ b < w.heap.size ∧ ∀ k, k < l.length → w.cell? ⟨b, o + k, none⟩ = some (.int .u8 ((l.getD k 0).toNat : Int)))
theorem FL.sl {g : Nat} {w : World} {v : Value} {l : List UInt8} (h : FL g w v l) : SL w w.heap.size v l := by
  obtain ⟨A, c, hv, h1, h2, h3⟩ := h
  exact ⟨A, c, hv, h1, h2, fun hp => by obtain ⟨b, o, hA, _, hb, hc⟩ := h3 hp; exact ⟨b, o, hA, hb, hc⟩⟩
theorem FL.keep {g : Nat} {w w' : World} {v : Value} {l : List UInt8} (h : FL g w v l) (hs : w.heap.size ≤ w'.heap.size) (hk : ∀ k, k ≠ g → k < w.heap.size → w'.heap[k]? = w.heap[k]?) : FL g w' v l := by
  obtain ⟨A, c, hv, h1, h2, h3⟩ := h
  refine ⟨A, c, hv, h1, h2, fun hp => ?_⟩
  obtain ⟨b, o, hA, hn, hb, hc⟩ := h3 hp
  refine ⟨b, o, hA, hn, by omega, fun k hk' => ?_⟩
  rw [← hc k hk']
  exact World.cell?_of_block (w := w) (hk b hn hb)
theorem FL.below {g : Nat} {w w' : World} {v : Value} {l : List UInt8} (h : FL g w v l) (hb : Below w.heap.size w w') : FL g w' v l := h.keep hb.size fun k _ hk => hb.block k hk
theorem SL.fl {g : Nat} {w : World} {v : Value} {l : List UInt8} (h : SL w g v l) (hg : g ≤ w.heap.size) : FL g w v l := by
  obtain ⟨A, c, hv, h1, h2, h3⟩ := h
  refine ⟨A, c, hv, h1, h2, fun hp => ?_⟩
  obtain ⟨b, o, hA, hb, hc⟩ := h3 hp
  exact ⟨b, o, hA, by omega, by omega, hc⟩
theorem OB.fl {g base : Nat} {w : World} {v : Value} {l : List UInt8} (h : OB w base v l) (hg : g < base) : FL g w v l := by
  rcases h.2 with ⟨rfl, h0⟩ | ⟨b, cap, cur, rfl, hb, hgc, hn, hm, hs, ht⟩
  · have : l = [] := List.eq_nil_of_length_eq_zero h0
    subst this
    exact ⟨none, 0, rfl, Nat.le_refl _, Nat.zero_le _, fun h => absurd h (by simp)⟩
  · refine ⟨some ⟨b, 0, none⟩, cap, rfl, hn, hm, fun _ => ⟨b, 0, rfl, by omega, blk_lt hgc, fun k hk => ?_⟩⟩
    have := World.ownsRow.cellAt (w := w) (base := base) (e := 5) (size := 1) (g := b) (n := l.length) (cap := cap) (xs := l.map bv) h (0 + k) (by omega)
    rw [this, Nat.zero_add, map_bv_get l k hk]
/-- copy(all[off:], src), all made by the call. -/
theorem wpList_cpAt {ops : Array Oper} {rest : List Oper} {o : Oper} {a : Act} {w : World} {Q : Exit → Act → World → Prop} (hgd : o.guard = none) (d s : Operand)
    (ho : o.op = .call { callee := .builtin .copy, args := #[d, s], argTypes := #[22, 22] }) (g n off dl dc base : Nat) (A : Option Addr) (c ml : Nat) (l m : List UInt8) (hml : m.length = ml)
    (hd : a.eval d = .slice (some ⟨g, off, none⟩) dl dc) (hs : a.eval s = .slice A ml c) (hown : OB w base (.slice (some ⟨g, 0, none⟩) n n) l) (hle : off + m.length ≤ l.length) (hdl : m.length ≤ dl) (hmax : n ≤ maxLen) (hp : 0 < m.length)
    (hm : 0 < m.length → ∃ b o, A = some ⟨b, o, none⟩ ∧ ∀ k, k < m.length → w.cell? ⟨b, o + k, none⟩ = some (.int .u8 ((m.getD k 0).toNat : Int)))
    (h : ∀ w', OB w' base (.slice (some ⟨g, 0, none⟩) n n) (l.take off ++ (m ++ l.drop (off + m.length))) → Below base w w' → Hid (w.heap.size ≤ w'.heap.size ∧ ∀ k, k ≠ g → w'.heap[k]? = w.heap[k]?) → wpList Tryd.prog ops Q rest (a.put o.dst (goInt ml)) w') : wpList Tryd.prog ops Q (o :: rest) a w := by
  subst hml
  have hl := hown.len
  have hbg := hown.base_le
  have hc := hown.cells
  obtain ⟨b, o', rfl, hcell⟩ := hm hp
  refine wpList_copy_own hgd d s 22 22 ho 5 Tryd.underlying22 (by kernel_rfl) g off dl dc ⟨b, o', none⟩ m.length c hd hs (l.map bv).toArray 5 hc (m.map bv) (by rw [List.length_map]; exact (Nat.min_eq_left hdl).symm)
    (fun j u hu => ?_) (by simp; omega) (map_bv_one m) ?_
  · have hj : j < m.length := by have := (List.getElem?_eq_some_iff.1 hu).1; simpa using this
    rw [addr_add, hcell j hj, ← hu, map_bv_get m j hj]
  · have e : ((l.map bv).toArray.toList.take off ++ (m.map bv ++ (l.map bv).toArray.toList.drop (off + (m.map bv).length))) = (l.take off ++ (m ++ l.drop (off + m.length))).map bv := by simp [List.map_take, List.map_drop]
    rw [e]
    have h' := h (w.setRow g ((l.take off ++ (m ++ l.drop (off + m.length))).map bv).toArray) (OB.of_cells hbg (by simp; omega) hmax (setRow_heap w g _ _ 5 _ hc)) (below_setRow (Below.refl _ _) hbg _) (show _ ∧ _ from ⟨by simp [World.setRow], fun k hk => setRow_other w g k _ hk⟩)
    rwa [List.length_map]
/-- The closure of EncryptCBC. -/
def OpP (g : Nat) (r n : List UInt8) (w : World) (e : Ending) (w' : World) : Prop := ∃ v' u', e = .returned (.tuple #[v', u']) ∧ SL w' w'.heap.size v' r ∧ FL g w' u' n ∧ Below w.heap.size w w'
set_option maxRecDepth 100000 in
set_option maxHeartbeats 1600000 in
theorem penc_op (g : Nat) (k x l : List UInt8) (vk v u : Value) (b : Nat) (w : World) (hbx : w.heap[b]? = some (.cells #[vk] 22 (0, 0))) (hk : SL w w.heap.size vk k) (hx0 : FL g w v x) (hl : SL w w.heap.size u l) (h1 : k.length = 16) (h2 : x.length = 8) (h3 : l.length = 8) (hg : g < w.heap.size) :
    Calls Tryd.prog 68 #[v, u, .pointer (some ⟨b, 0, none⟩)] w (OpP g (encB k (xorL x l)) (encB k (xorL x l)) w) := by
  have hx := hx0.sl
  have hxl : (xorL x l).length = 8 := xor_len8 h2 h3
  have HX := Lib.hid (pxor_any x l v u w hx hl (by omega) (by omega))
  have HE := Lib.hid (fun W v1 (h : Below w.heap.size w W) (g : SL W W.heap.size v1 (xorL x l)) => penc_ok k (xorL x l) vk v1 W (hk.on h) g h1 hxl)
  have hlt : b < w.heap.size := blk_lt hbx
  have c0 : w.cell? ⟨b, 0, none⟩ = some vk := cell_of_row w b 0 _ _ _ hbx
  generalize encB k (xorL x l) = r at *
  generalize xorL x l = m at *
  clear hx0
  obtain ⟨A1, c1, rfl, h11, h12, h13⟩ := hx
  obtain ⟨A2, c2, rfl, h21, h22, h23⟩ := hl
  obtain ⟨A3, c3, rfl, h31, h32, h33⟩ := hk
  clear h13 h23 h33 h1 h2 h3 hxl hbx
  go_enter Tryd.func68, Tryd.ntmps68
  go_wp2_with fail
  refine HX.out.mono ?_
  rintro e w1 ⟨v1, rfl, hv1, hb1⟩
  have c1' := (hb1.cell (p := ⟨b, 0, none⟩) hlt).trans c0
  go_wp2_with fail
  refine (HE.out _ _ hb1 hv1).mono ?_
  rintro e w2 ⟨v2, rfl, hv2, hb2⟩
  go_wp2
  go_ret2
  exact ⟨_, _, rfl, hv2.sl, hv2.fl (Nat.lt_of_lt_of_le hg hb1.size), after hb1 hb2⟩
set_option maxRecDepth 100000 in
set_option maxHeartbeats 1600000 in
theorem pdec_op (g : Nat) (k x l : List UInt8) (vk v u : Value) (b : Nat) (w : World) (hbx : w.heap[b]? = some (.cells #[vk] 22 (0, 0))) (hk : SL w w.heap.size vk k) (hx0 : FL g w v x) (hl : SL w w.heap.size u l) (h1 : k.length = 16) (h2 : x.length = 8) (h3 : l.length = 8) (hg : g < w.heap.size) :
    Calls Tryd.prog 75 #[v, u, .pointer (some ⟨b, 0, none⟩)] w (OpP g (xorL (decB k x) l) x w) := by
  have hx := hx0.sl
  have HE := Lib.hid (pdec_ok k x vk v w hk hx h1 h2)
  have HX := Lib.hid (fun W v1 (h : Below w.heap.size w W) (g : SL W W.heap.size v1 (decB k x)) => pxor_any (decB k x) l v1 u W g (hl.on h) (by rw [decB_length]; omega) (by rw [decB_length]; omega))
  have hlt : b < w.heap.size := blk_lt hbx
  have c0 : w.cell? ⟨b, 0, none⟩ = some vk := cell_of_row w b 0 _ _ _ hbx
  have HH := Lib.hid hx0
  generalize xorL (decB k x) l = r at *
  generalize decB k x = m at *
  clear hx0
  obtain ⟨A1, c1, rfl, h11, h12, h13⟩ := hx
  obtain ⟨A2, c2, rfl, h21, h22, h23⟩ := hl
  obtain ⟨A3, c3, rfl, h31, h32, h33⟩ := hk
  clear h13 h23 h33 h1 h2 h3 hbx
  go_enter Tryd.func75, Tryd.ntmps75
  go_wp2_with fail
  refine HE.out.mono ?_
  rintro e w1 ⟨v1, rfl, hv1, hb1⟩
  go_wp2_with fail
  refine (HX.out _ _ hb1 hv1.sl).mono ?_
  rintro e w2 ⟨v2, rfl, hv2, hb2⟩
  go_wp2
  go_ret2
  exact ⟨_, _, rfl, hv2, (HH.out.below hb1).below hb2, after hb1 hb2⟩
end Go.Proofs.YtdalcldilmmgmaaDoor
