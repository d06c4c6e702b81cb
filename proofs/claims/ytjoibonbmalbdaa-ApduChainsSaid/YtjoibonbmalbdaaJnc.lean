/-
  Join of the program.
-/
import Derived.Test.YtjoibonbmalbdaaJnb
import Derived.Test.YtjoibonbmalbdaaJnm
namespace Go.Proofs.Ytjoibonbmalbdaa
set_option linter.unusedVariables false
set_option linter.unusedSimpArgs false
open Go.RowKit

/-- What Join gives. -/
def JnR (cs : List Cm) (w : World) (e : Ending) (w' : World) : Prop :=
  ∃ v, e = .returned (.tuple #[(jnC cs).val v, .int .i64 (jnE cs)]) ∧ SL w' w'.heap.size v (jnC cs).data ∧ (jnE cs ≠ 0 → v = .slice none 0 0) ∧ Below w.heap.size w w'
theorem jn_bad {cs : List Cm} {w w' : World} {e : Ending} (E : Int) (hE : jnE cs = E) (h0 : E ≠ 0) (he : e = .returned (.tuple #[.agg #[.int .i64 0, .int .i64 0, .int .i64 0, .int .i64 0, .slice none 0 0, .int .i64 0, .bool false], .int .i64 E])) (hB : Below w.heap.size w w') : JnR cs w e w' := by
  subst he
  have hc : jnC cs = default := by unfold jnC; rw [if_neg (by rw [hE]; exact h0)]
  exact ⟨.slice none 0 0, by rw [hE, hc]; rfl, by rw [hc]; exact SL.nil _ _ _ _ (Nat.zero_le _), fun _ => rfl, hB⟩
theorem jn_good {cs : List Cm} {w W : World} {v : Value} {C : Cm} (hE : jnE cs = 0) (hC : jnC cs = C) (hs : SL W W.heap.size v C.data) (hB : Below w.heap.size w W) : JnR cs w (.returned (.tuple #[C.val v, .int .i64 0])) W :=
  ⟨v, by rw [hE, hC], by rw [hC]; exact hs, fun h => absurd hE h, hB⟩
/-- The parts' data, as far as they were taken. -/
def datK (cs : List Cm) (k : Nat) : List UInt8 := datL (cs.take k)
theorem datK_succ {cs : List Cm} {k : Nat} (h : k < cs.length) : datK cs (k + 1) = datK cs k ++ (cs.getD k default).data := by
  unfold datK datL
  rw [List.take_add_one, List.getElem?_eq_getElem h, List.map_append, List.flatten_append]
  congr 1
  simp [List.getD, h]
/-- make([][]byte, n). -/
theorem wpList_mkLL {ops : Array Oper} {rest : List Oper} {o : Oper} {a : Act} {w : World} {Q : Exit → Act → World → Prop} (hgd : o.guard = none) (l c : Operand) (ho : o.op = Op.makeSlice 72 l c)
    (kl kc : IntKind) (L C : Int) (n : Nat) (hl : a.eval l = .int kl L) (hc : a.eval c = .int kc C) (hL : L = (n : Int)) (hC : C = (n : Int)) (hn : n ≤ 1000000)
    (h : ∀ w' cs, w'.heap[w.heap.size]? = some (.cells cs 22 (0, 0)) → cs.size = n → Below w.heap.size w w' → wpList Try.prog ops Q rest (a.put o.dst (.slice (some ⟨w.heap.size, 0, none⟩) n n)) w') : wpList Try.prog ops Q (o :: rest) a w := by
  obtain ⟨i0, hi0, hz0, hz1, hz2⟩ := info_parts info22
  refine wpList_make_full w hgd l c 72 ho w.heap.size 22 i0 (.slice none 0 0) 1 Try.underlying72 hi0 hz0 hz1 kl kc L C n hl hc hL hC (by rw [hz2]; omega) (by simp only [maxLen]; omega) (Nat.le_refl _) fun w' h1 h2 => ?_
  rcases h1.2 with ⟨h', _⟩ | ⟨g, cap, cur, hv, hb, hg, hn', hm, hs, ht⟩
  · cases h'
  · simp only [Value.slice.injEq, Option.some.injEq, Addr.mk.injEq, and_true, true_and] at hv
    obtain ⟨rfl, rfl⟩ := hv
    exact h w' cur hg (by omega) ((Below.refl _ _).grown h2 (Nat.le_refl _) (fun k hk => by cases hk))
theorem datK_all (cs : List Cm) : datK cs cs.length = datL cs := by unfold datK; rw [List.take_length]
theorem datK_le (cs : List Cm) (k : Nat) : (datK cs k).length ≤ (datL cs).length := by
  have h : datL cs = datK cs k ++ datL (cs.drop k) := by
    unfold datK datL
    rw [← List.flatten_append, ← List.map_append, List.take_append_drop]
  rw [h, List.length_append]; omega

theorem lens_flat : ∀ ls : List (List UInt8), Lib.lens ls = ls.flatten.length
  | [] => rfl
  | x :: ls => by simp [Lib.lens] <;> first | exact lens_flat ls | omega
theorem ll_pieces {w : World} {g : Nat} {ar : Array Value} {cs : List Cm} {U : Nat → Value} (h : w.heap[g]? = some (.cells ar 22 (0, 0))) (hz : ar.size = cs.length) (hU : ∀ i, i < cs.length → ar[i]? = some (U i)) (hs : ∀ i, i < cs.length → SL w w.heap.size (U i) (cs.getD i default).data) (hn : cs.length ≤ 10000 := by omega) :
    LL w w.heap.size (.slice (some ⟨g, 0, none⟩) (cs.map Cm.data).length (cs.map Cm.data).length) (cs.map Cm.data) := by
  have hl : (cs.map Cm.data).length = cs.length := by simp
  have hv : ∀ i, i < cs.length → ar.toList.getD i (.slice none 0 0) = U i := fun i hi => by
    have := hU i hi
    rw [List.getD, Array.getElem?_toList, this]; rfl
  refine ⟨_, _, ar.toList, rfl, Nat.le_refl _, by rw [hl]; unfold maxLen; omega, by simp [hz], fun hp => ⟨g, 0, rfl, lt_row h, fun k hk => ?_⟩, fun k hk => ?_⟩
  · rw [hl] at hk
    rw [Nat.zero_add, cell_of_row _ _ _ _ _ _ h, hU k hk, hv k hk]
  · rw [hl] at hk
    rw [hv k hk]
    have e : (cs.map Cm.data).getD k [] = (cs.getD k default).data := by simp [List.getD, hk]
    rw [e]
    exact hs k hk
theorem SL.apart2 {w W : World} {B : Nat} {v : Value} {l : List UInt8} {g1 g2 : Nat} {c1 c2 : Array Value} {t1 t2 : TypeId} (h : SL w B v l) (r1 : w.heap[g1]? = some (.cells c1 t1 (0, 0))) (n1 : ∀ (k : Nat) (z : Int), c1[k]? ≠ some (Value.int .u8 z))
    (r2 : w.heap[g2]? = some (.cells c2 t2 (0, 0))) (n2 : ∀ (k : Nat) (z : Int), c2[k]? ≠ some (Value.int .u8 z)) (hk : ∀ p : Addr, p.block ≠ g1 → p.block ≠ g2 → W.cell? p = w.cell? p) : SL W B v l := by
  obtain ⟨A, c, hv, h1, h2, h3⟩ := h
  refine ⟨A, c, hv, h1, h2, fun hp => ?_⟩
  obtain ⟨b, o, hA, hb, hc⟩ := h3 hp
  refine ⟨b, o, hA, hb, fun k hk' => (hk ⟨b, o + k, none⟩ (fun e => ?_) (fun e => ?_)).trans (hc k hk')⟩
  · have e' : b = g1 := e
    subst e'
    exact n1 _ _ ((cell_of_row _ _ _ _ _ _ r1).symm.trans (hc k hk'))
  · have e' : b = g2 := e
    subst e'
    exact n2 _ _ ((cell_of_row _ _ _ _ _ _ r2).symm.trans (hc k hk'))
theorem no8 {a0 a1 a2 a3 a5 : Int} {A4 : Option Addr} {n4 c4 : Nat} {q : Bool} : ∀ (k : Nat) (z : Int), (#[Value.int .i64 a0, .int .i64 a1, .int .i64 a2, .int .i64 a3, .slice A4 n4 c4, .int .i64 a5, .bool q] : Array Value)[k]? ≠ some (Value.int .u8 z) := by
  intro k z h
  have := Array.mem_of_getElem? h
  simp at this
theorem cells9 (w5 : World) (g1 g2 : Nat) (u4 u6 x0 x1 x2 x3 x4 x5 x6 : Value) (p : Addr) (h1 : p.block ≠ g1) (h2 : p.block ≠ g2) : (((((((((w5.setCell ⟨g1, 4, none⟩ u4).setCell ⟨g1, 6, none⟩ u6).setCell ⟨g2, 0, none⟩ x0).setCell ⟨g2, 1, none⟩ x1).setCell ⟨g2, 2, none⟩ x2).setCell ⟨g2, 3, none⟩ x3).setCell ⟨g2, 4, none⟩ x4).setCell ⟨g2, 5, none⟩ x5).setCell ⟨g2, 6, none⟩ x6).cell? p = w5.cell? p := by
  rw [far_set _ x6 (p := ⟨g2, 6, none⟩) h2, far_set _ x5 (p := ⟨g2, 5, none⟩) h2, far_set _ x4 (p := ⟨g2, 4, none⟩) h2, far_set _ x3 (p := ⟨g2, 3, none⟩) h2, far_set _ x2 (p := ⟨g2, 2, none⟩) h2, far_set _ x1 (p := ⟨g2, 1, none⟩) h2, far_set _ x0 (p := ⟨g2, 0, none⟩) h2, far_set _ u6 (p := ⟨g1, 6, none⟩) h1, far_set _ u4 (p := ⟨g1, 4, none⟩) h1]
theorem rowx (w5 : World) (g1 g2 : Nat) (u4 u6 : Value) (o : Obj) (hne : g2 ≠ g1) (h : w5.heap[g2]? = some o) : ((w5.setCell ⟨g1, 4, none⟩ u4).setCell ⟨g1, 6, none⟩ u6).heap[g2]? = some o :=
  (heap_setCell_other _ ⟨g1, 6, none⟩ _ _ hne).trans ((heap_setCell_other _ ⟨g1, 4, none⟩ _ _ hne).trans h)
theorem sl9 {w5 : World} {g1 g2 : Nat} {c1 c2 : Array Value} {v : Value} {l : List UInt8} (u4 u6 x0 x1 x2 x3 x4 x5 x6 : Value) (h : SL w5 w5.heap.size v l) (r1 : w5.heap[g1]? = some (.cells c1 24 (0, 0))) (n1 : ∀ (k : Nat) (z : Int), c1[k]? ≠ some (Value.int .u8 z))
    (r2 : w5.heap[g2]? = some (.cells c2 24 (0, 0))) (n2 : ∀ (k : Nat) (z : Int), c2[k]? ≠ some (Value.int .u8 z)) : SL (((((((((w5.setCell ⟨g1, 4, none⟩ u4).setCell ⟨g1, 6, none⟩ u6).setCell ⟨g2, 0, none⟩ x0).setCell ⟨g2, 1, none⟩ x1).setCell ⟨g2, 2, none⟩ x2).setCell ⟨g2, 3, none⟩ x3).setCell ⟨g2, 4, none⟩ x4).setCell ⟨g2, 5, none⟩ x5).setCell ⟨g2, 6, none⟩ x6) (((((((((w5.setCell ⟨g1, 4, none⟩ u4).setCell ⟨g1, 6, none⟩ u6).setCell ⟨g2, 0, none⟩ x0).setCell ⟨g2, 1, none⟩ x1).setCell ⟨g2, 2, none⟩ x2).setCell ⟨g2, 3, none⟩ x3).setCell ⟨g2, 4, none⟩ x4).setCell ⟨g2, 5, none⟩ x5).setCell ⟨g2, 6, none⟩ x6).heap.size v l := by
  have hz : (((((((((w5.setCell ⟨g1, 4, none⟩ u4).setCell ⟨g1, 6, none⟩ u6).setCell ⟨g2, 0, none⟩ x0).setCell ⟨g2, 1, none⟩ x1).setCell ⟨g2, 2, none⟩ x2).setCell ⟨g2, 3, none⟩ x3).setCell ⟨g2, 4, none⟩ x4).setCell ⟨g2, 5, none⟩ x5).setCell ⟨g2, 6, none⟩ x6).heap.size = w5.heap.size := by simp
  rw [hz]
  exact h.apart2 r1 n1 r2 n2 (fun p h1 h2 => cells9 w5 g1 g2 u4 u6 x0 x1 x2 x3 x4 x5 x6 p h1 h2)
theorem bl9 {w w5 : World} {g1 g2 : Nat} (u4 u6 x0 x1 x2 x3 x4 x5 x6 : Value) (h : Below w.heap.size w w5) (h1 : w.heap.size ≤ g1) (h2 : w.heap.size ≤ g2) : Below w.heap.size w (((((((((w5.setCell ⟨g1, 4, none⟩ u4).setCell ⟨g1, 6, none⟩ u6).setCell ⟨g2, 0, none⟩ x0).setCell ⟨g2, 1, none⟩ x1).setCell ⟨g2, 2, none⟩ x2).setCell ⟨g2, 3, none⟩ x3).setCell ⟨g2, 4, none⟩ x4).setCell ⟨g2, 5, none⟩ x5).setCell ⟨g2, 6, none⟩ x6) :=
  set7_below ((h.setCell (p := ⟨g1, 4, none⟩) h1 _).setCell (p := ⟨g1, 6, none⟩) h1 _) h2
theorem choose_v {p : Nat → Value → Prop} {n : Nat} (h : ∀ i, i < n → ∃ t, p i t) : ∃ f : Nat → Value, ∀ i, i < n → p i (f i) := by
  classical
  refine ⟨fun i => if hi : i < n then Classical.choose (h i hi) else undef, fun i hi => ?_⟩
  simp only [dif_pos hi]
  exact Classical.choose_spec (h i hi)

set_option maxRecDepth 100000 in
set_option maxHeartbeats 6400000 in
theorem pjn_any (cs : List Cm) (v : Value) (w : World) (h : ML w w.heap.size v cs) (hle : ∀ c ∈ cs, -9223372036854775808 ≤ c.le ∧ c.le ≤ 9223372036854775807) (hn : cs.length ≤ 10000) (hs : ∀ k, k ≤ cs.length → jnK cs k = 0 → (datK cs k).length ≤ 50000000) :
    Calls Try.prog 37 #[v] w (JnR cs w) := by
  have HSB := Lib.hid hs
  clear hs
  have HM := Lib.hid h
  obtain ⟨A, k, rfl, k1, k2, k3⟩ := h
  unfold maxLen at k2
  rcases Nat.eq_zero_or_pos cs.length with h0 | h0
  · have HB := Lib.hid (fun (w' : World) (e : Ending) => jn_bad (cs := cs) (w := w) (w' := w') (e := e) 1 (by unfold jnE; rw [if_pos h0]) (by decide))
    rw [h0]
    go_enter Try.func37, Try.ntmps37
    go_wp2_with fail
    exact bodyPost_ret (results_cell2 rfl _ _ w.heap.size 24 _ (0, 0) _ rfl (heap_alloc_new w _) Try.underlying24 rfl (by kernel_rfl)) rfl (HB.out _ _ rfl (alloc_below _ _))
  obtain ⟨b, o, rfl, hb, hc⟩ := k3.out h0
  obtain ⟨U, hU⟩ : ∃ U : Nat → Value, ∀ i, i < cs.length → w.cell? ⟨b, o + i * 7 + 4, none⟩ = some (U i) ∧ SL w w.heap.size (U i) (cs.getD i default).data := choose_v fun i hi => (hc i hi).2.2.2.2.1
  have hlv : ∀ i, i < cs.length → -9223372036854775808 ≤ (cs.getD i default).le ∧ (cs.getD i default).le ≤ 9223372036854775807 := fun i hi => by
    have e : cs.getD i default = cs[i] := by simp [List.getD, hi]
    rw [e]; exact hle _ (List.getElem_mem hi)
  have HCU : Hid (∀ W, Below w.heap.size w W → ∀ i, i < cs.length → W.cell? ⟨b, o + i * 7, none⟩ = some (.int .i64 (cs.getD i default).cla) ∧ W.cell? ⟨b, o + i * 7 + 1, none⟩ = some (.int .i64 (cs.getD i default).ins) ∧ W.cell? ⟨b, o + i * 7 + 2, none⟩ = some (.int .i64 (cs.getD i default).p1) ∧ W.cell? ⟨b, o + i * 7 + 3, none⟩ = some (.int .i64 (cs.getD i default).p2) ∧ W.cell? ⟨b, o + i * 7 + 4, none⟩ = some (U i) ∧ W.cell? ⟨b, o + i * 7 + 5, none⟩ = some (.int .i64 (cs.getD i default).le) ∧ W.cell? ⟨b, o + i * 7 + 6, none⟩ = some (.bool (cs.getD i default).long)) := fun W hW i hi => by
    obtain ⟨e0, e1, e2, e3, _, e5, e6⟩ := hc i hi
    exact ⟨(hW.cell (p := ⟨b, _, none⟩) hb).trans e0, (hW.cell (p := ⟨b, _, none⟩) hb).trans e1, (hW.cell (p := ⟨b, _, none⟩) hb).trans e2, (hW.cell (p := ⟨b, _, none⟩) hb).trans e3, (hW.cell (p := ⟨b, _, none⟩) hb).trans (hU i hi).1, (hW.cell (p := ⟨b, _, none⟩) hb).trans e5, (hW.cell (p := ⟨b, _, none⟩) hb).trans e6⟩
  have HSU : Hid (∀ W, Below w.heap.size w W → ∀ i, i < cs.length → SL W W.heap.size (U i) (cs.getD i default).data) := fun W hW i hi => (hU i hi).2.on hW
  have HPR : Hid (∀ W, Below w.heap.size w W → ∀ i last, i < cs.length → Calls Try.prog 56 #[(cs.getD i default).val (U i), (cs.getD 0 default).val (U 0), .bool last] W fun e w' => e = .returned (.int .i64 (prtE (cs.getD i default) (cs.getD 0 default) last)) ∧ Below W.heap.size W w') := fun W hW i last hi =>
    pprt_any _ _ last _ _ W ((hU i hi).2.on hW) ((hU 0 h0).2.on hW) (hlv i hi)
  have HUF : Hid (∀ i, i < cs.length → ∃ A c, U i = .slice A (cs.getD i default).data.length c) := fun i hi => by
    obtain ⟨A, c, e, _⟩ := (hU i hi).2
    exact ⟨A, c, e⟩
  clear hc hU hle k3 hlv
  have HB0 := Lib.hid (alloc_below w (.cells #[.int .i64 0, .int .i64 0, .int .i64 0, .int .i64 0, .slice none 0 0, .int .i64 0, .bool false] 24))
  have HR0 := Lib.hid (heap_alloc_new w (.cells #[.int .i64 0, .int .i64 0, .int .i64 0, .int .i64 0, .slice none 0 0, .int .i64 0, .bool false] 24))
  have hz0 : (w.alloc (.cells #[.int .i64 0, .int .i64 0, .int .i64 0, .int .i64 0, .slice none 0 0, .int .i64 0, .bool false] 24)).heap.size = w.heap.size + 1 := alloc_size _ _
  have hp : ((cs.length : Int) == 0) = false := by rw [beq_eq_false_iff_ne]; omega
  go_enter Try.func37, Try.ntmps37
  go_wp2_with (at_make; refine wpList_mkLL (by rfl) _ _ (by rfl) .i64 .i64 _ _ cs.length (by rfl) (by rfl) (by rfl) (by rfl) (by omega) ?_; intro w1 ar1 ha1 hz1 hb1)
  generalize w.alloc (.cells #[.int .i64 0, .int .i64 0, .int .i64 0, .int .i64 0, .slice none 0 0, .int .i64 0, .bool false] 24) = w0 at *
  rw [hz0] at ha1 hb1
  have HUP : Hid (∀ W, Below (w.heap.size + 1) w0 W → Below w.heap.size w W) := fun W hW => HB0.out.trans (hW.mono (by omega))
  have HRR : Hid (∀ W, Below (w.heap.size + 1) w0 W → W.heap[w.heap.size]? = some (.cells #[.int .i64 0, .int .i64 0, .int .i64 0, .int .i64 0, .slice none 0 0, .int .i64 0, .bool false] 24 (0, 0))) := fun W hW => (hW.block _ (by omega)).trans HR0.out
  have HZ0 := Lib.hid hz0
  clear hz0
  go_loopw [4, 19] (fun t i wr => ∃ k : Nat, k ≤ cs.length ∧ i = .int .i64 k ∧ t = .int .i64 ((datK cs k).length : Int) ∧ Hid (jnK cs k = 0) ∧ Hid (Below (w.heap.size + 1) w0 wr) ∧ Hid (∃ ar : Array Value, wr.heap[w.heap.size + 1]? = some (.cells ar 22 (0, 0)) ∧ ar.size = cs.length ∧ ∀ i, i < k → ar[i]? = some (U i))) (fun _ i _ => cs.length - (intOf i).toNat)
  case atStart => exact ⟨0, Nat.zero_le _, rfl, rfl, rfl, hb1, ar1, ha1, hz1, fun i hi => absurd hi (by omega)⟩
  case round =>
    clear ha1 hz1 hb1
    obtain ⟨k', hk, rfl, rfl, HJ, HB, HX⟩ := hrel
    by_cases hlt : k' < cs.length
    case neg =>
      obtain rfl : k' = cs.length := by omega
      have i8 : ¬ (cs.length : Int) < (cs.length : Int) := by omega
      rw [datK_all]
      have hbd := HSB.out cs.length (Nat.le_refl _) HJ.out
      rw [datK_all] at hbd
      have HJE : Hid (jnE cs = if 65535 < (datL cs).length then 3 else 0) := by show _ = _; unfold jnE; rw [if_neg (by omega), if_pos HJ.out]
      have hrr := HRR.out _ HB.out
      have z0 := cell_of_row _ _ 0 _ _ _ hrr
      have z1 := cell_of_row _ _ 1 _ _ _ hrr
      have z2 := cell_of_row _ _ 2 _ _ _ hrr
      have z3 := cell_of_row _ _ 3 _ _ _ hrr
      have z4 := cell_of_row _ _ 4 _ _ _ hrr
      have z5 := cell_of_row _ _ 5 _ _ _ hrr
      have z6 := cell_of_row _ _ 6 _ _ _ hrr
      have y0 := frozen_of_row _ _ 0 _ _ hrr
      have y1 := frozen_of_row _ _ 1 _ _ hrr
      have y2 := frozen_of_row _ _ 2 _ _ hrr
      have y3 := frozen_of_row _ _ 3 _ _ hrr
      have y4 := frozen_of_row _ _ 4 _ _ hrr
      have y5 := frozen_of_row _ _ 5 _ _ hrr
      have y6 := frozen_of_row _ _ 6 _ _ hrr
      have HRW := Lib.hid hrr
      clear hrr
      by_cases hbig : 65535 < (datL cs).length
      case pos =>
        have hbig' : (65535 : Int) < ((datL cs).length : Int) := by omega
        have HBD := Lib.hid (fun (w' : World) (e : Ending) => jn_bad (cs := cs) (w := w) (w' := w') (e := e) 3 (by rw [HJE.out, if_pos hbig]) (by decide))
        go_wp2_with fail
        exact bodyPost_ret (results_cell2 rfl _ _ w.heap.size 24 #[.int .i64 0, .int .i64 0, .int .i64 0, .int .i64 0, .slice none 0 0, .int .i64 0, .bool false] (0, 0) _ rfl (row7_set _ _ _ _ _ _ _ _ _ _ _ _ _ _ _ _ _ HRW.out) Try.underlying24 rfl (by kernel_rfl)) rfl (HBD.out _ _ rfl (set7_below (HUP.out _ HB.out) (Nat.le_refl _)))
      have hbig' : ¬ (65535 : Int) < ((datL cs).length : Int) := by omega
      have HJ0 : Hid (jnE cs = 0) := by show _ = _; rw [HJE.out, if_neg hbig]
      have HJC : Hid (jnC cs = { cs.getD (cs.length - 1) default with data := datL cs, long := (cs.getD (cs.length - 1) default).long || decide (255 < (datL cs).length) }) := by show _ = _; unfold jnC; rw [if_pos HJ0.out]
      obtain ⟨m, hm⟩ : ∃ m, cs.length = m + 1 := ⟨cs.length - 1, by omega⟩
      have HM1 : Hid (cs.length - 1 = m) := by show _ = _; omega
      rw [HM1.out] at HJC
      have i7 : (cs.length : Int) - 1 = (m : Int) := by omega
      have HCM := Lib.hid (fun W hW => HCU.out W hW m (by omega))
      have HLB : Hid (cs.length = m + 1) := hm
      obtain ⟨Am, cm, hUm⟩ := HUF.out m (by omega)
      rw [hUm] at HCM
      clear hm hUm
      generalize cs.getD m default = C at *
      obtain ⟨cla, ins, p1, p2, d, le, lg⟩ := C
      simp only at HCM HJC
      obtain ⟨c0, c1, c2, c3, c4, c5, c6⟩ := HCM.out _ (HUP.out _ HB.out)
      have i9 : (0 : Int) ≤ (m : Int) := by omega
      have i10 : (m : Int) < (cs.length : Int) := by have := HLB.out; omega
      go_wp2_with fail
      have hs0 := HB.out.size
      have hz00 := HZ0.out
      obtain ⟨ar, har, hza, hall⟩ := HX.out
      have hba := alloc_below wr (.cells #[.int .i64 cla, .int .i64 ins, .int .i64 p1, .int .i64 p2, .slice Am d.length cm, .int .i64 le, .bool lg] 24)
      have hrw := heap_alloc_new wr (.cells #[.int .i64 cla, .int .i64 ins, .int .i64 p1, .int .i64 p2, .slice Am d.length cm, .int .i64 le, .bool lg] 24)
      have hBW1 := HB.out.trans (hba.mono (show w.heap.size + 1 ≤ wr.heap.size by omega))
      have har1 := (hba.block _ (lt_row har)).trans har
      clear hba har
      generalize wr.alloc (.cells #[.int .i64 cla, .int .i64 ins, .int .i64 p1, .int .i64 p2, .slice Am d.length cm, .int .i64 le, .bool lg] 24) = W1 at *
      have HJN := pjoin_any (cs.map Cm.data) _ W1 (ll_pieces har1 hza hall (HSU.out _ (HUP.out _ hBW1))) (by simp; omega) (by rw [lens_flat]; show (datL cs).length ≤ _; omega)
      rw [List.length_map] at HJN
      have HJN := Lib.hid HJN
      have HBW1 := Lib.hid hBW1
      have HRW1 := Lib.hid hrw
      clear hBW1 hrw har1 hza hall hs0 hz00 c0 c1 c2 c3 c4 c5 c6
      refine HJN.out.mono ?_
      rintro e w5 ⟨v5, rfl, hv5, hb5⟩
      have hB5 := HBW1.out.trans (hb5.mono (by have := HBW1.out.size; have := HZ0.out; omega))
      have HB5 := Lib.hid hB5
      have HR5 := Lib.hid ((hb5.block _ (lt_row HRW1.out)).trans HRW1.out)
      have HQ5 := Lib.hid (HRR.out _ hB5)
      have hfl : (cs.map Cm.data).flatten = datL cs := rfl
      rw [hfl] at hv5
      have HV5 := Lib.hid hv5
      obtain ⟨A5, c5, rfl, _⟩ := id hv5
      have hlw : w.heap.size < wr.heap.size := by have := lt_row HRW.out; omega
      have HLW := Lib.hid hlw
      clear hfl hv5 hB5 hb5 z0 z1 z2 z3 z4 z5 z6 y0 y1 y2 y3 y4 y5 y6 hlw
      have hrr := HQ5.out
      have z0 := cell_of_row _ _ 0 _ _ _ hrr
      have z1 := cell_of_row _ _ 1 _ _ _ hrr
      have z2 := cell_of_row _ _ 2 _ _ _ hrr
      have z3 := cell_of_row _ _ 3 _ _ _ hrr
      have z4 := cell_of_row _ _ 4 _ _ _ hrr
      have z5 := cell_of_row _ _ 5 _ _ _ hrr
      have z6 := cell_of_row _ _ 6 _ _ _ hrr
      have y0 := frozen_of_row _ _ 0 _ _ hrr
      have y1 := frozen_of_row _ _ 1 _ _ hrr
      have y2 := frozen_of_row _ _ 2 _ _ hrr
      have y3 := frozen_of_row _ _ 3 _ _ hrr
      have y4 := frozen_of_row _ _ 4 _ _ hrr
      have y5 := frozen_of_row _ _ 5 _ _ hrr
      have y6 := frozen_of_row _ _ 6 _ _ hrr
      obtain ⟨r0, r1, r2, r3, r4, r5, r6⟩ := box7 (w' := w5) HR5.out
      have x4 := frozen_of_row _ _ 4 _ _ HR5.out
      have x6 := frozen_of_row _ _ 6 _ _ HR5.out
      have hne : w.heap.size ≠ wr.heap.size := by have := HLW.out; omega
      have hne2 : wr.heap.size ≠ w.heap.size := by have := HLW.out; omega
      clear hrr
      cases lg with
      | true =>
        go_wp2_with fail
        have hrx := rowx w5 wr.heap.size w.heap.size (.slice A5 (datL cs).length c5) (.bool true) _ hne HQ5.out
        refine bodyPost_ret (results_cell2 rfl _ _ w.heap.size 24 #[.int .i64 cla, .int .i64 ins, .int .i64 p1, .int .i64 p2, .slice A5 (datL cs).length c5, .int .i64 le, .bool true] (0, 0) _ rfl (row7_set _ _ _ _ _ _ _ _ _ _ _ _ _ _ _ _ _ hrx) Try.underlying24 rfl (by kernel_rfl)) rfl ?_
        exact jn_good (C := ⟨cla, ins, p1, p2, datL cs, le, true⟩) HJ0.out (by rw [HJC.out]; rfl) (sl9 _ _ _ _ _ _ _ _ _ HV5.out HR5.out no8 HQ5.out no8) (bl9 _ _ _ _ _ _ _ _ _ (HUP.out _ HB5.out) (Nat.le_of_lt HLW.out) (Nat.le_refl _))
      | false =>
        by_cases h255 : 255 < (datL cs).length
        · have h255' : (255 : Int) < ((datL cs).length : Int) := by omega
          go_wp2_with fail
          have hrx := rowx w5 wr.heap.size w.heap.size (.slice A5 (datL cs).length c5) (.bool true) _ hne HQ5.out
          refine bodyPost_ret (results_cell2 rfl _ _ w.heap.size 24 #[.int .i64 cla, .int .i64 ins, .int .i64 p1, .int .i64 p2, .slice A5 (datL cs).length c5, .int .i64 le, .bool true] (0, 0) _ rfl (row7_set _ _ _ _ _ _ _ _ _ _ _ _ _ _ _ _ _ hrx) Try.underlying24 rfl (by kernel_rfl)) rfl ?_
          exact jn_good (C := ⟨cla, ins, p1, p2, datL cs, le, true⟩) HJ0.out (by rw [HJC.out]; simp [h255]) (sl9 _ _ _ _ _ _ _ _ _ HV5.out HR5.out no8 HQ5.out no8) (bl9 _ _ _ _ _ _ _ _ _ (HUP.out _ HB5.out) (Nat.le_of_lt HLW.out) (Nat.le_refl _))
        · have h255' : ¬ (255 : Int) < ((datL cs).length : Int) := by omega
          have hq : decide ((255 : Int) < ((datL cs).length : Int)) = false := decide_eq_false h255'
          go_wp2_with fail
          try simp only [hq]
          have hrx := rowx w5 wr.heap.size w.heap.size (.slice A5 (datL cs).length c5) (.bool false) _ hne HQ5.out
          refine bodyPost_ret (results_cell2 rfl _ _ w.heap.size 24 #[.int .i64 cla, .int .i64 ins, .int .i64 p1, .int .i64 p2, .slice A5 (datL cs).length c5, .int .i64 le, .bool false] (0, 0) _ rfl (row7_set _ _ _ _ _ _ _ _ _ _ _ _ _ _ _ _ _ hrx) Try.underlying24 rfl (by kernel_rfl)) rfl ?_
          exact jn_good (C := ⟨cla, ins, p1, p2, datL cs, le, false⟩) HJ0.out (by rw [HJC.out]; simp [h255]) (sl9 _ _ _ _ _ _ _ _ _ HV5.out HR5.out no8 HQ5.out no8) (bl9 _ _ _ _ _ _ _ _ _ (HUP.out _ HB5.out) (Nat.le_of_lt HLW.out) (Nat.le_refl _))
    have hlt' : (k' : Int) < (cs.length : Int) := by omega
    have HCK := Lib.hid (fun W hW => HCU.out W hW k' hlt)
    have HC0 := Lib.hid (fun W hW => HCU.out W hW 0 h0)
    have HPK := Lib.hid (fun W hW => HPR.out W hW k' (decide (k' + 1 = cs.length)) hlt)
    have HJS : Hid (jnK cs (k' + 1) = prtE (cs.getD k' default) (cs.getD 0 default) (decide (k' + 1 = cs.length))) := by
      show _ = _
      simp only [jnK]
      rw [if_pos HJ.out]
    have HDS := Lib.hid (datK_succ hlt)
    have HDL : Hid (jnK cs (k' + 1) = 0 → (datK cs (k' + 1)).length ≤ 50000000) := HSB.out (k' + 1) (by omega)
    obtain ⟨Ak, ck, hUk⟩ := HUF.out k' hlt
    obtain ⟨A0, c0', hU0⟩ := HUF.out 0 h0
    rw [hUk] at HCK HPK
    rw [hU0] at HC0 HPK
    have HUK := Lib.hid hUk
    clear hUk hU0
    have hlast : ((k' : Int) == (cs.length : Int) - 1) = decide (k' + 1 = cs.length) := by
      by_cases h : k' + 1 = cs.length
      · rw [decide_eq_true h, beq_iff_eq]; omega
      · rw [decide_eq_false h, beq_eq_false_iff_ne]; omega
    have hwl : IntKind.i64.wrap ((cs.length : Int) - 1) = (cs.length : Int) - 1 := IntWalk.i64_in _ (by omega)
    have hlast2 : ((k' : Int) == IntKind.i64.wrap ((cs.length : Int) - 1)) = decide (k' + 1 = cs.length) := by rw [hwl]; exact hlast
    generalize decide (k' + 1 = cs.length) = last at *
    generalize prtE (cs.getD k' default) (cs.getD 0 default) last = PE at *
    generalize cs.getD k' default = C at *
    generalize cs.getD 0 default = F at *
    obtain ⟨cla, ins, p1, p2, d, le, lg⟩ := C
    obtain ⟨cla', ins', p1', p2', d', le', lg'⟩ := F
    simp only [Cm.val] at HCK HC0 HPK HDS
    obtain ⟨c0, c1, c2, c3, c4, c5, c6⟩ := HCK.out _ (HUP.out _ HB.out)
    obtain ⟨f0, f1, f2, f3, f4, f5, f6⟩ := HC0.out _ (HUP.out _ HB.out)
    go_wp2_with fail
    have hs0 := HB.out.size
    have hz00 := HZ0.out
    have hba := alloc_below wr (.cells #[.int .i64 cla, .int .i64 ins, .int .i64 p1, .int .i64 p2, .slice Ak d.length ck, .int .i64 le, .bool lg] 24)
    have HRW := Lib.hid (heap_alloc_new wr (.cells #[.int .i64 cla, .int .i64 ins, .int .i64 p1, .int .i64 p2, .slice Ak d.length ck, .int .i64 le, .bool lg] 24))
    have hBW1 := HB.out.trans (hba.mono (show w.heap.size + 1 ≤ wr.heap.size by omega))
    have hlw : w.heap.size + 1 < wr.heap.size := lt_row HX.out.choose_spec.1
    have hsz1 : (wr.alloc (.cells #[.int .i64 cla, .int .i64 ins, .int .i64 p1, .int .i64 p2, .slice Ak d.length ck, .int .i64 le, .bool lg] 24)).heap.size = wr.heap.size + 1 := alloc_size _ _
    obtain ⟨ar, har, hza, hall⟩ := HX.out
    have HAR := Lib.hid ((hba.block _ (lt_row har)).trans har)
    have HAL := Lib.hid (And.intro hza hall)
    clear hba har hza hall hz00 hs0
    generalize wr.alloc (.cells #[.int .i64 cla, .int .i64 ins, .int .i64 p1, .int .i64 p2, .slice Ak d.length ck, .int .i64 le, .bool lg] 24) = W1 at *
    have HBW1 := Lib.hid hBW1
    have HS : Hid (∀ W, Below W1.heap.size W1 W → W.cell? ⟨wr.heap.size, 0, none⟩ = some (.int .i64 cla) ∧ W.cell? ⟨wr.heap.size, 1, none⟩ = some (.int .i64 ins) ∧ W.cell? ⟨wr.heap.size, 2, none⟩ = some (.int .i64 p1) ∧ W.cell? ⟨wr.heap.size, 3, none⟩ = some (.int .i64 p2) ∧ W.cell? ⟨wr.heap.size, 4, none⟩ = some (.slice Ak d.length ck) ∧ W.cell? ⟨wr.heap.size, 5, none⟩ = some (.int .i64 le) ∧ W.cell? ⟨wr.heap.size, 6, none⟩ = some (.bool lg) ∧ W.cell? ⟨b, o, none⟩ = some (.int .i64 cla') ∧ W.cell? ⟨b, o + 1, none⟩ = some (.int .i64 ins') ∧ W.cell? ⟨b, o + 2, none⟩ = some (.int .i64 p1') ∧ W.cell? ⟨b, o + 3, none⟩ = some (.int .i64 p2') ∧ W.cell? ⟨b, o + 4, none⟩ = some (.slice A0 d'.length c0') ∧ W.cell? ⟨b, o + 5, none⟩ = some (.int .i64 le') ∧ W.cell? ⟨b, o + 6, none⟩ = some (.bool lg')) := fun W hW => by
      obtain ⟨r0, r1, r2, r3, r4, r5, r6⟩ := box7 (w' := W1) ((hW.block _ (lt_row HRW.out)).trans HRW.out)
      have hc := HC0.out _ (HUP.out _ (HBW1.out.trans (hW.mono (by have := HBW1.out.size; have := HZ0.out; omega))))
      simp only [Nat.zero_mul, Nat.add_zero] at hc
      exact ⟨r0, r1, r2, r3, r4, r5, r6, hc⟩
    have hd1 := (Below.refl W1.heap.size W1).drew
    have HCC : Hid (∀ W w', Below W1.heap.size W1 W → Below W.heap.size W w' → Below W1.heap.size W1 w') := fun W w' h h' => h.trans (h'.mono h.size)
    have HU1 : Hid (∀ W, Below W1.heap.size W1 W → Below (w.heap.size + 1) w0 W) := fun W hW => HBW1.out.trans (hW.mono (by have := HBW1.out.size; have := HZ0.out; omega))
    clear c0 c1 c2 c3 c4 c5 c6 f0 f1 f2 f3 f4 f5 f6 hBW1
    obtain ⟨c0, c1, c2, c3, c4, c5, c6, f0, f1, f2, f3, f4, f5, f6⟩ := HS.out _ (Below.refl _ _)
    go_region_held3 (fun w' => w'.cell? ⟨wr.heap.size, 0, none⟩ = some (.int .i64 cla) ∧ w'.cell? ⟨wr.heap.size, 1, none⟩ = some (.int .i64 ins) ∧ w'.cell? ⟨wr.heap.size, 2, none⟩ = some (.int .i64 p1) ∧ w'.cell? ⟨wr.heap.size, 3, none⟩ = some (.int .i64 p2) ∧ w'.cell? ⟨wr.heap.size, 4, none⟩ = some (.slice Ak d.length ck) ∧ w'.cell? ⟨wr.heap.size, 5, none⟩ = some (.int .i64 le) ∧ w'.cell? ⟨wr.heap.size, 6, none⟩ = some (.bool lg) ∧ w'.cell? ⟨b, o, none⟩ = some (.int .i64 cla') ∧ w'.cell? ⟨b, o + 1, none⟩ = some (.int .i64 ins') ∧ w'.cell? ⟨b, o + 2, none⟩ = some (.int .i64 p1') ∧ w'.cell? ⟨b, o + 3, none⟩ = some (.int .i64 p2') ∧ w'.cell? ⟨b, o + 4, none⟩ = some (.slice A0 d'.length c0') ∧ w'.cell? ⟨b, o + 5, none⟩ = some (.int .i64 le') ∧ w'.cell? ⟨b, o + 6, none⟩ = some (.bool lg'))
      (first
        | with_reducible exact HS.out _ hd1
        | with_reducible exact HS.out _ hb5
        | (go_keep; done))
      (first
        | (go_at_call 56; (with_reducible refine (HPK.out _ (HUP.out _ (HU1.out _ hd1))).mono ?_); rintro e w5 ⟨rfl, hb5'⟩; have hb5 := HCC.out _ _ hd1 hb5'; clear hb5'))
    have HB5 := Lib.hid (HU1.out _ hb5)
    have HS5 := HS.out _ hb5
    have HA5 := Lib.hid ((hb5.block _ (lt_row HAR.out)).trans HAR.out)
    clear hb5 hd1 c0 c1 c2 c3 c4 c5 c6 f0 f1 f2 f3 f4 f5 f6
    obtain ⟨c0, c1, c2, c3, c4, c5, c6, _⟩ := HS5
    by_cases hPE : PE = 0
    case neg =>
      have hne : (PE != 0) = true := by rw [bne_iff_ne]; exact hPE
      have hJ : jnK cs cs.length = PE := by rw [jnK_bad (k := k' + 1) (by rw [HJS.out]; exact hPE) (by omega), HJS.out]
      have hE : jnE cs = PE := by unfold jnE; rw [if_neg (by omega), if_neg (by rw [hJ]; exact hPE), hJ]
      have HBD := Lib.hid (fun (w' : World) (e : Ending) => jn_bad (cs := cs) (w := w) (w' := w') (e := e) PE hE hPE)
      have hrr := HRR.out _ HB5.out
      have z0 := cell_of_row _ _ 0 _ _ _ hrr
      have z1 := cell_of_row _ _ 1 _ _ _ hrr
      have z2 := cell_of_row _ _ 2 _ _ _ hrr
      have z3 := cell_of_row _ _ 3 _ _ _ hrr
      have z4 := cell_of_row _ _ 4 _ _ _ hrr
      have z5 := cell_of_row _ _ 5 _ _ _ hrr
      have z6 := cell_of_row _ _ 6 _ _ _ hrr
      have y0 := frozen_of_row _ _ 0 _ _ hrr
      have y1 := frozen_of_row _ _ 1 _ _ hrr
      have y2 := frozen_of_row _ _ 2 _ _ hrr
      have y3 := frozen_of_row _ _ 3 _ _ hrr
      have y4 := frozen_of_row _ _ 4 _ _ hrr
      have y5 := frozen_of_row _ _ 5 _ _ hrr
      have y6 := frozen_of_row _ _ 6 _ _ hrr
      have HRW5 := Lib.hid hrr
      clear hrr hJ hE
      go_wp2_with fail
      exact bodyPost_ret (results_cell2 rfl _ _ w.heap.size 24 #[.int .i64 0, .int .i64 0, .int .i64 0, .int .i64 0, .slice none 0 0, .int .i64 0, .bool false] (0, 0) _ rfl (row7_set _ _ _ _ _ _ _ _ _ _ _ _ _ _ _ _ _ HRW5.out) Try.underlying24 rfl (by kernel_rfl)) rfl (HBD.out _ _ rfl (set7_below (HUP.out _ HB5.out) (Nat.le_refl _)))
    subst hPE
    have y0 := frozen_of_row _ _ k' _ _ HA5.out
    have hx0 := cell_of_row _ _ k' _ _ _ HA5.out
    rw [Array.getElem?_eq_getElem (by have := HAL.out.1; omega)] at hx0
    go_wp2_with fail
    have hds : datK cs (k' + 1) = datK cs k' ++ d := HDS.out
    have hdl := HDL.out HJS.out
    have hln : (datK cs (k' + 1)).length = (datK cs k').length + d.length := by rw [hds, List.length_append]
    refine ⟨⟨k' + 1, by omega, by simp, ?_, HJS.out, HB5.out.setCell (p := ⟨w.heap.size + 1, k', none⟩) (Nat.le_refl _) _, _, heap_setCell_same _ _ _ _ _ _ HA5.out, by simp [HAL.out.1], fun i hi => ?_⟩, by simp [intOf]; omega⟩
    · rw [IntWalk.wrap64_in _ (by omega), hln]
      simp
    · by_cases hij : i = k'
      · subst hij
        rw [Array.getElem?_setIfInBounds_self_of_lt (by rw [HAL.out.1]; exact hlt), HUK.out]
      · rw [Array.getElem?_setIfInBounds_ne (by omega)]
        exact HAL.out.2 i (by omega)
end Go.Proofs.Ytjoibonbmalbdaa
