/-
  Layer 20: Hash of the program.
-/
import Derived.Test.YtndkkkkfgihemaaMoh
namespace Go.Proofs.Ytndkkkkfgihemaa
set_option linter.unusedVariables false
set_option linter.unusedSimpArgs false
open Go.RowKit

attribute [local go_sem] Oper.semAt_some

/-- The hash value after some blocks of p. -/
def hashP (p : List UInt8) (is : List Nat) : List UInt8 := is.foldl (fun h i => hashA h (blk p i)) (List.replicate 16 0)
theorem hashP_snoc (p : List UInt8) (is : List Nat) (i : Nat) : hashP p (is ++ [i]) = hashA (hashP p is) (blk p i) := by simp [hashP]
theorem hashP_len (p : List UInt8) (is : List Nat) : (hashP p is).length = 16 := by
  rw [← List.reverse_reverse is]
  generalize is.reverse = r
  induction r with
  | nil => simp [hashP]
  | cons i r ih => rw [List.reverse_cons, hashP_snoc]; exact hashA_len _ _ ih
def hashL (d : List UInt8) : List UInt8 := hashA (hashP (padL d 8) (List.range (d.length / 8 + 1))) (putL d.length 8)
theorem hashL_len (d : List UInt8) : (hashL d).length = 16 := hashA_len _ _ (hashP_len _ _)

theorem SL.kept {W W' : World} {row : Option Nat} {v : Value} {l : List UInt8} (h : SL W W.heap.size v l) (hg : W.grownBy W' row) (hr : ∀ r, row = some r → ∃ o : Obj, W.heap[r]? = some o ∧ o.isCells = false) : SL W' W'.heap.size v l := by
  obtain ⟨A, c, rfl, h1, h2, h3⟩ := h
  refine ⟨A, c, rfl, h1, h2, fun hp => ?_⟩
  obtain ⟨b, o, rfl, hb, hc⟩ := h3 hp
  exact ⟨b, o, rfl, Nat.lt_of_lt_of_le hb hg.size, fun k hk => cell_kept (hc k hk) hg hr⟩
/-- A store into a box of slices leaves what reads as bytes. -/
theorem SL.setOff {W : World} {v z : Value} {l : List UInt8} {B : Nat} (h : SL W W.heap.size v l) (hz : W.cell? ⟨B, 0, none⟩ = some z) (hn : ∀ n, z ≠ .int .u8 n) (u : Value) : SL (W.setCell ⟨B, 0, none⟩ u) (W.setCell ⟨B, 0, none⟩ u).heap.size v l := by
  obtain ⟨A, c, rfl, h1, h2, h3⟩ := h
  refine ⟨A, c, rfl, h1, h2, fun hp => ?_⟩
  obtain ⟨b, o, rfl, hb, hc⟩ := h3 hp
  refine ⟨b, o, rfl, by simpa [World.setCell] using hb, fun k hk => ?_⟩
  rw [World.cell?_setCell_other W ⟨B, 0, none⟩ ⟨b, o + k, none⟩ u (fun e => ?_)]
  · exact hc k hk
  · have hc' := hc k hk
    rw [show (⟨b, o + k, none⟩ : Addr) = ⟨B, 0, none⟩ from by first | exact e | exact e.symm, hz] at hc'
    exact hn _ (Option.some.inj hc')
theorem own_hash (B D n : Nat) (p : List UInt8) : OwnFrom D (fun (pre : List (Fin n)) W => ∃ v, Boxed W B 22 v ∧ SL W W.heap.size v (hashP p (pre.map Fin.val))) := by
  rintro pre X Y row ⟨v, hv, hs⟩ hg hr
  refine ⟨v, hv.kept hg (fun e => ?_), hs.kept hg (fun r e => (hr r e).2)⟩
  obtain ⟨_, o, ho, hc⟩ := hr B e.symm
  rw [show X.heap[B]? = _ from hv] at ho
  cases ho
  cases hc
set_option maxRecDepth 100000 in
set_option maxHeartbeats 3200000 in
theorem phash_any (d : List UInt8) (v : Value) (w : World) (hd : SL w w.heap.size v d) (hs : d.length ≤ 5000) :
    Calls Try.prog 34 #[v] w fun e w' => ∃ v', e = .returned v' ∧ SL w' w'.heap.size v' (hashL d) ∧ Below w.heap.size w w' := by
  refine (callsIn_wide (n := 9)).1 ?_
  refine callsIn_of_wp_marks Try.func34 rfl trivial ?_ rfl
  simp only [Try.ntmps34, List.size_toArray, List.length_cons, List.length_nil, Nat.reduceAdd, Nat.reduceSub, Array.replicate_succ, Array.replicate_zero, List.push_toArray, List.append_toArray, List.nil_append, List.cons_append]
  refine wpIn_wide.2 ?_
  have HP := Lib.hid (ppad_ok d v 8 w hd (by omega) (by omega) (by omega))
  have HU := Lib.hid (fun W => pput_ok d.length 8 W (by omega) (by omega) (by omega) (by omega))
  have hpl := padL_len d
  obtain ⟨n, hn⟩ : ∃ n, n = d.length / 8 + 1 := ⟨_, rfl⟩
  have HR : Hid (hashL d = hashA (hashP (padL d 8) (List.range n)) (putL d.length 8)) := by show _ = _; rw [hashL, hn]
  rw [← hn] at hpl
  have hul := putL_length d.length 8
  generalize hashL d = r at *
  generalize padL d 8 = p at *
  generalize putL d.length 8 = u at *
  obtain ⟨A1, c1, rfl, h11, h12, h13⟩ := hd
  clear h13
  have HPL := Lib.hid hpl
  have HUL := Lib.hid hul
  have hn0 : 0 < n := by omega
  have hn9 : n ≤ 1000 := by omega
  clear hpl hul hn
  go_wp2_with fail
  refine HP.out.mono ?_
  rintro e w1 ⟨v1, rfl, hv1, hb1⟩
  go_wp2_with fail
  refine (HU.out _).mono ?_
  rintro e w2 ⟨v2, rfl, hv2, hb2⟩
  have hv1' := hv1.on hb2
  obtain ⟨A5, c5, rfl, h51, h52, h53⟩ := hv1'
  have hp0 : 0 < p.length := by rw [HPL.out]; omega
  obtain ⟨b5, o5, rfl, hb5, hc5⟩ := h53 hp0
  have b2 := after hb1 hb2
  go_wp2_with (first
    | (at_make; refine wpList_mk rfl _ _ rfl .i64 .i64 _ _ 16 rfl rfl rfl rfl (by omega) ?_; intro w3 hown3 hb3)
    | (go_at_call 55; refine (callsIn_wide.1 (chunk_in 3 _ _ _ _)).mono ?_; rintro e w' ⟨rfl, rfl⟩))
  have hs3 := hb3.size
  obtain ⟨W0, hW0⟩ : ∃ W0, (((w3.alloc (.cells #[.slice (some ⟨w2.heap.size, 0, none⟩) 16 16] 22)).alloc (.cells #[.slice (some ⟨b5, o5, none⟩) p.length c5] 22)).alloc (.cells #[.int .i64 8] 3)) = W0 := ⟨_, rfl⟩
  have q1 : Boxed W0 w3.heap.size 22 (.slice (some ⟨w2.heap.size, 0, none⟩) 16 16) := by rw [← hW0]; exact ((Boxed.new w3 22 _).alloc _).alloc _
  have q2 : Boxed W0 (w3.heap.size + 1) 22 (.slice (some ⟨b5, o5, none⟩) p.length c5) := by
    have := (Boxed.new (w3.alloc (.cells #[.slice (some ⟨w2.heap.size, 0, none⟩) 16 16] 22)) 22 (.slice (some ⟨b5, o5, none⟩) p.length c5)).alloc (.cells #[.int .i64 8] 3)
    rw [alloc_size, hW0] at this
    exact this
  have q3 : Boxed W0 (w3.heap.size + 1 + 1) 3 (.int .i64 8) := by
    have := Boxed.new ((w3.alloc (.cells #[.slice (some ⟨w2.heap.size, 0, none⟩) 16 16] 22)).alloc (.cells #[.slice (some ⟨b5, o5, none⟩) p.length c5] 22)) 3 (.int .i64 8)
    rw [alloc_size, alloc_size, hW0] at this
    exact this
  have q4 : Below w3.heap.size w3 W0 := by rw [← hW0]; exact (((Below.refl _ _).alloc (Nat.le_refl _) _).alloc (by simp) _).alloc (by simp; omega) _
  have q5 : W0.heap.size = w3.heap.size + 3 := by rw [← hW0]; simp
  have q6 : SL W0 W0.heap.size (.slice (some ⟨w2.heap.size, 0, none⟩) 16 16) (hashP p []) := by
    have := hown3.sl.on q4
    exact this
  rw [hW0]
  clear hW0 hown3
  have HK1 : Hid (p.length ≤ 8 * n ∧ 8 * n < p.length + 8) := by show _ ∧ _; rw [HPL.out]; omega
  have HPB : Hid (∀ i W, i < n → Below w3.heap.size w3 W → SL W W.heap.size (.slice (some ⟨b5, o5 + 8 * i, none⟩) 8 8) (blk p i)) := fun i W hi hb => by
    have h1 : SL w2 w2.heap.size (.slice (some ⟨b5, o5 + 8 * i, none⟩) 8 8) (blk p i) :=
      ⟨some ⟨b5, o5 + 8 * i, none⟩, 8, by rw [blk_len p i (by rw [HPL.out]; omega)], by rw [blk_len p i (by rw [HPL.out]; omega)]; omega, by unfold maxLen; omega, Rd.take (Rd.drop h53 (8 * i) (by rw [HPL.out]; omega)) 8⟩
    exact (h1.on hb3).on hb
  have HUB : Hid (∀ W, Below w3.heap.size w3 W → SL W W.heap.size v2 u) := fun W hb => (hv2.on hb3).on hb
  have HPL9 : Hid (p.length ≤ 10000) := by show _ ≤ _; rw [HPL.out]; omega
  have HB3 := Lib.hid (after b2 hb3)
  refine wpIn_wide.1 (wpIn_rangeFunc_ownG (F := Fence.wide) (n := 9) rfl (by omega) (gf := 65) (lb := #[.pointer (some ⟨w3.heap.size + 1, 0, none⟩), .pointer (some ⟨w3.heap.size + 1 + 1, 0, none⟩)]) rfl trivial (enters_of Try.func65 (by kernel_rfl) rfl)
    (chunk_stops 7 (w3.heap.size + 1) (w3.heap.size + 1 + 1) w3.heap.size b5 o5 p.length c5 n W0 HPL9.out h51 h52 HK1.out.1 HK1.out.2 q2 q3) KpC.trans (KpC.block q4.size) (Below.refl _ _) (fun _ => rfl)
    (fun pre W => (∃ v, Boxed W w3.heap.size 22 v ∧ SL W W.heap.size v (hashP p (pre.map Fin.val))) ∧ Below w3.heap.size w3 W) (fun _ _ _ => False)
    (OwnFrom.and (own_hash _ _ _ _) (ownFrom_below (Nat.le_refl _) q4.size))
    (fun _ _ _ _ _ hs _ _ => hs)
    ⟨⟨_, q1, q6⟩, q4⟩
    (fun x => { tmps := #[.slice A1 d.length c1, undef, .slice none 0 0, .slice (some ⟨b5, o5, none⟩) p.length c5, .int .i64 0, v2, .int .i64 0, .pointer (some ⟨w3.heap.size, 0, none⟩), chunkV b5 o5 p.length x.1,
      .tuple #[.slice (some ⟨b5, o5, none⟩) p.length c5, .int .i64 0], .slice A1 d.length c1, .tuple #[.slice (some ⟨b5, o5, none⟩) p.length c5, .int .i64 0], .slice (some ⟨b5, o5, none⟩) p.length c5, .int .i64 0, .tuple #[v2, .int .i64 0], .slice A1 d.length c1, .int .i64 (d.length : Int), .tuple #[v2, .int .i64 0], v2, .int .i64 0,
      .slice (some ⟨w2.heap.size, 0, none⟩) 16 16, .slice (some ⟨b5, o5, none⟩) p.length c5, .func (.func 65) #[] #[.pointer (some ⟨w3.heap.size + 1, 0, none⟩), .pointer (some ⟨w3.heap.size + 1 + 1, 0, none⟩)], chunkV b5 o5 p.length x.1, undef, undef, undef, undef, undef, undef], defers := [] }) ?assign ?body ?done ?stop)
  case assign =>
    intro l x W K hK
    gi_wp2
    exact hK
  case body =>
    rintro lk pre x W ⟨⟨v, hv, hsl⟩, hB⟩ _
    have hvc := hv.cell
    have hvf := hv.frozen
    have hx1 : x.1 < n := x.2
    have hck : SL W W.heap.size (chunkV b5 o5 p.length x.1) (blk p x.1) := by
      have e : chunkV b5 o5 p.length x.1 = .slice (some ⟨b5, o5 + 8 * x.1, none⟩) 8 8 := by
        unfold chunkV
        rw [HPL.out, show min 8 (8 * n - 8 * x.1) = 8 by omega]
      rw [e]
      exact HPB.out x.1 W hx1 hB
    have HA := Lib.hid (pabs_any (hashP p (pre.map Fin.val)) (blk p x.1) v (chunkV b5 o5 p.length x.1) W hsl hck (hashP_len _ _) (blk_len p x.1 (by rw [HPL.out]; omega)))
    have HN : Hid (hashP p ((pre ++ [x]).map Fin.val) = hashA (hashP p (pre.map Fin.val)) (blk p x.1)) := by show _ = _; rw [List.map_append]; exact hashP_snoc _ _ _
    generalize hashA (hashP p (pre.map Fin.val)) (blk p x.1) = hn at *
    have HB := Lib.hid hB
    have HV := Lib.hid hv
    have HVS : Hid (∀ n, v ≠ .int .u8 n) := by
      obtain ⟨A, c, e, _⟩ := hsl
      intro n h
      rw [e] at h
      cases h
    clear hB hck hsl hvc hvf
    have hvc := hv.cell
    generalize chunkV b5 o5 p.length x.1 = ck at *
    gi_wp2
    refine ⟨trivial, (CallsIn.inRound lk (callsIn_wide.2 HA.out)).mono ?_⟩
    rintro e w5 ⟨v5, rfl, hv5, hb5⟩
    have hv5b : Boxed w5 w3.heap.size 22 v := (hb5.block _ hv.lt).trans hv
    have c5' := hv5b.cell
    have f5' := hv5b.frozen
    have HV5 := Lib.hid hv5
    obtain ⟨A6, c6, rfl, h61, h62, h63⟩ := hv5
    clear h63
    gi_wp2
    have H5 := HV5.out
    have hBx := HB.out
    have hn0' : w3.heap.size ≤ W.heap.size := hBx.size
    have hw5 : Below w3.heap.size w3 w5 := hBx.trans (hb5.mono hn0')
    have hset : Below w3.heap.size W (w5.setCell ⟨w3.heap.size, 0, none⟩ (.slice A6 hn.length c6)) := (hb5.mono hn0').setCell (p := ⟨w3.heap.size, 0, none⟩) (Nat.le_refl _) _
    have box : ∀ (Bx : Nat) (t : TypeId) (u : Value), Bx ≠ w3.heap.size → Boxed W Bx t u → Boxed (w5.setCell ⟨w3.heap.size, 0, none⟩ (.slice A6 hn.length c6)) Bx t u := fun Bx t u hne hu =>
      Boxed.kept ((hb5.block Bx hu.lt).trans hu) (grownBy_setCell' w5 w3.heap.size _) (by intro e; cases e; exact hne rfl)
    refine ⟨((keepsOthers_below hb5).trans (KeepsOthers.setCell _ _ _)).from _, ⟨hset, fun u hu => box _ 22 u (by omega) hu, fun u hu => box _ 3 u (by omega) hu⟩, ⟨_, hv5b.set _, ?_⟩, hBx.trans hset⟩
    rw [HN.out]
    exact H5.setOff c5' HVS.out _
  case done =>
    rintro D ys W hD hys ⟨⟨v, hv, hsl⟩, hB⟩ hKD
    have c1' := hv.cell
    have HA := Lib.hid (pabs_any (hashP p (ys.map Fin.val)) u v v2 W hsl (HUB.out W hB) (hashP_len _ _) HUL.out)
    have HY : Hid (r = hashA (hashP p (ys.map Fin.val)) u) := by show _ = _; rw [HR.out, hys]
    generalize hashA (hashP p (ys.map Fin.val)) u = hn at *
    go_wp2_with fail
    refine HA.out.mono ?_
    rintro e w5 ⟨v5, rfl, hv5, hb5⟩
    have hDs : D < W.heap.size := (Array.getElem?_eq_some_iff.1 hKD).1
    have hKD5 : w5.heap[D]? = some (.deferred (some [])) := (hb5.block D hDs).trans hKD
    go_wp2
    refine ⟨by simp, .inl ⟨_, _, rfl, run_takeDeferred hKD5, ?_⟩⟩
    have hw5 : Below w.heap.size w w5 := after (after HB3.out hB) hb5
    refine ⟨_, results_tmp rfl _ _ _, _, rfl, ?_, hw5.trans (belowK_b (w := w) (Nat.le_refl _) w5 D _ _ (by have := HB3.out.size; have := q4.size; omega) hKD5 rfl rfl)⟩
    rw [HY.out]
    exact hv5.kept (grownBy_putObj' w5 D _) (fun r e => by cases e; exact ⟨_, hKD5, rfl⟩)
  case stop =>
    rintro D c pre W _ _ h _
    exact h.elim
end Go.Proofs.Ytndkkkkfgihemaa
