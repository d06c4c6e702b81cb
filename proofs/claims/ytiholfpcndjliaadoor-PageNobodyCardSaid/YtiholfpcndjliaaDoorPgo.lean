/-
  Of the laws: block, open; strings of bytes.
-/
import Derived.Test.YtiholfpcndjliaaDoorPgn
import Derived.Laws.IdiomStrings
namespace Go.Proofs.YtiholfpcndjliaaDoor
set_option linter.unusedVariables false
set_option linter.unusedSimpArgs false
open Go.RowKit

/-- 'string(b)'. -/
def strL (l : List UInt8) : Value := .string ⟨l.toArray⟩
theorem SL.conv {w : World} {B : Nat} {v : Value} {l : List UInt8} (h : SL w B v l) : (convert 39 9 v).run Tryd.prog w = .ok (.string ⟨l.toArray⟩) w := by
  obtain ⟨A, c, rfl, _, _, h3⟩ := h
  have hu9 : Tryd.prog.underlying 9 = some .string := by kernel_rfl
  have hu5 : Tryd.prog.underlying 5 = some (.int .u8) := by kernel_rfl
  rcases Nat.eq_zero_or_pos l.length with h0 | h0
  · obtain rfl : l = [] := List.eq_nil_of_length_eq_zero h0
    rcases A with _ | a
    · have := run_convert_bytes_string (P := Tryd.prog) w 39 9 5 none 0 c Tryd.underlying39 hu5 hu9
      show (convert 39 9 (.slice none 0 c)).run Tryd.prog w = _
      rw [this]
      simp [Conv.bytesToString]
      rfl
    · exact run_convert_bytes_back w 39 9 5 a c [] Tryd.underlying39 hu5 hu9 (fun j hj => absurd hj (by simp))
  · obtain ⟨b, o, rfl, _, hc⟩ := h3 h0
    exact run_convert_bytes_back w 39 9 5 ⟨b, o, none⟩ c l Tryd.underlying39 hu5 hu9 (fun j hj => by
      rw [addr_add, hc j hj]
      simp [List.getD_eq_getElem?_getD, List.getElem?_eq_getElem hj])
/-- Some bytes, zeros behind them. -/
def blk (l : List UInt8) : List UInt8 := l.take 48 ++ List.replicate (48 - (l.take 48).length) 0
theorem blk_len (l : List UInt8) : (blk l).length = 48 := by unfold blk; simp; omega
def BlkR (l : List UInt8) (w : World) (e : Ending) (w' : World) : Prop := ∃ v, e = .returned v ∧ OB w' w.heap.size v (blk l) ∧ Below w.heap.size w w'
set_option maxRecDepth 100000 in
theorem block_any (l : List UInt8) (v : Value) (w : World) (hv : SL w w.heap.size v l) : Calls Tryd.prog 29 #[v] w (BlkR l w) := by
  obtain ⟨A, c, rfl, h1, h2, h3⟩ := hv
  have H3 := Lib.hid h3
  clear h3
  have hlm : ((l.take 48).map bv).length = Nat.min l.length 48 := by simp [Nat.min_comm]
  have hz : 0 + ((l.take 48).map bv).length ≤ ((List.replicate 48 (0 : UInt8)).map bv).length := by simp; omega
  have HEND : Hid (∀ w2, w2.heap[w.heap.size]? = some (.cells (splice ((List.replicate 48 (0 : UInt8)).map bv) 0 ((l.take 48).map bv)).toArray 5 (0, 0)) → OB w2 w.heap.size (.slice (some ⟨w.heap.size, 0, none⟩) 48 48) (blk l)) := fun w2 h => by
    refine OB.of_cells (Nat.le_refl _) (blk_len l) (by simp only [maxLen]; omega) ?_
    rw [h]
    congr 2
    simp only [blk, splice, List.take_zero, List.nil_append, Nat.zero_add, List.map_append, List.length_map, List.drop_replicate, ← List.map_drop]
  rcases Nat.eq_zero_or_pos l.length with h0 | h0
  · obtain rfl : l = [] := List.eq_nil_of_length_eq_zero h0
    go_enter Tryd.func29, Tryd.ntmps29
    go_wp2_with (first | (at_make; refine wpList_mk rfl _ _ rfl .i64 .i64 _ _ 48 rfl rfl rfl rfl (by omega) ?_; intro w1 hown1 hb1) | (refine wpList_copy_splice rfl (.tmp 5) (.tmp 6) 39 39 rfl 5 Tryd.underlying39 (by kernel_rfl) _ _ _ _ _ _ rfl rfl w.heap.size 0 ((List.replicate 48 (0 : UInt8)).map bv) 5 hown1.cells ((([] : List UInt8).take 48).map bv) hlm (fun hp => absurd hp (by simp)) hz (map_bv_one _) w.heap.size w1 (Below.refl _ _) (Nat.le_refl _) ?_; intro w2 hs2 hb2))
    go_ret
    exact ⟨_, rfl, HEND.out _ hs2.out, hb1.trans hb2⟩
  · obtain ⟨b, o, rfl, hb, hc⟩ := H3.out h0
    have hcs : ∀ w1, Below w.heap.size w w1 → ∀ j u, ((l.take 48).map bv)[j]? = some u → w1.cell? ((⟨b, o, none⟩ : Addr).add j) = some u := by
      intro w1 hb1 j u hu
      have hj : j < 48 ∧ j < l.length := by have := (List.getElem?_eq_some_iff.1 hu).1; simp at this; omega
      rw [addr_add, hb1.cell (p := ⟨b, o + j, none⟩) hb, hc j hj.2]
      rw [List.getElem?_map, List.getElem?_take_of_lt hj.1, List.getElem?_eq_getElem hj.2] at hu
      simp [bv] at hu
      rw [← hu]
      simp [List.getD_eq_getElem?_getD, List.getElem?_eq_getElem hj.2]
    have HCS := Lib.hid hcs
    clear hcs hc
    go_enter Tryd.func29, Tryd.ntmps29
    go_wp2_with (first | (at_make; refine wpList_mk rfl _ _ rfl .i64 .i64 _ _ 48 rfl rfl rfl rfl (by omega) ?_; intro w1 hown1 hb1) | (refine wpList_copy_splice rfl (.tmp 5) (.tmp 6) 39 39 rfl 5 Tryd.underlying39 (by kernel_rfl) _ _ _ _ _ _ rfl rfl w.heap.size 0 ((List.replicate 48 (0 : UInt8)).map bv) 5 hown1.cells ((l.take 48).map bv) hlm (fun _ => ⟨rfl, _, rfl, HCS.out _ hb1⟩) hz (map_bv_one _) w.heap.size w1 (Below.refl _ _) (Nat.le_refl _) ?_; intro w2 hs2 hb2))
    go_ret
    exact ⟨_, rfl, HEND.out _ hs2.out, hb1.trans hb2⟩

section
variable {w w' : World} {pb b g gf gh lf : Nat} {s : St} {d : PD} {fx : Int}
/-- What open of the laws returns, of a memory that is great enough. -/
def OpnR (n : Nat) (w : World) (e : Ending) (w' : World) : Prop :=
  ∃ pb b g gf gh, e = .returned (.tuple #[.pointer (some ⟨b, 0, none⟩), .pointer (some ⟨pb, 0, none⟩), .bool true]) ∧ w.heap.size ≤ pb ∧ w.heap.size ≤ b ∧ w.heap.size ≤ g ∧ w.heap.size ≤ gf ∧ w.heap.size ≤ gh ∧
    PM w' (fun k => k = b ∨ k = g ∨ k = pb ∨ k = gf ∨ k = gh) pb b g gf gh (st0 n 1073741824) 0 (ldD (List.replicate n 0) 0 0) 0 ∧ Below w.heap.size w w'
theorem OpenR.ok {X : Nat → Prop} {w : World} {e : Ending} {K : Nat} (h : OpenR X b g lf s w e w') (hon : s.on = true) (hi : Iv s.ws K) : ∃ pb gf gh fx, e = .returned (.tuple #[.pointer (some ⟨pb, 0, none⟩), .int .i64 0]) ∧ w.heap.size ≤ pb ∧ w.heap.size ≤ gf ∧ w.heap.size ≤ gh ∧
      PM w' (fun k => X k ∨ k = pb ∨ k = gf ∨ k = gh) pb b g gf gh s lf (ldD s.ws s.cu s.wr) fx ∧ (exH s.ws → fx = 0) ∧ KX X w w' := by
  obtain ⟨hk, h⟩ := h
  rw [if_neg (by rw [hon]; simp), if_neg (by have := hi.n1; omega), if_pos hi.ldB] at h
  obtain ⟨pb, gf, gh, fx, h1, h2, h3, h4, h5, h6⟩ := h
  exact ⟨pb, gf, gh, fx, h1, h2, h3, h4, h5, h6, hk⟩
set_option maxRecDepth 100000 in
set_option maxHeartbeats 800000 in
theorem lopen_any (n : Nat) (w : World) (h1 : 240 ≤ n) (h2 : n ≤ 65536) (hT : Tb w) : Calls Tryd.prog 27 #[.int .i64 (n : Int)] w (OpnR n w) := by
  have HN := Lib.hid (new_ok n 1073741824 w (by omega) h2 (by omega) (by omega))
  unfold NewR at HN
  have HO : Hid (∀ (w1 : World) (b g : Nat), MA w1 b g (st0 n 1073741824) 0 → w.heap.size ≤ b → w.heap.size ≤ g → Below w.heap.size w w1 → Calls Tryd.prog 17 #[.pointer (some ⟨b, 0, none⟩)] w1 fun e w' => ∃ pb gf gh, e = .returned (.tuple #[.pointer (some ⟨pb, 0, none⟩), .int .i64 0]) ∧ w.heap.size ≤ pb ∧ w.heap.size ≤ gf ∧ w.heap.size ≤ gh ∧
      PM w' (fun k => k = b ∨ k = g ∨ k = pb ∨ k = gf ∨ k = gh) pb b g gf gh (st0 n 1073741824) 0 (ldD (List.replicate n 0) 0 0) 0 ∧ Below w.heap.size w w') := fun w1 b g hm hb hg hbel => by
    have hts := hT.size
    refine (popen_any (X := fun k => k = b ∨ k = g) hm (hT.on hbel) (.inl rfl) (.inr rfl) (fun k hk => by rcases hk with rfl | rfl; exact ⟨hm.ltb, by omega⟩; exact ⟨hm.ltg, by omega⟩) (fun a => by show (List.replicate n 0).getD a 0 < _; rw [rep0]; omega)).mono ?_
    intro e w2 h
    obtain ⟨pb, gf, gh, fx, e1, p1, p2, p3, hpm, hfx, hkx⟩ := h.ok rfl (Iv.zero n h1 h2)
    obtain rfl : fx = 0 := hfx (ExW.zero n).h
    have hs := hbel.size
    refine ⟨pb, gf, gh, e1, by omega, by omega, by omega, ?_, hbel.trans ((hkx.below (B := w.heap.size) (fun k hk => by rcases hk with rfl | rfl <;> assumption) hs))⟩
    have hX : (fun k => (k = b ∨ k = g) ∨ k = pb ∨ k = gf ∨ k = gh) = fun k => k = b ∨ k = g ∨ k = pb ∨ k = gf ∨ k = gh := by funext k; exact propext or_assoc
    rw [← hX]
    exact hpm
  clear hT
  go_enter Tryd.func27, Tryd.ntmps27
  go_wp2_with fail
  refine HN.out.mono ?_
  rintro e w1 ⟨b, g, rfl, hm, hb, hg, hbel⟩
  have HO2 := Lib.hid (HO.out w1 b g hm hb hg hbel)
  clear hm hbel
  go_wp2_with fail
  refine HO2.out.mono ?_
  rintro e w2 ⟨pb, gf, gh, rfl, p1, p2, p3, hpm, hb2⟩
  have HPM := Lib.hid hpm
  have HB2 := Lib.hid hb2
  clear hpm hb2
  go_wp2_with fail
  refine bodyPost_ret (results_tmp3 rfl _ _ _) rfl ?_
  exact ⟨pb, b, g, gf, gh, rfl, p1, hb, hg, p2, p3, HPM.out, HB2.out⟩
end
end Go.Proofs.YtiholfpcndjliaaDoor
