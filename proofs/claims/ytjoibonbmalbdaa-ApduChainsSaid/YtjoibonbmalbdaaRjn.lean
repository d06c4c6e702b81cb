/-
  Join of the reference.
-/
import Derived.Test.YtjoibonbmalbdaaRlk
import Derived.Test.YtjoibonbmalbdaaJnc
import Derived.Test.YtjoibonbmalbdaaChb
namespace Go.Proofs.Ytjoibonbmalbdaa
set_option linter.unusedVariables false
set_option linter.unusedSimpArgs false
open Go.RowKit

theorem ob7 {w : World} {base g : Nat} {v : Value} {l : List UInt8} {x0 x1 x2 x3 x4 x5 x6 : Value} (h : OB w base v l) (hg : g < base) :
    OB (((((((w.setCell ⟨g, 0, none⟩ x0).setCell ⟨g, 1, none⟩ x1).setCell ⟨g, 2, none⟩ x2).setCell ⟨g, 3, none⟩ x3).setCell ⟨g, 4, none⟩ x4).setCell ⟨g, 5, none⟩ x5).setCell ⟨g, 6, none⟩ x6) base v l :=
  ((((((h.setOld hg).setOld hg).setOld hg).setOld hg).setOld hg).setOld hg).setOld hg
theorem slr7 {w : World} {B n : Nat} {A : Option Addr} {c : Nat} {l : List UInt8} (h : SL w B (.slice A n c) l) : 0 < l.length → ∃ b o, A = some ⟨b, o, none⟩ ∧ ∀ k, k < l.length → w.cell? ⟨b, o + k, none⟩ = some (.int .u8 ((l.getD k 0).toNat : Int)) := by
  intro hp
  obtain ⟨A', c', e, _, _, h3⟩ := h
  simp only [Value.slice.injEq] at e
  obtain ⟨rfl, _, _⟩ := e
  obtain ⟨b, o, hA, _, hc⟩ := h3 hp
  exact ⟨b, o, hA, hc⟩

set_option maxRecDepth 100000 in
set_option maxHeartbeats 6400000 in
theorem rjn_any (cs : List Cm) (v : Value) (w : World) (h : ML w w.heap.size v cs) (hle : ∀ c ∈ cs, -9223372036854775808 ≤ c.le ∧ c.le ≤ 9223372036854775807) (hn : cs.length ≤ 10000) (hs : ∀ k, k ≤ cs.length → jnK cs k = 0 → (datK cs k).length ≤ 50000000) :
    Calls Try.prog 38 #[v] w (JnR cs w) := by
  have HSB := Lib.hid hs
  clear hs
  have HM := Lib.hid h
  obtain ⟨A, k, rfl, k1, k2, k3⟩ := h
  unfold maxLen at k2
  rcases Nat.eq_zero_or_pos cs.length with h0 | h0
  · have HB := Lib.hid (fun (w' : World) (e : Ending) => jn_bad (cs := cs) (w := w) (w' := w') (e := e) 1 (by unfold jnE; rw [if_pos h0]) (by decide))
    rw [h0]
    go_enter Try.func38, Try.ntmps38
    go_wp2_with fail
    exact bodyPost_ret (results_cell2 rfl _ _ w.heap.size 24 _ (0, 0) _ rfl (heap_alloc_new w _) Try.underlying24 rfl (by kernel_rfl)) rfl (HB.out _ _ rfl (alloc_below _ _))
  obtain ⟨b, o, rfl, hb, hc⟩ := k3.out h0
  obtain ⟨U, hU⟩ : ∃ U : Nat → Value, ∀ i, i < cs.length → w.cell? ⟨b, o + i * 7 + 4, none⟩ = some (U i) ∧ SL w w.heap.size (U i) (cs.getD i default).data := choose_v fun i hi => (hc i hi).2.2.2.2.1
  have hlv : ∀ i, i < cs.length → -9223372036854775808 ≤ (cs.getD i default).le ∧ (cs.getD i default).le ≤ 9223372036854775807 := fun i hi => by
    have e : cs.getD i default = cs[i] := by simp [List.getD, hi]
    rw [e]; exact hle _ (List.getElem_mem hi)
  have HCU : Hid (∀ W, Below w.heap.size w W → ∀ i, i < cs.length → W.cell? ⟨b, o + i * 7, none⟩ = some (.int .i64 (cs.getD i default).cla) ∧ W.cell? ⟨b, o + i * 7 + 1, none⟩ = some (.int .i64 (cs.getD i default).ins) ∧ W.cell? ⟨b, o + i * 7 + 2, none⟩ = some (.int .i64 (cs.getD i default).p1) ∧ W.cell? ⟨b, o + i * 7 + 3, none⟩ = some (.int .i64 (cs.getD i default).p2) ∧ W.cell? ⟨b, o + i * 7 + 4, none⟩ = some (U i) ∧ W.cell? ⟨b, o + i * 7 + 5, none⟩ = some (.int .i64 (cs.getD i default).le) ∧ W.cell? ⟨b, o + i * 7 + 6, none⟩ = some (.bool (cs.getD i default).long)) := fun W hW i hi => by
    obtain ⟨e0, e1, e2, e3, _, e5, e6⟩ := hc i hi
    exact ⟨(hW.cell (p := ⟨b, _, none⟩) hb).trans e0, (hW.cell (p := ⟨b, _, none⟩) hb).trans e1, (hW.cell (p := ⟨b, _, none⟩) hb).trans e2, (hW.cell (p := ⟨b, _, none⟩) hb).trans e3, (hW.cell (p := ⟨b, _, none⟩) hb).trans (hU i hi).1, (hW.cell (p := ⟨b, _, none⟩) hb).trans e5, (hW.cell (p := ⟨b, _, none⟩) hb).trans e6⟩
  have HSU : Hid (∀ W, Below w.heap.size w W → ∀ i, i < cs.length → SL W W.heap.size (U i) (cs.getD i default).data) := fun W hW i hi => (hU i hi).2.on hW
  have HUF : Hid (∀ i, i < cs.length → ∃ A c, U i = .slice A (cs.getD i default).data.length c) := fun i hi => by
    obtain ⟨A, c, e, _⟩ := (hU i hi).2
    exact ⟨A, c, e⟩
  have HLV := Lib.hid hlv
  have HLK : Hid (∀ W, Below w.heap.size w W → ∀ i, i < cs.length → Calls Try.prog 57 #[.slice (some ⟨b, o, none⟩) cs.length k, .int .i64 (i : Int)] W fun e w' => e = .returned (.int .i64 (prtE (cs.getD i default) (cs.getD 0 default) (decide (i + 1 = cs.length)))) ∧ Below W.heap.size W w') := fun W hW i hi => by
    obtain ⟨A, c, e⟩ := HUF.out i hi
    obtain ⟨A0, c0, e0⟩ := HUF.out 0 h0
    exact rlnk_any (cs.getD i default) (cs.getD 0 default) A A0 _ c _ c0 cs.length i b o k W rfl (HLV.out i hi) (by have := hW.size; omega) hi (by omega) k1
      (fun W' hW' => by have h := HCU.out W' (hW.trans (hW'.mono hW.size)) i hi; rw [e] at h; exact h)
      (fun W' hW' => by have h := HCU.out W' (hW.trans (hW'.mono hW.size)) 0 h0; rw [e0] at h; simpa only [Nat.zero_mul, Nat.add_zero] using h)
  clear hc hU hle k3 hlv
  have HB0 := Lib.hid (alloc_below w (.cells #[.int .i64 0, .int .i64 0, .int .i64 0, .int .i64 0, .slice none 0 0, .int .i64 0, .bool false] 24))
  have HR0 := Lib.hid (heap_alloc_new w (.cells #[.int .i64 0, .int .i64 0, .int .i64 0, .int .i64 0, .slice none 0 0, .int .i64 0, .bool false] 24))
  have HZ0 : Hid ((w.alloc (.cells #[.int .i64 0, .int .i64 0, .int .i64 0, .int .i64 0, .slice none 0 0, .int .i64 0, .bool false] 24)).heap.size = w.heap.size + 1) := alloc_size _ _
  have hp : ((cs.length : Int) == 0) = false := by rw [beq_eq_false_iff_ne]; omega
  go_enter Try.func38, Try.ntmps38
  go_wp2_with fail
  generalize w.alloc (.cells #[.int .i64 0, .int .i64 0, .int .i64 0, .int .i64 0, .slice none 0 0, .int .i64 0, .bool false] 24) = w0 at *
  have HUP : Hid (∀ W, Below (w.heap.size + 1) w0 W → Below w.heap.size w W) := fun W hW => HB0.out.trans (hW.mono (by omega))
  have HRR : Hid (∀ W, Below (w.heap.size + 1) w0 W → W.heap[w.heap.size]? = some (.cells #[.int .i64 0, .int .i64 0, .int .i64 0, .int .i64 0, .slice none 0 0, .int .i64 0, .bool false] 24 (0, 0))) := fun W hW => (hW.block _ (by omega)).trans HR0.out
  go_loopw [4, 5] (fun t i wr => ∃ k : Nat, k ≤ cs.length ∧ i = .int .i64 k ∧ Hid (jnK cs k = 0) ∧ Hid (Below (w.heap.size + 1) w0 wr) ∧ Hid (OB wr (w.heap.size + 1) t (datK cs k))) (fun _ i _ => cs.length - (intOf i).toNat)
  case atStart => exact ⟨0, Nat.zero_le _, rfl, rfl, Below.refl _ _, OB.nil _ _⟩
  case round =>
    obtain ⟨k', hk, rfl, HJ, HB, HO⟩ := hrel
    obtain ⟨At, ct, rfl⟩ := HO.out.value
    by_cases hlt : k' < cs.length
    case neg =>
      obtain rfl : k' = cs.length := by omega
      have i8 : ¬ (cs.length : Int) < (cs.length : Int) := by omega
      rw [datK_all] at HO ⊢
      have hbd := HSB.out cs.length (Nat.le_refl _) HJ.out
      rw [datK_all] at hbd
      have HJE : Hid (jnE cs = if 65535 < (datL cs).length then 3 else 0) := by show _ = _; unfold jnE; rw [if_neg (by omega), if_pos HJ.out]
      have hrr := HRR.out _ HB.out
      have z0 := cell_of_row _ _ 0 _ _ _ hrr
      have z1 := cell_of_row _ _ 1 _ _ _ hrr
      have z2 := cell_of_row _ _ 2 _ _ _ hrr
      have z3 := cell_of_row _ _ 3 _ _ _ hrr
      have z4 := cell_of_row _ _ 4 _ _ _ hrr
      have z5 := cell_of_row _ _ 5 _ _ _ hrr
      have z6 := cell_of_row _ _ 6 _ _ _ hrr
      have y0 := frozen_of_row _ _ 0 _ _ hrr
      have y1 := frozen_of_row _ _ 1 _ _ hrr
      have y2 := frozen_of_row _ _ 2 _ _ hrr
      have y3 := frozen_of_row _ _ 3 _ _ hrr
      have y4 := frozen_of_row _ _ 4 _ _ hrr
      have y5 := frozen_of_row _ _ 5 _ _ hrr
      have y6 := frozen_of_row _ _ 6 _ _ hrr
      have HRW := Lib.hid hrr
      clear hrr
      by_cases hbig : 65535 < (datL cs).length
      case pos =>
        have hbig' : (65535 : Int) < ((datL cs).length : Int) := by omega
        have HBD := Lib.hid (fun (w' : World) (e : Ending) => jn_bad (cs := cs) (w := w) (w' := w') (e := e) 3 (by rw [HJE.out, if_pos hbig]) (by decide))
        go_wp2_with fail
        exact bodyPost_ret (results_cell2 rfl _ _ w.heap.size 24 #[.int .i64 0, .int .i64 0, .int .i64 0, .int .i64 0, .slice none 0 0, .int .i64 0, .bool false] (0, 0) _ rfl (row7_set _ _ _ _ _ _ _ _ _ _ _ _ _ _ _ _ _ HRW.out) Try.underlying24 rfl (by kernel_rfl)) rfl (HBD.out _ _ rfl (set7_below (HUP.out _ HB.out) (Nat.le_refl _)))
      have hbig' : ¬ (65535 : Int) < ((datL cs).length : Int) := by omega
      have HJ0 : Hid (jnE cs = 0) := by show _ = _; rw [HJE.out, if_neg hbig]
      have HJC : Hid (jnC cs = { cs.getD (cs.length - 1) default with data := datL cs, long := (cs.getD (cs.length - 1) default).long || decide (255 < (datL cs).length) }) := by show _ = _; unfold jnC; rw [if_pos HJ0.out]
      obtain ⟨m, hm⟩ : ∃ m, cs.length = m + 1 := ⟨cs.length - 1, by omega⟩
      have HM1 : Hid (cs.length - 1 = m) := by show _ = _; omega
      rw [HM1.out] at HJC
      have i7 : (cs.length : Int) - 1 = (m : Int) := by omega
      have HCM := Lib.hid (fun W hW => HCU.out W hW m (by omega))
      have HLB : Hid (cs.length = m + 1) := hm
      obtain ⟨Am, cm, hUm⟩ := HUF.out m (by omega)
      rw [hUm] at HCM
      clear hm hUm
      generalize cs.getD m default = C at *
      obtain ⟨cla, ins, p1, p2, d, le, lg⟩ := C
      simp only at HCM HJC
      obtain ⟨c0, c1, c2, c3, c4, c5, c6⟩ := HCM.out _ (HUP.out _ HB.out)
      have i9 : (0 : Int) ≤ (m : Int) := by omega
      have i10 : (m : Int) < (cs.length : Int) := by have := HLB.out; omega
      cases lg with
      | true =>
        clear z0 z1 z2 z3 z4 z5 z6 y0 y1 y2 y3 y4 y5 y6
        have hba := alloc_below wr (.cells #[.int .i64 cla, .int .i64 ins, .int .i64 p1, .int .i64 p2, .slice At (datL cs).length ct, .int .i64 le, .bool true] 24)
        have hrr := (hba.block _ (lt_row HRW.out)).trans HRW.out
        have z0 := cell_of_row _ _ 0 _ _ _ hrr
        have z1 := cell_of_row _ _ 1 _ _ _ hrr
        have z2 := cell_of_row _ _ 2 _ _ _ hrr
        have z3 := cell_of_row _ _ 3 _ _ _ hrr
        have z4 := cell_of_row _ _ 4 _ _ _ hrr
        have z5 := cell_of_row _ _ 5 _ _ _ hrr
        have z6 := cell_of_row _ _ 6 _ _ _ hrr
        have y0 := frozen_of_row _ _ 0 _ _ hrr
        have y1 := frozen_of_row _ _ 1 _ _ hrr
        have y2 := frozen_of_row _ _ 2 _ _ hrr
        have y3 := frozen_of_row _ _ 3 _ _ hrr
        have y4 := frozen_of_row _ _ 4 _ _ hrr
        have y5 := frozen_of_row _ _ 5 _ _ hrr
        have y6 := frozen_of_row _ _ 6 _ _ hrr
        have HRR1 := Lib.hid hrr
        have hb1 := HB.out.trans (hba.mono (show w.heap.size + 1 ≤ wr.heap.size by have := HB.out.size; have := HZ0.out; omega))
        have HBB1 := Lib.hid hb1
        have HOO1 := Lib.hid (HO.out.later hba)
        clear hba hrr hb1
        go_wp2_with fail
        refine bodyPost_ret (results_cell2 rfl _ _ w.heap.size 24 #[.int .i64 cla, .int .i64 ins, .int .i64 p1, .int .i64 p2, .slice At (datL cs).length ct, .int .i64 le, .bool true] (0, 0) _ rfl (row7_set _ _ _ _ _ _ _ _ _ _ _ _ _ _ _ _ _ HRR1.out) Try.underlying24 rfl (by kernel_rfl)) rfl ?_
        exact jn_good (C := ⟨cla, ins, p1, p2, datL cs, le, true⟩) HJ0.out (by rw [HJC.out]; rfl) (ob7 HOO1.out (Nat.lt_succ_self _)).sl (set7_below (HUP.out _ HBB1.out) (Nat.le_refl _))
      | false =>
        by_cases h255 : 255 < (datL cs).length
        · have h255' : (255 : Int) < ((datL cs).length : Int) := by omega
          clear z0 z1 z2 z3 z4 z5 z6 y0 y1 y2 y3 y4 y5 y6
          have hba := alloc_below wr (.cells #[.int .i64 cla, .int .i64 ins, .int .i64 p1, .int .i64 p2, .slice At (datL cs).length ct, .int .i64 le, .bool true] 24)
          have hrr := (hba.block _ (lt_row HRW.out)).trans HRW.out
          have z0 := cell_of_row _ _ 0 _ _ _ hrr
          have z1 := cell_of_row _ _ 1 _ _ _ hrr
          have z2 := cell_of_row _ _ 2 _ _ _ hrr
          have z3 := cell_of_row _ _ 3 _ _ _ hrr
          have z4 := cell_of_row _ _ 4 _ _ _ hrr
          have z5 := cell_of_row _ _ 5 _ _ _ hrr
          have z6 := cell_of_row _ _ 6 _ _ _ hrr
          have y0 := frozen_of_row _ _ 0 _ _ hrr
          have y1 := frozen_of_row _ _ 1 _ _ hrr
          have y2 := frozen_of_row _ _ 2 _ _ hrr
          have y3 := frozen_of_row _ _ 3 _ _ hrr
          have y4 := frozen_of_row _ _ 4 _ _ hrr
          have y5 := frozen_of_row _ _ 5 _ _ hrr
          have y6 := frozen_of_row _ _ 6 _ _ hrr
          have HRR1 := Lib.hid hrr
          have hb1 := HB.out.trans (hba.mono (show w.heap.size + 1 ≤ wr.heap.size by have := HB.out.size; have := HZ0.out; omega))
          have HBB1 := Lib.hid hb1
          have HOO1 := Lib.hid (HO.out.later hba)
          clear hba hrr hb1
          go_wp2_with fail
          refine bodyPost_ret (results_cell2 rfl _ _ w.heap.size 24 #[.int .i64 cla, .int .i64 ins, .int .i64 p1, .int .i64 p2, .slice At (datL cs).length ct, .int .i64 le, .bool true] (0, 0) _ rfl (row7_set _ _ _ _ _ _ _ _ _ _ _ _ _ _ _ _ _ HRR1.out) Try.underlying24 rfl (by kernel_rfl)) rfl ?_
          exact jn_good (C := ⟨cla, ins, p1, p2, datL cs, le, true⟩) HJ0.out (by rw [HJC.out]; simp [h255]) (ob7 HOO1.out (Nat.lt_succ_self _)).sl (set7_below (HUP.out _ HBB1.out) (Nat.le_refl _))
        · have h255' : ¬ (255 : Int) < ((datL cs).length : Int) := by omega
          clear z0 z1 z2 z3 z4 z5 z6 y0 y1 y2 y3 y4 y5 y6
          have hba := alloc_below wr (.cells #[.int .i64 cla, .int .i64 ins, .int .i64 p1, .int .i64 p2, .slice At (datL cs).length ct, .int .i64 le, .bool false] 24)
          have hrr := (hba.block _ (lt_row HRW.out)).trans HRW.out
          have z0 := cell_of_row _ _ 0 _ _ _ hrr
          have z1 := cell_of_row _ _ 1 _ _ _ hrr
          have z2 := cell_of_row _ _ 2 _ _ _ hrr
          have z3 := cell_of_row _ _ 3 _ _ _ hrr
          have z4 := cell_of_row _ _ 4 _ _ _ hrr
          have z5 := cell_of_row _ _ 5 _ _ _ hrr
          have z6 := cell_of_row _ _ 6 _ _ _ hrr
          have y0 := frozen_of_row _ _ 0 _ _ hrr
          have y1 := frozen_of_row _ _ 1 _ _ hrr
          have y2 := frozen_of_row _ _ 2 _ _ hrr
          have y3 := frozen_of_row _ _ 3 _ _ hrr
          have y4 := frozen_of_row _ _ 4 _ _ hrr
          have y5 := frozen_of_row _ _ 5 _ _ hrr
          have y6 := frozen_of_row _ _ 6 _ _ hrr
          have HRR1 := Lib.hid hrr
          have hb1 := HB.out.trans (hba.mono (show w.heap.size + 1 ≤ wr.heap.size by have := HB.out.size; have := HZ0.out; omega))
          have HBB1 := Lib.hid hb1
          have HOO1 := Lib.hid (HO.out.later hba)
          clear hba hrr hb1
          have hq : decide ((255 : Int) < ((datL cs).length : Int)) = false := decide_eq_false h255'
          go_wp2_with fail
          refine bodyPost_ret (results_cell2 rfl _ _ w.heap.size 24 #[.int .i64 cla, .int .i64 ins, .int .i64 p1, .int .i64 p2, .slice At (datL cs).length ct, .int .i64 le, .bool false] (0, 0) _ rfl (row7_set _ _ _ _ _ _ _ _ _ _ _ _ _ _ _ _ _ HRR1.out) Try.underlying24 rfl (by kernel_rfl)) rfl ?_
          exact jn_good (C := ⟨cla, ins, p1, p2, datL cs, le, false⟩) HJ0.out (by rw [HJC.out]; simp [h255]) (ob7 HOO1.out (Nat.lt_succ_self _)).sl (set7_below (HUP.out _ HBB1.out) (Nat.le_refl _))
    have hlt' : (k' : Int) < (cs.length : Int) := by omega
    have HJS : Hid (jnK cs (k' + 1) = prtE (cs.getD k' default) (cs.getD 0 default) (decide (k' + 1 = cs.length))) := by
      show _ = _
      simp only [jnK]
      rw [if_pos HJ.out]
    have HLK2 := Lib.hid (HLK.out _ (HUP.out _ HB.out) k' hlt)
    generalize prtE (cs.getD k' default) (cs.getD 0 default) (decide (k' + 1 = cs.length)) = PE at *
    have HDS := Lib.hid (datK_succ hlt)
    have HDL : Hid (jnK cs (k' + 1) = 0 → (datK cs (k' + 1)).length ≤ 50000000) := HSB.out (k' + 1) (by omega)
    obtain ⟨Ak, ck, hUk⟩ := HUF.out k' hlt
    have HCK := Lib.hid (fun W hW => HCU.out W hW k' hlt)
    have HSK := Lib.hid (fun W hW => HSU.out W hW k' hlt)
    rw [hUk] at HCK HSK
    clear hUk
    generalize cs.getD k' default = C at *
    obtain ⟨cla, ins, p1, p2, d, le, lg⟩ := C
    simp only at HCK HDS HSK
    go_wp2_with fail
    refine HLK2.out.mono ?_
    rintro e w5 ⟨rfl, hb5⟩
    have HB5 := Lib.hid (HB.out.trans (hb5.mono (by have := HB.out.size; have := HZ0.out; omega)))
    have HO5 := Lib.hid (HO.out.later hb5)
    clear hb5
    by_cases hPE : PE = 0
    case neg =>
      have hne : (PE != 0) = true := by rw [bne_iff_ne]; exact hPE
      have hJ : jnK cs cs.length = PE := by rw [jnK_bad (k := k' + 1) (by rw [HJS.out]; exact hPE) (by omega), HJS.out]
      have hE : jnE cs = PE := by unfold jnE; rw [if_neg (by omega), if_neg (by rw [hJ]; exact hPE), hJ]
      have HBD := Lib.hid (fun (w' : World) (e : Ending) => jn_bad (cs := cs) (w := w) (w' := w') (e := e) PE hE hPE)
      have hrr := HRR.out _ HB5.out
      have z0 := cell_of_row _ _ 0 _ _ _ hrr
      have z1 := cell_of_row _ _ 1 _ _ _ hrr
      have z2 := cell_of_row _ _ 2 _ _ _ hrr
      have z3 := cell_of_row _ _ 3 _ _ _ hrr
      have z4 := cell_of_row _ _ 4 _ _ _ hrr
      have z5 := cell_of_row _ _ 5 _ _ _ hrr
      have z6 := cell_of_row _ _ 6 _ _ _ hrr
      have y0 := frozen_of_row _ _ 0 _ _ hrr
      have y1 := frozen_of_row _ _ 1 _ _ hrr
      have y2 := frozen_of_row _ _ 2 _ _ hrr
      have y3 := frozen_of_row _ _ 3 _ _ hrr
      have y4 := frozen_of_row _ _ 4 _ _ hrr
      have y5 := frozen_of_row _ _ 5 _ _ hrr
      have y6 := frozen_of_row _ _ 6 _ _ hrr
      have HRW5 := Lib.hid hrr
      clear hrr hJ hE
      go_wp2_with fail
      exact bodyPost_ret (results_cell2 rfl _ _ w.heap.size 24 #[.int .i64 0, .int .i64 0, .int .i64 0, .int .i64 0, .slice none 0 0, .int .i64 0, .bool false] (0, 0) _ rfl (row7_set _ _ _ _ _ _ _ _ _ _ _ _ _ _ _ _ _ HRW5.out) Try.underlying24 rfl (by kernel_rfl)) rfl (HBD.out _ _ rfl (set7_below (HUP.out _ HB5.out) (Nat.le_refl _)))
    subst hPE
    obtain ⟨c0, c1, c2, c3, c4, c5, c6⟩ := HCK.out _ (HUP.out _ HB5.out)
    have hds : datK cs (k' + 1) = datK cs k' ++ d := HDS.out
    have hdl := HDL.out HJS.out
    have hln : (datK cs (k' + 1)).length = (datK cs k').length + d.length := by rw [hds, List.length_append]
    have HDS2 := Lib.hid hds
    have hsz5 : w.heap.size + 1 ≤ w5.heap.size := by have := HB5.out.size; have := HZ0.out; omega
    have HLM : Hid ((datK cs k').length + d.length ≤ 100000000) := by show _ ≤ _; omega
    have HSZ := Lib.hid hsz5
    clear hds hdl hln hsz5
    go_wp2_with (at_builtin; go_loud (refine wpList_appS (by rfl) (.tmp 25) (.tmp 30) (by rfl) w5 (w.heap.size + 1) _ (datK cs k') d Ak ck rfl rfl (Below.refl _ _) HO5.out (slr7 (HSK.out _ (HUP.out _ HB5.out))) HLM.out HSZ.out ?_; intro v8 w8 hv8 hb8))
    go_roundw
    case rel => exact ⟨k' + 1, by omega, by go_num, HJS.out, HB5.out.trans hb8, by show OB _ _ _ _; rw [HDS2.out]; exact hv8⟩
    case measure => simp [intOf]; omega
end Go.Proofs.Ytjoibonbmalbdaa
