/-
  The walks of DecodeResponse, of the program and of the reference, for any bytes.
-/
import Derived.Test.YtjoibonbmalbdaaRsd
import Derived.Test.YtjoibonbmalbdaaRne
import Derived.RegionTactic
import Derived.ChangeAlike
namespace Go.Proofs.Ytjoibonbmalbdaa
set_option linter.unusedVariables false
set_option linter.unusedSimpArgs false
open Go.RowKit

def swL (l : List UInt8) : Nat := numL (l.drop (l.length - 2))
def drE (l : List UInt8) : Int := if l.length < 2 then 5 else if 65538 < l.length then 3 else if wordB (swL l : Int) = true then 0 else 2
def drV (l : List UInt8) : List UInt8 × Int := if drE l = 0 then (l.take (l.length - 2), (swL l : Int)) else ([], 0)
def DrR (l : List UInt8) (w : World) (e : Ending) (w' : World) : Prop :=
  ∃ d, e = .returned (.tuple #[.agg #[d, .int .i64 (drV l).2], .int .i64 (drE l)]) ∧ SL w' w'.heap.size d (drV l).1 ∧ Below w.heap.size w w'
theorem drV_no {l : List UInt8} (h : drE l ≠ 0) : drV l = ([], 0) := by rw [drV, if_neg h]
theorem putL_two {m : List UInt8} (h : m.length = 2) : putL (numL m) 2 = m ∧ numL m < 65536 := by
  match m, h with
  | [x, y], _ =>
    have hx := x.toNat_lt
    have hy := y.toNat_lt
    have e : numL [x, y] = x.toNat * 256 + y.toNat := by simp [numL]
    rw [e]
    refine ⟨?_, by omega⟩
    simp only [putL, List.cons.injEq, and_true]
    refine ⟨?_, ?_⟩
    · apply UInt8.toNat_inj.1
      simp
      omega
    · apply UInt8.toNat_inj.1
      simp

set_option maxRecDepth 100000 in
theorem pdr_few (l : List UInt8) (v : Value) (w : World) (h : SL w w.heap.size v l) (h2 : l.length < 2) : Calls Try.prog 21 #[v] w (DrR l w) := by
  have HE : Hid (drE l = 5) := by show _ = _; rw [drE, if_pos h2]
  have HV : Hid (drV l = ([], 0)) := drV_no (by rw [HE.out]; decide)
  obtain ⟨A, c, rfl, k1, k2, k3⟩ := h
  clear k3
  go_enter Try.func21, Try.ntmps21
  go_wp2_with fail
  exact bodyPost_ret (results_cell2 rfl _ _ w.heap.size 36 _ (0, 0) _ rfl (heap_alloc_new w _) Try.underlying36 rfl (by kernel_rfl)) rfl ⟨.slice none 0 0, by rw [HE.out, HV.out]; rfl, by rw [HV.out]; exact SL.nil _ _ _ _ (Nat.zero_le _), alloc_below _ _⟩
set_option maxRecDepth 100000 in
theorem pdr_long (l : List UInt8) (v : Value) (w : World) (h : SL w w.heap.size v l) (h2 : 65538 < l.length) : Calls Try.prog 21 #[v] w (DrR l w) := by
  have HE : Hid (drE l = 3) := by show _ = _; rw [drE, if_neg (by omega), if_pos h2]
  have HV : Hid (drV l = ([], 0)) := drV_no (by rw [HE.out]; decide)
  obtain ⟨A, c, rfl, k1, k2, k3⟩ := h
  have h3 : 2 ≤ l.length := by omega
  clear k3
  go_enter Try.func21, Try.ntmps21
  go_wp2_with fail
  exact bodyPost_ret (results_cell2 rfl _ _ w.heap.size 36 _ (0, 0) _ rfl (heap_alloc_new w _) Try.underlying36 rfl (by kernel_rfl)) rfl ⟨.slice none 0 0, by rw [HE.out, HV.out]; rfl, by rw [HV.out]; exact SL.nil _ _ _ _ (Nat.zero_le _), alloc_below _ _⟩

set_option maxRecDepth 100000 in
theorem rdr_few (l : List UInt8) (v : Value) (w : World) (h : SL w w.heap.size v l) (h2 : l.length < 2) : Calls Try.prog 22 #[v] w (DrR l w) := by
  have HE : Hid (drE l = 5) := by show _ = _; rw [drE, if_pos h2]
  have HV : Hid (drV l = ([], 0)) := drV_no (by rw [HE.out]; decide)
  obtain ⟨A, c, rfl, k1, k2, k3⟩ := h
  clear k3
  go_enter Try.func22, Try.ntmps22
  go_wp2_with fail
  exact bodyPost_ret (results_cell2 rfl _ _ w.heap.size 36 _ (0, 0) _ rfl (heap_alloc_new w _) Try.underlying36 rfl (by kernel_rfl)) rfl ⟨.slice none 0 0, by rw [HE.out, HV.out]; rfl, by rw [HV.out]; exact SL.nil _ _ _ _ (Nat.zero_le _), alloc_below _ _⟩
set_option maxRecDepth 100000 in
theorem rdr_long (l : List UInt8) (v : Value) (w : World) (h : SL w w.heap.size v l) (h2 : 65538 < l.length) : Calls Try.prog 22 #[v] w (DrR l w) := by
  have HE : Hid (drE l = 3) := by show _ = _; rw [drE, if_neg (by omega), if_pos h2]
  have HV : Hid (drV l = ([], 0)) := drV_no (by rw [HE.out]; decide)
  obtain ⟨A, c, rfl, k1, k2, k3⟩ := h
  have h3 : 2 ≤ l.length := by omega
  clear k3
  go_enter Try.func22, Try.ntmps22
  go_wp2_with fail
  exact bodyPost_ret (results_cell2 rfl _ _ w.heap.size 36 _ (0, 0) _ rfl (heap_alloc_new w _) Try.underlying36 rfl (by kernel_rfl)) rfl ⟨.slice none 0 0, by rw [HE.out, HV.out]; rfl, by rw [HV.out]; exact SL.nil _ _ _ _ (Nat.zero_le _), alloc_below _ _⟩

set_option maxRecDepth 100000 in
set_option maxHeartbeats 800000 in
theorem pdr_bad (l : List UInt8) (v : Value) (w : World) (h : SL w w.heap.size v l) (n : Nat) (hn : l.length = n + 2) (hl : l.length ≤ 65538) (hw : wordB (swL l : Int) = false) : Calls Try.prog 21 #[v] w (DrR l w) := by
  have HE : Hid (drE l = 2) := by show _ = _; rw [drE, if_neg (by omega), if_neg (by omega), hw]; rfl
  have HV : Hid (drV l = ([], 0)) := drV_no (by rw [HE.out]; decide)
  have HS := Lib.hid h
  obtain ⟨A, c, rfl, k1, k2, k3⟩ := h
  unfold maxLen at k2
  obtain ⟨b, o, rfl, _, _⟩ := k3 (by omega)
  have hcut := HS.out.cut (n := n) (by omega)
  have e1 : l.length - 2 = n := by omega
  have hsw : swL l = numL (l.drop n) := by rw [swL, e1]
  rw [hsw] at hw
  have HW := fun W : World => pword_any (numL (l.drop n) : Int) W
  rw [hw] at HW
  have hg := fun (W : World) (hW : Below w.heap.size w W) => pget_any (l.drop n) _ W _ (hcut.on hW)
  obtain ⟨g1, g2, g3⟩ := getN_small (l.drop n) (by rw [List.length_drop]; omega)
  rw [g1, g2] at hg
  have HW2 := Lib.hid HW
  have HG2 := Lib.hid hg
  have HN := Lib.hid hn
  clear HW hg g1 g2 g3 hcut hw hsw e1 k3
  generalize numL (l.drop n) = sw at *
  generalize hM : l.length = M at *
  have q1 : ¬ (M : Int) < 2 := by omega
  have q2 : ¬ 65538 < (M : Int) := by omega
  have q3 : (M : Int) - 2 = (n : Int) := by omega
  have q4 : n ≤ M := by omega
  have q5 : n ≤ c := by omega
  have q6 : ¬ c = n := by omega
  clear hn hM hl
  go_enter Try.func21, Try.ntmps21
  go_wp2_with fail
  refine (HG2.out _ (alloc_below _ _)).mono ?_
  rintro e w1 ⟨rfl, rfl⟩
  go_wp2_with fail
  refine (HW2.out _).mono ?_
  rintro e w1 ⟨rfl, rfl⟩
  go_wp2_with fail
  exact bodyPost_ret (results_cell2 rfl _ _ w.heap.size 36 _ (0, 0) _ rfl (heap_alloc_new w _) Try.underlying36 rfl (by kernel_rfl)) rfl ⟨.slice none 0 0, by rw [HE.out, HV.out]; rfl, by rw [HV.out]; exact SL.nil _ _ _ _ (Nat.zero_le _), alloc_below _ _⟩
theorem pdr_any (l : List UInt8) (v : Value) (w : World) (h : SL w w.heap.size v l) : Calls Try.prog 21 #[v] w (DrR l w) := by
  by_cases h2 : l.length < 2
  · exact pdr_few l v w h h2
  by_cases h3 : 65538 < l.length
  · exact pdr_long l v w h h3
  cases hw : wordB (swL l : Int)
  · exact pdr_bad l v w h (l.length - 2) (by omega) (by omega) hw
  · have HE : drE l = 0 := by rw [drE, if_neg h2, if_neg h3, if_pos hw]
    have HV : drV l = (l.take (l.length - 2), (swL l : Int)) := by rw [drV, if_pos HE]
    obtain ⟨e1, e2⟩ := putL_two (m := l.drop (l.length - 2)) (by rw [List.length_drop]; omega)
    have hsplit : l.take (l.length - 2) ++ putL (swL l) 2 = l := by rw [swL, e1, List.take_append_drop]
    have := pdecr_good (l.take (l.length - 2)) (swL l) v w (by rw [hsplit]; exact h) (by rw [List.length_take]; omega) hw
    refine this.mono ?_
    rintro e w' ⟨d, h1, h2, h3⟩
    exact ⟨d, by rw [HE, HV]; exact h1, by rw [HV]; exact h2, h3⟩

set_option maxRecDepth 100000 in
set_option maxHeartbeats 800000 in
theorem rdr_bad (l : List UInt8) (v : Value) (w : World) (h : SL w w.heap.size v l) (n : Nat) (hn : l.length = n + 2) (hl : l.length ≤ 65538) (hw : wordB (swL l : Int) = false) : Calls Try.prog 22 #[v] w (DrR l w) := by
  have HE : Hid (drE l = 2) := by show _ = _; rw [drE, if_neg (by omega), if_neg (by omega), hw]; rfl
  have HV : Hid (drV l = ([], 0)) := drV_no (by rw [HE.out]; decide)
  have HS := Lib.hid h
  obtain ⟨A, c, rfl, k1, k2, k3⟩ := h
  unfold maxLen at k2
  obtain ⟨b, o, rfl, hbl, hc⟩ := k3 (by omega)
  have e1 : l.length - 2 = n := by omega
  have g1 := hc n (by omega)
  have g2 := hc (n + 1) (by omega)
  have y1 := (l.getD n 0).toNat_lt
  have y2 := (l.getD (n + 1) 0).toNat_lt
  have hdr : l.drop n = [l.getD n 0, l.getD (n + 1) 0] := by
    rw [drop_getD l n (by omega), drop_getD l (n + 1) (by omega), List.drop_eq_nil_of_le (show l.length ≤ n + 1 + 1 by omega)]
  have hsw : swL l = 256 * (l.getD n 0).toNat + (l.getD (n + 1) 0).toNat := by
    rw [swL, e1, hdr]
    simp [numL]
    omega
  rw [hsw] at hw
  have HW := fun W : World => rword_any ((256 * (l.getD n 0).toNat + (l.getD (n + 1) 0).toNat : Nat) : Int) W
  rw [hw] at HW
  have HC := Lib.hid hc
  generalize (l.getD n 0).toNat = x at *
  generalize (l.getD (n + 1) 0).toNat = y at *
  have hs : (256 * (x : Int) + (y : Int)) = ((256 * x + y : Nat) : Int) := by omega
  have HSM := Lib.hid hs
  have HW2 := Lib.hid HW
  clear HW hw hsw e1 hdr k3 hs hc
  generalize hMM : l.length = L at *
  have q1 : ¬ (L : Int) < 2 := by omega
  have q2 : ¬ 65538 < (L : Int) := by omega
  have q3 : (L : Int) - 2 = (n : Int) := by omega
  have i0 : (0 : Int) ≤ (n : Int) := by omega
  have i1 : (n : Int) < (L : Int) := by omega
  have i2 : (n : Int) + 1 < (L : Int) := by omega
  have i3 : n ≤ L := by omega
  have i4 : n ≤ 65536 := by omega
  have i5 : n ≤ c := by omega
  clear hn hMM hl
  go_enter Try.func22, Try.ntmps22
  go_wp2_with fail
  go_region
  rw [HSM.out]
  go_wp2_with fail
  refine (HW2.out _).mono ?_
  rintro e w1 ⟨rfl, rfl⟩
  go_wp2_with fail
  exact bodyPost_ret (results_cell2 rfl _ _ w.heap.size 36 _ (0, 0) _ rfl (heap_alloc_new w _) Try.underlying36 rfl (by kernel_rfl)) rfl ⟨.slice none 0 0, by rw [HE.out, HV.out]; rfl, by rw [HV.out]; exact SL.nil _ _ _ _ (Nat.zero_le _), by first | exact (alloc_below _ _).drew | exact alloc_below _ _⟩
set_option maxRecDepth 100000 in
set_option maxHeartbeats 1600000 in
theorem rdr_good (l : List UInt8) (v : Value) (w : World) (h : SL w w.heap.size v l) (n : Nat) (hn : l.length = n + 2) (hl : l.length ≤ 65538) (hw : wordB (swL l : Int) = true) : Calls Try.prog 22 #[v] w (DrR l w) := by
  have HE : Hid (drE l = 0) := by show _ = _; rw [drE, if_neg (by omega), if_neg (by omega), if_pos hw]
  have HV0 : drV l = (l.take n, (swL l : Int)) := by rw [drV, if_pos HE.out, show l.length - 2 = n from by omega]
  have HS := Lib.hid h
  obtain ⟨A, c, rfl, k1, k2, k3⟩ := h
  unfold maxLen at k2
  obtain ⟨b, o, rfl, hbl, hc⟩ := k3 (by omega)
  have e1 : l.length - 2 = n := by omega
  have g1 := hc n (by omega)
  have g2 := hc (n + 1) (by omega)
  have y1 := (l.getD n 0).toNat_lt
  have y2 := (l.getD (n + 1) 0).toNat_lt
  have hdr : l.drop n = [l.getD n 0, l.getD (n + 1) 0] := by
    rw [drop_getD l n (by omega), drop_getD l (n + 1) (by omega), List.drop_eq_nil_of_le (show l.length ≤ n + 1 + 1 by omega)]
  have hsw : swL l = 256 * (l.getD n 0).toNat + (l.getD (n + 1) 0).toNat := by
    rw [swL, e1, hdr]
    simp [numL]
    omega
  rw [hsw] at hw
  have HW := fun W : World => rword_any ((256 * (l.getD n 0).toNat + (l.getD (n + 1) 0).toNat : Nat) : Int) W
  rw [hw] at HW
  have HC := Lib.hid hc
  rw [hsw] at HV0
  obtain ⟨M, hM⟩ : ∃ M, M = l.take n := ⟨_, rfl⟩
  have hML : M.length = n := by rw [hM, List.length_take]; omega
  have hreads : ∀ W : World, Below w.heap.size w W → 0 < M.length → ∃ b' o', (some ⟨b, o, none⟩ : Option Addr) = some ⟨b', o', none⟩ ∧ ∀ k, k < M.length → W.cell? ⟨b', o' + k, none⟩ = some (.int .u8 ((M.getD k 0).toNat : Int)) := by
    intro W hW hp'
    refine ⟨b, o, rfl, fun k hk => ?_⟩
    rw [(hW.cell (p := ⟨b, o + k, none⟩) hbl), HC.out k (by omega), hM]
    simp [List.getD, List.getElem?_take, show k < n by omega]
  rw [← hM] at HV0
  generalize (l.getD n 0).toNat = x at *
  generalize (l.getD (n + 1) 0).toNat = y at *
  have hs : (256 * (x : Int) + (y : Int)) = ((256 * x + y : Nat) : Int) := by omega
  have HSM := Lib.hid hs
  have HW2 := Lib.hid HW
  have HV := Lib.hid HV0
  have hmade := OB.made (w.alloc (.cells #[.slice none 0 0, .int .i64 0] 36))
  rw [alloc_size] at hmade
  have HMADE := Lib.hid hmade
  have HREADS := Lib.hid hreads
  have HML := Lib.hid hML
  have H3 : Hid (Below w.heap.size w ((w.alloc (.cells #[.slice none 0 0, .int .i64 0] 36)).alloc (.cells #[] 5))) := (alloc_below w _).alloc (by rw [alloc_size]; omega) _
  have HSZ : Hid (((w.alloc (.cells #[.slice none 0 0, .int .i64 0] 36)).alloc (.cells #[] 5)).heap.size = w.heap.size + 1 + 1) := by show _ = _; rw [alloc_size, alloc_size]
  have HR : Hid (((w.alloc (.cells #[.slice none 0 0, .int .i64 0] 36)).alloc (.cells #[] 5)).heap[w.heap.size]? = some (.cells #[.slice none 0 0, .int .i64 0] 36 (0, 0))) := heap_alloc2_old w _ _
  generalize ((256 * x + y : Nat) : Int) = sw at *
  clear HW hw hsw e1 hdr k3 hs hc HV0 hM hML hreads hmade
  generalize hMM : l.length = L at *
  have q1 : ¬ (L : Int) < 2 := by omega
  have q2 : ¬ 65538 < (L : Int) := by omega
  have q3 : (L : Int) - 2 = (n : Int) := by omega
  have i0 : (0 : Int) ≤ (n : Int) := by omega
  have i1 : (n : Int) < (L : Int) := by omega
  have i2 : (n : Int) + 1 < (L : Int) := by omega
  have i3 : n ≤ L := by omega
  have i4 : n ≤ 65536 := by omega
  have i5 : n ≤ c := by omega
  clear hn hMM hl
  have hMn : M.length ≤ 80000 := by have := HML.out; omega
  go_enter Try.func22, Try.ntmps22
  go_wp2_with fail
  go_region
  rw [HSM.out]
  go_wp2_with fail
  refine (HW2.out _).mono ?_
  rintro e w1 ⟨rfl, rfl⟩
  go_wp2_with (at_builtin; go_loud (refine wpList_appS rfl (.tmp 34) (.tmp 37) rfl ((w.alloc (.cells #[.slice none 0 0, .int .i64 0] 36)).alloc (.cells #[] 5)) (w.heap.size + 1) _ [] M (some ⟨b, o, none⟩) c rfl (by rw [HML.out]; rfl) (by first | exact Below.refl _ _ | exact (Below.refl _ _).drew) HMADE.out (by first | exact fun hp' => HREADS.out _ H3.out hp' | exact fun hp' => HREADS.out _ H3.out.drew hp') (by simp only [List.length_nil]; omega) (by rw [HSZ.out]; omega) ?_; intro v3 w3 hv3 hb3; have hz1 := (hb3.block _ (by omega)).trans HR.out; have HV3 := Lib.hid hv3; have HW3 := Lib.hid (H3.out.trans (hb3.mono (by omega))); obtain ⟨A3, c3, rfl⟩ := hv3.value; clear hv3 hb3; have p0 := cell_of_row _ _ 0 _ _ _ hz1; have p1 := cell_of_row _ _ 1 _ _ _ hz1; have f0 := frozen_of_row _ _ 0 _ _ hz1; have f1 := frozen_of_row _ _ 1 _ _ hz1; have HZ := Lib.hid hz1; clear hz1))
  refine bodyPost_ret (results_cell2 rfl _ _ w.heap.size 36 _ (0, 0) _ rfl (row2_set _ _ _ _ _ _ _ HZ.out) Try.underlying36 rfl (by kernel_rfl)) rfl ?_
  exact ⟨_, by rw [HE.out, HV.out]; rfl, by rw [HV.out]; exact (ob_set (ob_set HV3.out (by omega)) (by omega)).sl, (HW3.out.setCell (p := ⟨w.heap.size, 0, none⟩) (Nat.le_refl _) _).setCell (p := ⟨w.heap.size, 1, none⟩) (Nat.le_refl _) _⟩
theorem rdr_any (l : List UInt8) (v : Value) (w : World) (h : SL w w.heap.size v l) : Calls Try.prog 22 #[v] w (DrR l w) := by
  by_cases h2 : l.length < 2
  · exact rdr_few l v w h h2
  by_cases h3 : 65538 < l.length
  · exact rdr_long l v w h h3
  cases hw : wordB (swL l : Int)
  · exact rdr_bad l v w h (l.length - 2) (by omega) (by omega) hw
  · exact rdr_good l v w h (l.length - 2) (by omega) (by omega) hw
end Go.Proofs.Ytjoibonbmalbdaa
