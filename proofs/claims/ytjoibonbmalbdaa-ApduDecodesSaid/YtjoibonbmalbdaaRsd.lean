/-
  The walks of the program's DecodeResponse where EncodeResponse wrote, and of the reference's SameResponse of equals.
-/
import Derived.Test.YtjoibonbmalbdaaRsp
namespace Go.Proofs.Ytjoibonbmalbdaa
set_option linter.unusedVariables false
set_option linter.unusedSimpArgs false
open Go.RowKit

theorem ob_set {w : World} {base g0 i : Nat} {v x : Value} {l : List UInt8} (h : OB w base v l) (hlt : g0 < base) : OB (w.setCell ⟨g0, i, none⟩ x) base v l := by
  obtain ⟨h1, h2⟩ := h
  refine ⟨h1, ?_⟩
  rcases h2 with h2 | ⟨g, cap, cur, hv, hg, hh, r⟩
  · exact .inl h2
  · refine .inr ⟨g, cap, cur, hv, hg, ?_, r⟩
    rw [heap_setCell_other _ _ _ _ (by simp; omega)]
    exact hh
theorem row2_set (w : World) (g : Nat) (ty : TypeId) (a0 a1 x0 x1 : Value) (hg : w.heap[g]? = some (.cells #[a0, a1] ty (0, 0))) :
    ((w.setCell ⟨g, 0, none⟩ x0).setCell ⟨g, 1, none⟩ x1).heap[g]? = some (.cells #[x0, x1] ty (0, 0)) := by
  have h0 := heap_setCell_same w g 0 _ ty x0 hg
  have h1 := heap_setCell_same _ g 1 _ ty x1 h0
  rw [h1]
  simp

set_option maxRecDepth 100000 in
set_option maxHeartbeats 800000 in
theorem pdecr_good (l : List UInt8) (N : Nat) (v : Value) (w : World) (h : SL w w.heap.size v (l ++ putL N 2)) (hl : l.length ≤ 65536) (hw : wordB (N : Int) = true) :
    Calls Try.prog 21 #[v] w fun e w' => ∃ v', e = .returned (.tuple #[.agg #[v', .int .i64 (N : Int)], .int .i64 0]) ∧ SL w' w'.heap.size v' l ∧ Below w.heap.size w w' := by
  obtain ⟨r0, r1⟩ := wordB_range hw
  have HW := Lib.hid (fun W : World => pword_any (N : Int) W)
  rw [hw] at HW
  have hlen : (l ++ putL N 2).length = l.length + 2 := by rw [List.length_append, putL_length]
  have htk : (l ++ putL N 2).take l.length = l := List.take_left ..
  have hdr : (l ++ putL N 2).drop l.length = putL N 2 := List.drop_left ..
  generalize l ++ putL N 2 = m at *
  have HS := Lib.hid h
  obtain ⟨A, c, rfl, k1, k2, k3⟩ := h
  unfold maxLen at k2
  obtain ⟨b, o, rfl, _, _⟩ := k3 (by omega)
  have hcut := HS.out.cut (n := l.length) (by omega)
  have htake := HS.out.take (m := l.length) (by omega)
  rw [hdr] at hcut
  rw [htk] at htake
  generalize hM : m.length = M at *
  generalize hn : l.length = n at *
  have HCUT := Lib.hid hcut
  have hg := fun (W : World) (hW : Below w.heap.size w W) => pget_any (putL N 2) _ W _ (HCUT.out.on hW)
  obtain ⟨g1, g2, g3⟩ := getN_small (putL N 2) (by rw [putL_length]; omega)
  rw [numL_putL, Nat.mod_eq_of_lt (by omega)] at g1
  rw [g1, g2] at hg
  have HG := Lib.hid hg
  have HT := Lib.hid htake
  have hcl := fun (W : World) (hW : Below w.heap.size w W) => pclone l _ W (HT.out.on hW) (by omega)
  have HC := Lib.hid hcl
  have q1 : ¬ (M : Int) < 2 := by omega
  have q2 : ¬ 65538 < (M : Int) := by omega
  have q3 : (M : Int) - 2 = (n : Int) := by omega
  have q4 : n ≤ M := by omega
  have q5 : n ≤ c := by omega
  have HN := Lib.hid hn
  have HB : Hid (Below w.heap.size w (w.alloc (.cells #[.slice none 0 0, .int .i64 0] 36))) := alloc_below _ _
  clear hw k3 hlen htk hdr hcut htake hg g1 g2 g3 hcl hn hM hl
  go_enter Try.func21, Try.ntmps21
  go_wp2_with fail
  refine (HG.out _ HB.out).mono ?_
  rintro e w1 ⟨rfl, rfl⟩
  go_wp2_with fail
  refine (HW.out _).mono ?_
  rintro e w1 ⟨rfl, rfl⟩
  go_wp2_with fail
  refine (HC.out _ HB.out).mono ?_
  rintro e w2 ⟨v2, rfl, hv2, hb2⟩
  have hz : w2.heap[w.heap.size]? = some (.cells #[.slice none 0 0, .int .i64 0] 36 (0, 0)) := (hb2.block w.heap.size (by rw [alloc_size]; omega)).trans (heap_alloc_new w _)
  have hw2 : Below w.heap.size w w2 := HB.out.trans (hb2.mono (by rw [alloc_size]; omega))
  have HW2 := Lib.hid hw2
  have HZ := Lib.hid hz
  rw [alloc_size] at hv2
  have HV2 := Lib.hid hv2
  obtain ⟨A2, c2, rfl⟩ := hv2.value
  have p0 := cell_of_row _ _ 0 _ _ _ hz
  have p1 := cell_of_row _ _ 1 _ _ _ hz
  have fz := fun j => frozen_of_row _ _ j _ _ hz
  have f0 := fz 0
  have f1 := fz 1
  clear hz hw2 fz hv2 hb2
  go_wp2_with fail
  refine bodyPost_ret (results_cell2 rfl _ _ w.heap.size 36 _ (0, 0) _ rfl (row2_set _ _ _ _ _ _ _ HZ.out) Try.underlying36 rfl (by kernel_rfl)) rfl ?_
  exact ⟨_, rfl, (ob_set (ob_set HV2.out (by omega)) (by omega)).sl, (HW2.out.setCell (p := ⟨w.heap.size, 0, none⟩) (Nat.le_refl _) _).setCell (p := ⟨w.heap.size, 1, none⟩) (Nat.le_refl _) _⟩

set_option maxRecDepth 100000 in
set_option maxHeartbeats 800000 in
theorem rsamer_true (l : List UInt8) (sw : Int) (v u : Value) (w : World) (ha : SL w w.heap.size v l) (hb : SL w w.heap.size u l) :
    Calls Try.prog 24 #[.agg #[v, .int .i64 sw], .agg #[u, .int .i64 sw]] w fun e w' => e = .returned (.bool true) ∧ Below w.heap.size w w' := by
  have HA := Lib.hid ha
  have HB := Lib.hid hb
  obtain ⟨A1, c1, rfl, _, _, _⟩ := ha
  obtain ⟨A2, c2, rfl, _, _, _⟩ := hb
  have hd := fun (W : World) (hW : Below w.heap.size w W) => rsame_any l l _ _ W _ (HA.out.on hW) (HB.out.on hW)
  rw [beq_self_eq_true] at hd
  have HD := Lib.hid hd
  clear hd
  have h2 : Below w.heap.size w ((w.alloc (.cells #[.slice A1 l.length c1, .int .i64 sw] 36)).alloc (.cells #[.slice A2 l.length c2, .int .i64 sw] 36)) :=
    (alloc_below w _).alloc (by rw [alloc_size]; omega) _
  have HW := Lib.hid h2
  clear h2
  go_enter Try.func24, Try.ntmps24
  go_wp2_with fail
  refine (HD.out _ HW.out).mono ?_
  rintro e w1 ⟨rfl, n1, rfl⟩
  go_wp2_with fail
  go_ret
  exact ⟨rfl, below_drewN HW.out _⟩
end Go.Proofs.Ytjoibonbmalbdaa
