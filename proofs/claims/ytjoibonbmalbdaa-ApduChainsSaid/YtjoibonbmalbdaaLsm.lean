/-
  The law's comparison of lists of commands.
-/
import Derived.Test.YtjoibonbmalbdaaCml
import Derived.Test.YtjoibonbmalbdaaSam
namespace Go.Proofs.Ytjoibonbmalbdaa
set_option linter.unusedVariables false
set_option linter.unusedSimpArgs false
open Go.RowKit

theorem ML.open {w : World} {v : Value} {cs : List Cm} (h : ML w w.heap.size v cs) : ∃ A k, v = .slice A cs.length k ∧ cs.length ≤ k ∧ k ≤ maxLen ∧
    ∀ W, Below w.heap.size w W → ∀ i, i < cs.length → ∃ b o A4 n4, A = some ⟨b, o, none⟩ ∧ b < w.heap.size ∧ W.cell? ⟨b, o + i * 7, none⟩ = some (.int .i64 (cs.getD i default).cla) ∧ W.cell? ⟨b, o + i * 7 + 1, none⟩ = some (.int .i64 (cs.getD i default).ins) ∧ W.cell? ⟨b, o + i * 7 + 2, none⟩ = some (.int .i64 (cs.getD i default).p1) ∧ W.cell? ⟨b, o + i * 7 + 3, none⟩ = some (.int .i64 (cs.getD i default).p2) ∧ W.cell? ⟨b, o + i * 7 + 4, none⟩ = some (.slice A4 (cs.getD i default).data.length n4) ∧ W.cell? ⟨b, o + i * 7 + 5, none⟩ = some (.int .i64 (cs.getD i default).le) ∧ W.cell? ⟨b, o + i * 7 + 6, none⟩ = some (.bool (cs.getD i default).long) ∧ SL W W.heap.size (.slice A4 (cs.getD i default).data.length n4) (cs.getD i default).data := by
  obtain ⟨A, k, rfl, k1, k2, k3⟩ := h
  refine ⟨A, k, rfl, k1, k2, fun W hW i hi => ?_⟩
  obtain ⟨b, o, rfl, hb, hc⟩ := k3 (by omega)
  obtain ⟨e0, e1, e2, e3, ⟨U, e4, hs⟩, e5, e6⟩ := hc i hi
  obtain ⟨A4, n4, rfl, _⟩ := id hs
  exact ⟨b, o, A4, n4, rfl, hb, (hW.cell (p := ⟨b, _, none⟩) hb).trans e0, (hW.cell (p := ⟨b, _, none⟩) hb).trans e1, (hW.cell (p := ⟨b, _, none⟩) hb).trans e2, (hW.cell (p := ⟨b, _, none⟩) hb).trans e3, (hW.cell (p := ⟨b, _, none⟩) hb).trans e4, (hW.cell (p := ⟨b, _, none⟩) hb).trans e5, (hW.cell (p := ⟨b, _, none⟩) hb).trans e6, hs.on hW⟩

set_option maxRecDepth 100000 in
set_option maxHeartbeats 3200000 in
theorem lsame_yes (cs : List Cm) (v u : Value) (w : World) (hv : ML w w.heap.size v cs) (hu : ML w w.heap.size u cs) (hn : cs.length ≤ 1000000) :
    Calls Try.prog 36 #[v, u] w fun e w' => e = .returned (.bool true) ∧ Below w.heap.size w w' := by
  obtain ⟨A, k, rfl, k1, k2, HV⟩ := hv.open
  obtain ⟨A', k', rfl, k1', k2', HU⟩ := hu.open
  have HV := Lib.hid HV
  have HU := Lib.hid HU
  clear hv hu
  have HSC := Lib.hid (fun c u v (W : World) h h' => rsamec_any c c u v W h h')
  simp only [sameC_self] at HSC
  go_enter Try.func36, Try.ntmps36
  go_wp2_with fail
  go_loopw [5] (fun i wr => ∃ j : Nat, j ≤ cs.length ∧ i = .int .i64 j ∧ Hid (Below w.heap.size w wr)) (fun i _ => cs.length - (intOf i).toNat)
  case atStart => exact ⟨0, Nat.zero_le _, rfl, Below.refl _ _⟩
  case round =>
    obtain ⟨j, hk, rfl, HB⟩ := hrel
    by_cases hlt : j < cs.length
    case neg =>
      obtain rfl : j = cs.length := by omega
      have i8 : ¬ (cs.length : Int) < (cs.length : Int) := by omega
      go_wp2_with fail
      go_ret
      exact ⟨rfl, HB.out⟩
    have hlt' : (j : Int) < (cs.length : Int) := by omega
    obtain ⟨b, o, A4, n4, rfl, hb, c0, c1, c2, c3, c4, c5, c6, hs⟩ := HV.out _ HB.out j hlt
    obtain ⟨b', o', A5, n5, rfl, hb', d0, d1, d2, d3, d4, d5, d6, hs'⟩ := HU.out _ HB.out j hlt
    have HS : Hid (∀ W, Below wr.heap.size wr W → Calls Try.prog 23 #[(cs.getD j default).val (.slice A4 (cs.getD j default).data.length n4), (cs.getD j default).val (.slice A5 (cs.getD j default).data.length n5)] W fun e w' => e = .returned (.bool true) ∧ Below W.heap.size W w') := fun W hW => HSC.out (cs.getD j default) _ _ W (hs.on hW) (hs'.on hW)
    clear hs hs'
    unfold Cm.val at HS
    generalize (cs.getD j default).data.length = n at *
    generalize cs.getD j default = C at *
    obtain ⟨cla, ins, p1, p2, d, le, lg⟩ := C
    simp only at c0 c1 c2 c3 c5 c6 d0 d1 d2 d3 d5 d6 HS
    have hb2 : b < wr.heap.size := by have := HB.out.size; omega
    have hb2' : b' < wr.heap.size := by have := HB.out.size; omega
    have HCD : Hid (∀ W, Below wr.heap.size wr W → W.cell? ⟨b, o + j * 7, none⟩ = some (.int .i64 cla) ∧ W.cell? ⟨b, o + j * 7 + 1, none⟩ = some (.int .i64 ins) ∧ W.cell? ⟨b, o + j * 7 + 2, none⟩ = some (.int .i64 p1) ∧ W.cell? ⟨b, o + j * 7 + 3, none⟩ = some (.int .i64 p2) ∧ W.cell? ⟨b, o + j * 7 + 4, none⟩ = some (.slice A4 n n4) ∧ W.cell? ⟨b, o + j * 7 + 5, none⟩ = some (.int .i64 le) ∧ W.cell? ⟨b, o + j * 7 + 6, none⟩ = some (.bool lg) ∧ W.cell? ⟨b', o' + j * 7, none⟩ = some (.int .i64 cla) ∧ W.cell? ⟨b', o' + j * 7 + 1, none⟩ = some (.int .i64 ins) ∧ W.cell? ⟨b', o' + j * 7 + 2, none⟩ = some (.int .i64 p1) ∧ W.cell? ⟨b', o' + j * 7 + 3, none⟩ = some (.int .i64 p2) ∧ W.cell? ⟨b', o' + j * 7 + 4, none⟩ = some (.slice A5 n n5) ∧ W.cell? ⟨b', o' + j * 7 + 5, none⟩ = some (.int .i64 le) ∧ W.cell? ⟨b', o' + j * 7 + 6, none⟩ = some (.bool lg)) := fun W hW => ⟨(hW.cell (p := ⟨b, _, none⟩) hb2).trans c0, (hW.cell (p := ⟨b, _, none⟩) hb2).trans c1, (hW.cell (p := ⟨b, _, none⟩) hb2).trans c2, (hW.cell (p := ⟨b, _, none⟩) hb2).trans c3, (hW.cell (p := ⟨b, _, none⟩) hb2).trans c4, (hW.cell (p := ⟨b, _, none⟩) hb2).trans c5, (hW.cell (p := ⟨b, _, none⟩) hb2).trans c6, (hW.cell (p := ⟨b', _, none⟩) hb2').trans d0, (hW.cell (p := ⟨b', _, none⟩) hb2').trans d1, (hW.cell (p := ⟨b', _, none⟩) hb2').trans d2, (hW.cell (p := ⟨b', _, none⟩) hb2').trans d3, (hW.cell (p := ⟨b', _, none⟩) hb2').trans d4, (hW.cell (p := ⟨b', _, none⟩) hb2').trans d5, (hW.cell (p := ⟨b', _, none⟩) hb2').trans d6⟩
    have hd1 := (Below.refl wr.heap.size wr).drew
    have HCC : Hid (∀ W w', Below wr.heap.size wr W → Below W.heap.size W w' → Below wr.heap.size wr w') := fun W w' h h' => h.trans (h'.mono h.size)
    go_wp2_with fail
    go_region_held3 (fun W => W.cell? ⟨b, o + j * 7, none⟩ = some (.int .i64 cla) ∧ W.cell? ⟨b, o + j * 7 + 1, none⟩ = some (.int .i64 ins) ∧ W.cell? ⟨b, o + j * 7 + 2, none⟩ = some (.int .i64 p1) ∧ W.cell? ⟨b, o + j * 7 + 3, none⟩ = some (.int .i64 p2) ∧ W.cell? ⟨b, o + j * 7 + 4, none⟩ = some (.slice A4 n n4) ∧ W.cell? ⟨b, o + j * 7 + 5, none⟩ = some (.int .i64 le) ∧ W.cell? ⟨b, o + j * 7 + 6, none⟩ = some (.bool lg) ∧ W.cell? ⟨b', o' + j * 7, none⟩ = some (.int .i64 cla) ∧ W.cell? ⟨b', o' + j * 7 + 1, none⟩ = some (.int .i64 ins) ∧ W.cell? ⟨b', o' + j * 7 + 2, none⟩ = some (.int .i64 p1) ∧ W.cell? ⟨b', o' + j * 7 + 3, none⟩ = some (.int .i64 p2) ∧ W.cell? ⟨b', o' + j * 7 + 4, none⟩ = some (.slice A5 n n5) ∧ W.cell? ⟨b', o' + j * 7 + 5, none⟩ = some (.int .i64 le) ∧ W.cell? ⟨b', o' + j * 7 + 6, none⟩ = some (.bool lg))
      (first
        | with_reducible exact HCD.out _ hd1
        | with_reducible exact HCD.out _ hb5
        | (go_keep; done))
      (first
        | (go_at_call 23; (with_reducible refine (HS.out _ hd1).mono ?_); rintro e w5 ⟨rfl, hb5'⟩; have hb5 := HCC.out _ _ hd1 hb5'; clear hb5'))
    go_wp2_with fail
    exact ⟨⟨j + 1, by omega, by go_num, HB.out.trans (hb5.mono HB.out.size)⟩, by simp [intOf]; omega⟩
end Go.Proofs.Ytjoibonbmalbdaa
