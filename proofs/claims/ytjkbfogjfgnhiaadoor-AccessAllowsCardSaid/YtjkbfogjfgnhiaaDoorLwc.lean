/-
  The walk of the law AccessAllows.
-/
import Derived.Test.YtjkbfogjfgnhiaaDoorRlw
namespace Go.Proofs.YtjkbfogjfgnhiaaDoor
set_option linter.unusedVariables false
set_option linter.unusedSimpArgs false
open Go.RowKit

set_option maxRecDepth 100000 in
set_option maxHeartbeats 6400000 in
theorem law_allows (rs : List Rl) (op : Int) (s : Sc) (v : Value) (w : World) (hk : RL w w.heap.size v rs) (hT : Tb w) :
    Calls Tryd.prog 5 #[v, .int .i64 op, .agg #[.int .i64 s.pins, .int .i64 s.keys, .int .i64 s.state, .int .i64 s.level]] w fun e w' => e = .returned (.bool true) ∧ Below w.heap.size w w' := by
  have h2 := alloc_below w s.row
  have HN0 := Lib.hid (heap_alloc_new w s.row)
  have HL0 := Lib.hid (show w.heap.size < (w.alloc s.row).heap.size by rw [alloc_size]; omega)
  have HF := Lib.hid (fewr_any rs v _ (hk.on h2))
  have HFC := Lib.hid (@fewR_cnt rs)
  have HP1 := Lib.hid fun (W : World) (hW : Below w.heap.size w W) hc => pchr_any rs v W (hk.on hW) (hT.on hW) hc
  have HP2 := Lib.hid fun (W : World) (hW : Below w.heap.size w W) hc => rchr_any rs v W (hk.on hW) hc
  have HP3 := Lib.hid fun (W : World) (hW : Below w.heap.size w W) hc => palw_any rs op s v W (hk.on hW) (hT.on hW) hc
  have HP4 := Lib.hid fun (W : World) (hW : Below w.heap.size w W) hc => ralw_any rs op s v W (hk.on hW) hc
  have HA := Lib.hid fun (W : World) (hW : Below w.heap.size w W) => works_any W (hT.on hW)
  have HB2 := Lib.hid h2
  obtain ⟨A, cap, rfl, _, _, _⟩ := id hk
  clear h2 hk hT
  generalize fewR rs = F at *
  generalize chkR rs = X at *
  generalize alwB rs op s = Y at *
  go_enter Tryd.func5, Tryd.ntmps5
  go_wp2_with fail
  refine HF.out.mono ?_
  rintro e w1 ⟨rfl, hb1⟩
  have HB1 := Lib.hid (HB2.out.trans (hb1.mono HB2.out.size))
  cases F with
  | false =>
    clear hb1
    go_wp2_with fail
    refine (HA.out _ HB1.out).mono ?_
    rintro e w2 ⟨rfl, hb2⟩
    go_wp2_with fail
    go_ret
    exact ⟨rfl, HB1.out.trans (hb2.mono HB1.out.size)⟩
  | true =>
    have HC := Lib.hid (HFC.out (by first | exact trivial | rfl))
    have k0 := (hb1.block w.heap.size HL0.out).trans HN0.out
    have HL1 := Lib.hid (Nat.lt_of_lt_of_le HL0.out hb1.size)
    have HS : Hid (∀ W, Below w1.heap.size w1 W → W.cell? ⟨w.heap.size, 0, none⟩ = some (.int .i64 s.pins) ∧ W.cell? ⟨w.heap.size, 1, none⟩ = some (.int .i64 s.keys) ∧ W.cell? ⟨w.heap.size, 2, none⟩ = some (.int .i64 s.state) ∧ W.cell? ⟨w.heap.size, 3, none⟩ = some (.int .i64 s.level)) := fun W hW => by
      have kk := (hW.block w.heap.size HL1.out).trans k0
      exact ⟨cell_of_row _ _ 0 _ _ _ kk, cell_of_row _ _ 1 _ _ _ kk, cell_of_row _ _ 2 _ _ _ kk, cell_of_row _ _ 3 _ _ _ kk⟩
    have HCC : Hid (∀ W w', Below w1.heap.size w1 W → Below W.heap.size W w' → Below w1.heap.size w1 w') := fun W w' h h' => h.trans (h'.mono h.size)
    have HUP : Hid (∀ W, Below w1.heap.size w1 W → Below w.heap.size w W) := fun W hW => HB1.out.trans (hW.mono HB1.out.size)
    have hb2d := (Below.refl w1.heap.size w1).drew
    have HX : Hid ((X == X) = true) := by show _ = _; simp
    clear hb1 k0 HFC HF
    cases Y <;>
    (go_wp2_with fail
     go_region_held3 (fun w' => w'.cell? ⟨w.heap.size, 0, none⟩ = some (.int .i64 s.pins) ∧ w'.cell? ⟨w.heap.size, 1, none⟩ = some (.int .i64 s.keys) ∧ w'.cell? ⟨w.heap.size, 2, none⟩ = some (.int .i64 s.state) ∧ w'.cell? ⟨w.heap.size, 3, none⟩ = some (.int .i64 s.level))
      (first
        | (go_keep; done)
        | exact HS.out _ hb2d
        | exact HS.out _ hb3
        | exact HS.out _ hb4
        | exact HS.out _ hb5
        | exact HS.out _ hb6
        | exact HS.out _ hb7)
      (first
        | (go_at_call 22; (with_reducible refine (HP1.out _ (HUP.out _ hb2d) HC.out).mono ?_); rintro e w3 ⟨rfl, hb3'⟩; have hb3 := HCC.out _ _ hb2d hb3'; clear hb3')
        | (go_at_call 23; (with_reducible refine (HP2.out _ (HUP.out _ hb3) HC.out).mono ?_); rintro e w4 ⟨rfl, hb4'⟩; have hb4 := HCC.out _ _ hb3 hb4'; clear hb4')
        | (go_at_call 24; (with_reducible refine (HP3.out _ (HUP.out _ hb4) HC.out).mono ?_); rintro e w5 ⟨rfl, hb5'⟩; have hb5 := HCC.out _ _ hb4 hb5'; clear hb5')
        | (go_at_call 25; (with_reducible refine (HP4.out _ (HUP.out _ hb5) HC.out).mono ?_); rintro e w6 ⟨rfl, hb6'⟩; have hb6 := HCC.out _ _ hb5 hb6'; clear hb6')
        | (go_at_call 16; (with_reducible refine (HA.out _ (HUP.out _ hb6)).mono ?_); rintro e w7 ⟨rfl, hb7'⟩; have hb7 := HCC.out _ _ hb6 hb7'; clear hb7'))
     go_wp2_with fail
     go_ret
     exact ⟨rfl, HUP.out _ hb7⟩)
end Go.Proofs.YtjkbfogjfgnhiaaDoor
