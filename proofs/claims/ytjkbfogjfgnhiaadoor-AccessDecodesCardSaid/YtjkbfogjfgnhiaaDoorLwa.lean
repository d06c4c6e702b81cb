/-
  The walks of the laws AccessChecks and AccessHolds.
-/
import Derived.Test.YtjkbfogjfgnhiaaDoorWks
namespace Go.Proofs.YtjkbfogjfgnhiaaDoor
set_option linter.unusedVariables false
set_option linter.unusedSimpArgs false
open Go.RowKit

/-- One condition in a block of its own. -/
theorem KL.one (w : World) (c : Cn) (A : Option Addr) (cap : Nat) (h : KL w w.heap.size (.slice A c.kids.length cap) c.kids) :
    KL (w.alloc (bx c.op c.n A c.kids.length cap)) (w.alloc (bx c.op c.n A c.kids.length cap)).heap.size (.slice (some ⟨w.heap.size, 0, none⟩) 1 1) [c] := by
  have hb := alloc_below w (bx c.op c.n A c.kids.length cap)
  have hr := heap_alloc_new w (bx c.op c.n A c.kids.length cap)
  refine ⟨_, 1, rfl, Nat.le_refl _, by unfold maxLen; omega, fun _ => ⟨w.heap.size, 0, rfl, by rw [alloc_size]; omega, ?_⟩⟩
  unfold CnsAt CnsAt
  exact ⟨CnAt.make ((cell_of_row _ _ 0 _ _ _ hr).trans rfl) ((cell_of_row _ _ 1 _ _ _ hr).trans rfl) ⟨_, (cell_of_row _ _ 2 _ _ _ hr).trans rfl, h.on hb⟩, trivial⟩

set_option maxRecDepth 100000 in
set_option maxHeartbeats 3200000 in
theorem law_checks (c : Cn) (v : Value) (w : World) (hk : KL w w.heap.size v c.kids) (hT : Tb w) :
    Calls Tryd.prog 3 #[.agg #[.int .i64 c.op, .int .i64 c.n, v]] w fun e w' => e = .returned (.bool true) ∧ Below w.heap.size w w' := by
  obtain ⟨A, cap, rfl, h1, h2, h3⟩ := id hk
  have HN0 := Lib.hid (heap_alloc_new w (bx c.op c.n A c.kids.length cap))
  have ha := alloc_below w (bx c.op c.n A c.kids.length cap)
  have hk1 := KL.one _ c A cap (hk.on ha)
  rw [alloc_size w (bx c.op c.n A c.kids.length cap)] at hk1
  have HF := Lib.hid (few_any [c] _ _ hk1)
  have HFE : Hid (([c] : List Cn).all fewB = fewB c) := by show _ = _; simp
  rw [HFE.out] at HF
  have HFC := Lib.hid (few_cnt c)
  have hb2 := alloc2_below w (bx c.op c.n A c.kids.length cap) (bx c.op c.n A c.kids.length cap)
  have HN1 := Lib.hid ((Below.heap_alloc (w.alloc (bx c.op c.n A c.kids.length cap)) (bx c.op c.n A c.kids.length cap) w.heap.size (by rw [alloc_size]; omega)).trans HN0.out)
  have HB2 := Lib.hid hb2
  have HLT := Lib.hid (show w.heap.size < ((w.alloc (bx c.op c.n A c.kids.length cap)).alloc (bx c.op c.n A c.kids.length cap)).heap.size by rw [alloc_size, alloc_size]; omega)
  have HK := Lib.hid fun (W : World) (hW : Below w.heap.size w W) => hk.on hW
  have HT := Lib.hid fun (W : World) (hW : Below w.heap.size w W) => hT.on hW
  have HK1 := Lib.hid fun (W : World) (hW : Below w.heap.size w W) (hc : c.cnt ≤ 400) => pchk_any c _ W (hk.on hW) (hT.on hW) hc
  have HK2 := Lib.hid fun (W : World) (hW : Below w.heap.size w W) (hc : c.cnt ≤ 400) => rchk_any c _ W (hk.on hW) hc
  have HA := Lib.hid fun (W : World) (hW : Below w.heap.size w W) => works_any W (hT.on hW)
  clear hk hT ha hk1 h3 hb2 HFE
  generalize chkC 1 3 c = X at *
  generalize fewB c = F at *
  go_enter Tryd.func3, Tryd.ntmps3
  go_wp2_with fail
  refine HF.out.mono ?_
  rintro e w1 ⟨rfl, hb1⟩
  have HB1 := Lib.hid (HB2.out.trans (hb1.mono HB2.out.size))
  cases F with
  | false =>
    clear hb1
    go_wp2_with fail
    refine (HA.out _ HB1.out).mono ?_
    rintro e w2 ⟨rfl, hb2⟩
    go_wp2_with fail
    go_ret
    exact ⟨rfl, HB1.out.trans (hb2.mono HB1.out.size)⟩
  | true =>
    have hc : c.cnt ≤ 400 := by have := HFC.out (by first | exact trivial | rfl); omega
    have k0 := (hb1.block w.heap.size HLT.out).trans HN1.out
    have HL1 := Lib.hid (Nat.lt_of_lt_of_le HLT.out hb1.size)
    have HS : Hid (∀ W, Below w1.heap.size w1 W → W.cell? ⟨w.heap.size, 0, none⟩ = some (.int .i64 c.op) ∧ W.cell? ⟨w.heap.size, 1, none⟩ = some (.int .i64 c.n) ∧ W.cell? ⟨w.heap.size, 2, none⟩ = some (.slice A c.kids.length cap)) := fun W hW => by
      have kk := (hW.block w.heap.size HL1.out).trans k0
      exact ⟨cell_of_row _ _ 0 _ _ _ kk, cell_of_row _ _ 1 _ _ _ kk, cell_of_row _ _ 2 _ _ _ kk⟩
    have HC : Hid (∀ W w', Below w1.heap.size w1 W → Below W.heap.size W w' → Below w1.heap.size w1 w') := fun W w' h h' => h.trans (h'.mono h.size)
    have HUP : Hid (∀ W, Below w1.heap.size w1 W → Below w.heap.size w W) := fun W hW => HB1.out.trans (hW.mono HB1.out.size)
    have hb2d := (Below.refl w1.heap.size w1).drew
    have HX : Hid ((X == X) = true) := by show _ = _; simp
    clear hb1 k0
    go_wp2_with fail
    go_region_held3 (fun w' => w'.cell? ⟨w.heap.size, 0, none⟩ = some (.int .i64 c.op) ∧ w'.cell? ⟨w.heap.size, 1, none⟩ = some (.int .i64 c.n) ∧ w'.cell? ⟨w.heap.size, 2, none⟩ = some (.slice A c.kids.length cap))
      (first
        | (go_keep; done)
        | exact HS.out _ hb2d
        | exact HS.out _ hb3
        | exact HS.out _ hb4
        | exact HS.out _ hb5)
      (first
        | (go_at_call 17; (with_reducible refine (HK1.out _ (HUP.out _ hb2d) hc).mono ?_); rintro e w3 ⟨rfl, hb3'⟩; have hb3 := HC.out _ _ hb2d hb3'; clear hb3')
        | (go_at_call 18; (with_reducible refine (HK2.out _ (HUP.out _ hb3) hc).mono ?_); rintro e w4 ⟨rfl, hb4'⟩; have hb4 := HC.out _ _ hb3 hb4'; clear hb4')
        | (go_at_call 16; (with_reducible refine (HA.out _ (HUP.out _ hb4)).mono ?_); rintro e w5 ⟨rfl, hb5'⟩; have hb5 := HC.out _ _ hb4 hb5'; clear hb5'))
    go_wp2_with fail
    go_ret
    exact ⟨rfl, HUP.out _ hb5⟩
set_option maxRecDepth 100000 in
set_option maxHeartbeats 3200000 in
theorem law_holds (c : Cn) (s : Sc) (v : Value) (w : World) (hk : KL w w.heap.size v c.kids) (hT : Tb w) :
    Calls Tryd.prog 4 #[.agg #[.int .i64 c.op, .int .i64 c.n, v], .agg #[.int .i64 s.pins, .int .i64 s.keys, .int .i64 s.state, .int .i64 s.level]] w fun e w' => e = .returned (.bool true) ∧ Below w.heap.size w w' := by
  obtain ⟨A, cap, rfl, h1, h2, h3⟩ := id hk
  have h2 := alloc2_below w (bx c.op c.n A c.kids.length cap) s.row
  have hs2 : ((w.alloc (bx c.op c.n A c.kids.length cap)).alloc s.row).heap.size = w.heap.size + 2 := by rw [alloc_size, alloc_size]
  have hk1 := KL.one _ c A cap (hk.on h2)
  rw [hs2] at hk1
  have HF := Lib.hid (few_any [c] _ _ hk1)
  have HFE : Hid (([c] : List Cn).all fewB = fewB c) := by show _ = _; simp
  rw [HFE.out] at HF
  have HFC := Lib.hid (few_cnt c)
  have h3b : Below ((w.alloc (bx c.op c.n A c.kids.length cap)).alloc s.row).heap.size ((w.alloc (bx c.op c.n A c.kids.length cap)).alloc s.row) (((w.alloc (bx c.op c.n A c.kids.length cap)).alloc s.row).alloc (bx c.op c.n A c.kids.length cap)) := alloc_below _ _
  have hn0 := (Below.heap_alloc (w.alloc (bx c.op c.n A c.kids.length cap)) s.row w.heap.size (by rw [alloc_size]; omega)).trans (heap_alloc_new w (bx c.op c.n A c.kids.length cap))
  have hn1 := heap_alloc_new (w.alloc (bx c.op c.n A c.kids.length cap)) s.row
  rw [alloc_size w (bx c.op c.n A c.kids.length cap)] at hn1
  have HN1 := Lib.hid ((h3b.block w.heap.size (by rw [hs2]; omega)).trans hn0)
  have HN2 := Lib.hid ((h3b.block (w.heap.size + 1) (by rw [hs2]; omega)).trans hn1)
  have HB2 := Lib.hid (h2.trans (h3b.mono h2.size))
  have HLT := Lib.hid (show w.heap.size + 1 < (((w.alloc (bx c.op c.n A c.kids.length cap)).alloc s.row).alloc (bx c.op c.n A c.kids.length cap)).heap.size by rw [alloc_size, hs2]; omega)
  have HK := Lib.hid fun (W : World) (hW : Below w.heap.size w W) => hk.on hW
  have HT := Lib.hid fun (W : World) (hW : Below w.heap.size w W) => hT.on hW
  have HK1 := Lib.hid fun (W : World) (hW : Below w.heap.size w W) (hc : c.cnt ≤ 400) => pholds_any c s _ W (hk.on hW) (hT.on hW) hc
  have HK2 := Lib.hid fun (W : World) (hW : Below w.heap.size w W) (hc : c.cnt ≤ 400) => rholds_any c s _ W (hk.on hW) hc
  have HA := Lib.hid fun (W : World) (hW : Below w.heap.size w W) => works_any W (hT.on hW)
  clear hk hT hk1 h3 h2 h3b hn0 hn1 hs2 HFE
  generalize holdB s c = X at *
  generalize fewB c = F at *
  go_enter Tryd.func4, Tryd.ntmps4
  go_wp2_with fail
  refine HF.out.mono ?_
  rintro e w1 ⟨rfl, hb1⟩
  have HB1 := Lib.hid (HB2.out.trans (hb1.mono HB2.out.size))
  cases F with
  | false =>
    clear hb1
    go_wp2_with fail
    refine (HA.out _ HB1.out).mono ?_
    rintro e w2 ⟨rfl, hb2⟩
    go_wp2_with fail
    go_ret
    exact ⟨rfl, HB1.out.trans (hb2.mono HB1.out.size)⟩
  | true =>
    have hc : c.cnt ≤ 400 := by have := HFC.out (by first | exact trivial | rfl); omega
    have k0 := (hb1.block w.heap.size (Nat.lt_of_succ_lt HLT.out)).trans HN1.out
    have k1 := (hb1.block (w.heap.size + 1) HLT.out).trans HN2.out
    have HL1 := Lib.hid (Nat.lt_of_lt_of_le HLT.out hb1.size)
    have HS : Hid (∀ W, Below w1.heap.size w1 W → W.cell? ⟨w.heap.size, 0, none⟩ = some (.int .i64 c.op) ∧ W.cell? ⟨w.heap.size, 1, none⟩ = some (.int .i64 c.n) ∧ W.cell? ⟨w.heap.size, 2, none⟩ = some (.slice A c.kids.length cap) ∧ W.cell? ⟨w.heap.size + 1, 0, none⟩ = some (.int .i64 s.pins) ∧ W.cell? ⟨w.heap.size + 1, 1, none⟩ = some (.int .i64 s.keys) ∧ W.cell? ⟨w.heap.size + 1, 2, none⟩ = some (.int .i64 s.state) ∧ W.cell? ⟨w.heap.size + 1, 3, none⟩ = some (.int .i64 s.level)) := fun W hW => by
      have kk := (hW.block w.heap.size (Nat.lt_of_succ_lt HL1.out)).trans k0
      have kl := (hW.block (w.heap.size + 1) HL1.out).trans k1
      exact ⟨cell_of_row _ _ 0 _ _ _ kk, cell_of_row _ _ 1 _ _ _ kk, cell_of_row _ _ 2 _ _ _ kk, cell_of_row _ _ 0 _ _ _ kl, cell_of_row _ _ 1 _ _ _ kl, cell_of_row _ _ 2 _ _ _ kl, cell_of_row _ _ 3 _ _ _ kl⟩
    have HC : Hid (∀ W w', Below w1.heap.size w1 W → Below W.heap.size W w' → Below w1.heap.size w1 w') := fun W w' h h' => h.trans (h'.mono h.size)
    have HUP : Hid (∀ W, Below w1.heap.size w1 W → Below w.heap.size w W) := fun W hW => HB1.out.trans (hW.mono HB1.out.size)
    have hb2d := (Below.refl w1.heap.size w1).drew
    have HX : Hid ((X == X) = true) := by show _ = _; simp
    clear hb1 k0 k1 HX
    cases X <;>
    (go_wp2_with fail
     go_region_held3 (fun w' => w'.cell? ⟨w.heap.size, 0, none⟩ = some (.int .i64 c.op) ∧ w'.cell? ⟨w.heap.size, 1, none⟩ = some (.int .i64 c.n) ∧ w'.cell? ⟨w.heap.size, 2, none⟩ = some (.slice A c.kids.length cap) ∧ w'.cell? ⟨w.heap.size + 1, 0, none⟩ = some (.int .i64 s.pins) ∧ w'.cell? ⟨w.heap.size + 1, 1, none⟩ = some (.int .i64 s.keys) ∧ w'.cell? ⟨w.heap.size + 1, 2, none⟩ = some (.int .i64 s.state) ∧ w'.cell? ⟨w.heap.size + 1, 3, none⟩ = some (.int .i64 s.level))
       (first
         | (go_keep; done)
         | exact HS.out _ hb2d
         | exact HS.out _ hb3
         | exact HS.out _ hb4
         | exact HS.out _ hb5)
       (first
         | (go_at_call 19; (with_reducible refine (HK1.out _ (HUP.out _ hb2d) hc).mono ?_); rintro e w3 ⟨rfl, hb3'⟩; have hb3 := HC.out _ _ hb2d hb3'; clear hb3')
         | (go_at_call 20; (with_reducible refine (HK2.out _ (HUP.out _ hb3) hc).mono ?_); rintro e w4 ⟨rfl, hb4'⟩; have hb4 := HC.out _ _ hb3 hb4'; clear hb4')
         | (go_at_call 16; (with_reducible refine (HA.out _ (HUP.out _ hb4)).mono ?_); rintro e w5 ⟨rfl, hb5'⟩; have hb5 := HC.out _ _ hb4 hb5'; clear hb5'))
     go_wp2_with fail
     go_ret
     exact ⟨rfl, HUP.out _ hb5⟩)
end Go.Proofs.YtjkbfogjfgnhiaaDoor
