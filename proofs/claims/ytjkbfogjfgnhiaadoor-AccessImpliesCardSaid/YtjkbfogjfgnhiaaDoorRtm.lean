/-
  The walk of the reference's Text, and of the law AccessShows.
-/
import Derived.Test.YtjkbfogjfgnhiaaDoorInj
namespace Go.Proofs.YtjkbfogjfgnhiaaDoor
set_option linter.unusedVariables false
set_option linter.unusedSimpArgs false
open Go.RowKit

set_option maxRecDepth 100000 in
set_option maxHeartbeats 1600000 in
theorem rtxt_any (c : Cn) (v : Value) (w : World) (hk : KL w w.heap.size v c.kids) (hc : c.cnt ≤ 400) :
    Calls Tryd.prog 36 #[.agg #[.int .i64 c.op, .int .i64 c.n, v]] w fun e w' => e = .returned (.string ⟨(txtM c).toArray⟩) ∧ Below w.heap.size w w' := by
  obtain ⟨A, cap, rfl, h1, h2, h3⟩ := id hk
  have ha := alloc_below w (bx c.op c.n A c.kids.length cap)
  have HN0 := Lib.hid (heap_alloc_new w (bx c.op c.n A c.kids.length cap))
  have HLT0 := Lib.hid (show w.heap.size < (w.alloc (bx c.op c.n A c.kids.length cap)).heap.size by rw [alloc_size]; omega)
  have HV := Lib.hid (rchk_any c _ _ (hk.on ha) hc)
  have HK := Lib.hid (hk.on ha)
  have HA := Lib.hid ha
  clear hk ha h3
  by_cases h0 : chkC 1 3 c = 0
  · have HR : Hid (txtM c = c.txt) := if_pos h0
    have hok := chk_ok h0
    have HX := Lib.hid fun (W : World) hu => rtx_any (c.dep + 1) c (by omega) (.slice A c.kids.length cap) W hok hc hu
    rw [h0] at HV
    clear h0 hok
    go_enter Tryd.func36, Tryd.ntmps36
    go_wp2_with fail
    refine HV.out.mono ?_
    rintro e w1 ⟨rfl, hb1⟩
    have k0 := (hb1.block w.heap.size HLT0.out).trans HN0.out
    have g0 := cell_of_row _ _ 0 _ _ _ k0
    have g1 := cell_of_row _ _ 1 _ _ _ k0
    have g2 := cell_of_row _ _ 2 _ _ _ k0
    have HB1 := Lib.hid (HA.out.trans (hb1.mono HA.out.size))
    have HX1 := Lib.hid (HX.out w1 (HK.out.on hb1))
    clear hb1 k0
    go_wp2_with fail
    refine HX1.out.mono ?_
    rintro e w2 ⟨rfl, hb2⟩
    go_wp2_with fail
    go_ret
    exact ⟨by rw [HR.out]; rfl, HB1.out.trans (hb2.mono HB1.out.size)⟩
  · have HR : Hid (txtM c = []) := if_neg h0
    generalize chkC 1 3 c = E at *
    have he1 : (E != 0) = true := by simpa using h0
    have he2 : (E == 0) = false := by simpa using h0
    have he3 : decide (E = 0) = false := decide_eq_false h0
    go_enter Tryd.func36, Tryd.ntmps36
    go_wp2_with fail
    refine HV.out.mono ?_
    rintro e w1 ⟨rfl, hb1⟩
    go_wp2_with fail
    go_ret
    exact ⟨by rw [HR.out]; rfl, HA.out.trans (hb1.mono HA.out.size)⟩

def bx2 (a b : Cn) (A1 : Option Addr) (c1 : Nat) (A2 : Option Addr) (c2 : Nat) : Obj := .cells #[.int .i64 a.op, .int .i64 a.n, .slice A1 a.kids.length c1, .int .i64 b.op, .int .i64 b.n, .slice A2 b.kids.length c2] 24 (0, 0)
theorem KL.two (w : World) (a b : Cn) (A1 A2 : Option Addr) (c1 c2 : Nat) (h1 : KL w w.heap.size (.slice A1 a.kids.length c1) a.kids) (h2 : KL w w.heap.size (.slice A2 b.kids.length c2) b.kids) :
    KL (w.alloc (bx2 a b A1 c1 A2 c2)) (w.alloc (bx2 a b A1 c1 A2 c2)).heap.size (.slice (some ⟨w.heap.size, 0, none⟩) 2 2) [a, b] := by
  have hb := alloc_below w (bx2 a b A1 c1 A2 c2)
  have hr := heap_alloc_new w (bx2 a b A1 c1 A2 c2)
  refine ⟨_, 2, rfl, Nat.le_refl _, by unfold maxLen; omega, fun _ => ⟨w.heap.size, 0, rfl, by rw [alloc_size]; omega, ?_⟩⟩
  unfold CnsAt CnsAt CnsAt
  exact ⟨CnAt.make ((cell_of_row _ _ 0 _ _ _ hr).trans rfl) ((cell_of_row _ _ 1 _ _ _ hr).trans rfl) ⟨_, (cell_of_row _ _ 2 _ _ _ hr).trans rfl, h1.on hb⟩, CnAt.make ((cell_of_row _ _ 3 _ _ _ hr).trans rfl) ((cell_of_row _ _ 4 _ _ _ hr).trans rfl) ⟨_, (cell_of_row _ _ 5 _ _ _ hr).trans rfl, h2.on hb⟩, trivial⟩
end Go.Proofs.YtjkbfogjfgnhiaaDoor
