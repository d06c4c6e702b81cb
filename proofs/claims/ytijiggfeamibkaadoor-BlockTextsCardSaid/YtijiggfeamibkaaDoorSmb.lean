
/-
  The walks of Same of blocks, of the program and of the reference.
-/
import Derived.Test.YtijiggfeamibkaaDoorCo
namespace Go.Proofs.YtijiggfeamibkaaDoor
set_option linter.unusedVariables false
set_option linter.unusedSimpArgs false
open Go.RowKit

theorem cmpL_beq (a b : List UInt8) : (cmpL a b == 0) = (a == b) := by
  rw [Bool.eq_iff_iff, beq_iff_eq, beq_iff_eq]
  exact ⟨cmpL_eq_zero, fun h => by rw [h]; exact cmpL_self b⟩
/-- The reference's Same of byte slices. -/
theorem rsame_any (a b : List UInt8) (v u : Value) (w : World) (B : Nat) (ha : SL w B v a) (hb : SL w B u b) :
    Calls Tryd.prog 15 #[v, u] w fun e w' => e = .returned (.bool (a == b)) ∧ ∃ n, w' = w.drewN n := by
  have HC := Lib.hid (rcmp_any a b v u w B ha hb)
  have HQ := Lib.hid (cmpL_beq a b)
  obtain ⟨A1, c1, rfl, h11, h12, h13⟩ := ha
  obtain ⟨A2, c2, rfl, h21, h22, h23⟩ := hb
  go_enter Tryd.func15, Tryd.ntmps15
  go_wp2_with fail
  refine HC.out.mono ?_
  rintro e w' ⟨rfl, n, rfl⟩
  go_wp2_with fail
  go_ret
  exact ⟨by rw [← HQ.out]; rfl, n, rfl⟩

set_option maxRecDepth 100000 in
set_option maxHeartbeats 1600000 in
theorem psameb_any (a b : Bk) (v u : Value) (w : World) (ha : SL w w.heap.size v a.inf) (hb : SL w w.heap.size u b.inf) :
    Calls Tryd.prog 18 #[a.val v, b.val u] w fun e w' => e = .returned (.bool (sameB a b)) ∧ Below w.heap.size w w' := by
  have HA := Lib.hid ha
  have HB := Lib.hid hb
  obtain ⟨A1, c1, rfl, _, _, _⟩ := ha
  obtain ⟨A2, c2, rfl, _, _, _⟩ := hb
  obtain ⟨a0, a1, a2, a3, a4, a5, ad⟩ := a
  obtain ⟨b0, b1, b2, b3, b4, b5, bd⟩ := b
  have HD := fun (W : World) (hW : Below w.heap.size w W) => beq_any ad bd _ _ W _ (HA.out.on hW) (HB.out.on hW)
  have HD := Lib.hid HD
  have HE : Hid (sameB ⟨a0, a1, a2, a3, a4, a5, ad⟩ ⟨b0, b1, b2, b3, b4, b5, bd⟩ = (a0 == b0 && a1 == b1 && a2 == b2 && a3 == b3 && a4 == b4 && a5 == b5 && ad == bd)) := rfl
  simp only [Bk.val]
  have HW := Lib.hid (below_2 w (.cells #[.int .i64 a0, .int .i64 a1, .int .i64 a2, .bool a3, .int .i64 a4, .bool a5, .slice A1 ad.length c1] 24) (.cells #[.int .i64 b0, .int .i64 b1, .int .i64 b2, .bool b3, .int .i64 b4, .bool b5, .slice A2 bd.length c2] 24))
  cases h0 : (a0 == b0)
  · rw [h0] at HE
    go_enter Tryd.func18, Tryd.ntmps18
    go_wp2_with fail
    go_ret
    exact ⟨by rw [HE.out]; rfl, HW.out⟩
  cases h1 : (a1 == b1)
  · rw [h0, h1] at HE
    go_enter Tryd.func18, Tryd.ntmps18
    go_wp2_with fail
    go_ret
    exact ⟨by rw [HE.out]; rfl, HW.out⟩
  cases h2 : (a2 == b2)
  · rw [h0, h1, h2] at HE
    go_enter Tryd.func18, Tryd.ntmps18
    go_wp2_with fail
    go_ret
    exact ⟨by rw [HE.out]; rfl, HW.out⟩
  cases h3 : (a3 == b3)
  · rw [h0, h1, h2, h3] at HE
    go_enter Tryd.func18, Tryd.ntmps18
    go_wp2_with fail
    go_ret
    exact ⟨by rw [HE.out]; rfl, HW.out⟩
  cases h4 : (a4 == b4)
  · rw [h0, h1, h2, h3, h4] at HE
    go_enter Tryd.func18, Tryd.ntmps18
    go_wp2_with fail
    go_ret
    exact ⟨by rw [HE.out]; rfl, HW.out⟩
  cases h5 : (a5 == b5)
  · rw [h0, h1, h2, h3, h4, h5] at HE
    go_enter Tryd.func18, Tryd.ntmps18
    go_wp2_with fail
    go_ret
    exact ⟨by rw [HE.out]; rfl, HW.out⟩
  rw [h0, h1, h2, h3, h4, h5] at HE
  generalize (ad == bd) = q at HE HD
  go_enter Tryd.func18, Tryd.ntmps18
  go_wp2_with fail
  refine (HD.out _ HW.out).mono ?_
  rintro e w1 ⟨rfl, rfl⟩
  go_wp2_with fail
  go_ret
  exact ⟨by rw [HE.out]; rfl, HW.out⟩

set_option maxRecDepth 100000 in
set_option maxHeartbeats 1600000 in
theorem rsameb_any (a b : Bk) (v u : Value) (w : World) (ha : SL w w.heap.size v a.inf) (hb : SL w w.heap.size u b.inf) :
    Calls Tryd.prog 6 #[a.val v, b.val u] w fun e w' => e = .returned (.bool (sameB a b)) ∧ Below w.heap.size w w' := by
  have HA := Lib.hid ha
  have HB := Lib.hid hb
  obtain ⟨A1, c1, rfl, _, _, _⟩ := ha
  obtain ⟨A2, c2, rfl, _, _, _⟩ := hb
  obtain ⟨a0, a1, a2, a3, a4, a5, ad⟩ := a
  obtain ⟨b0, b1, b2, b3, b4, b5, bd⟩ := b
  have HD := fun (W : World) (hW : Below w.heap.size w W) => rsame_any ad bd _ _ W _ (HA.out.on hW) (HB.out.on hW)
  have HD := Lib.hid HD
  have HE : Hid (sameB ⟨a0, a1, a2, a3, a4, a5, ad⟩ ⟨b0, b1, b2, b3, b4, b5, bd⟩ = (a0 == b0 && a1 == b1 && a2 == b2 && a3 == b3 && a4 == b4 && a5 == b5 && ad == bd)) := rfl
  simp only [Bk.val]
  have HW := Lib.hid (below_2 w (.cells #[.int .i64 a0, .int .i64 a1, .int .i64 a2, .bool a3, .int .i64 a4, .bool a5, .slice A1 ad.length c1] 24) (.cells #[.int .i64 b0, .int .i64 b1, .int .i64 b2, .bool b3, .int .i64 b4, .bool b5, .slice A2 bd.length c2] 24))
  cases h0 : (a0 == b0)
  · rw [h0] at HE
    go_enter Tryd.func6, Tryd.ntmps6
    go_wp2_with fail
    go_ret
    exact ⟨by rw [HE.out]; rfl, HW.out⟩
  cases h1 : (a1 == b1)
  · rw [h0, h1] at HE
    go_enter Tryd.func6, Tryd.ntmps6
    go_wp2_with fail
    go_ret
    exact ⟨by rw [HE.out]; rfl, HW.out⟩
  cases h2 : (a2 == b2)
  · rw [h0, h1, h2] at HE
    go_enter Tryd.func6, Tryd.ntmps6
    go_wp2_with fail
    go_ret
    exact ⟨by rw [HE.out]; rfl, HW.out⟩
  cases h3 : (a3 == b3)
  · rw [h0, h1, h2, h3] at HE
    go_enter Tryd.func6, Tryd.ntmps6
    go_wp2_with fail
    go_ret
    exact ⟨by rw [HE.out]; rfl, HW.out⟩
  cases h4 : (a4 == b4)
  · rw [h0, h1, h2, h3, h4] at HE
    go_enter Tryd.func6, Tryd.ntmps6
    go_wp2_with fail
    go_ret
    exact ⟨by rw [HE.out]; rfl, HW.out⟩
  cases h5 : (a5 == b5)
  · rw [h0, h1, h2, h3, h4, h5] at HE
    go_enter Tryd.func6, Tryd.ntmps6
    go_wp2_with fail
    go_ret
    exact ⟨by rw [HE.out]; rfl, HW.out⟩
  rw [h0, h1, h2, h3, h4, h5] at HE
  generalize (ad == bd) = q at HE HD
  go_enter Tryd.func6, Tryd.ntmps6
  go_wp2_with fail
  refine (HD.out _ HW.out).mono ?_
  rintro e w1 ⟨rfl, n1, rfl⟩
  go_wp2_with fail
  go_ret
  exact ⟨by rw [HE.out]; rfl, below_drewN HW.out _⟩
end Go.Proofs.YtijiggfeamibkaaDoor
