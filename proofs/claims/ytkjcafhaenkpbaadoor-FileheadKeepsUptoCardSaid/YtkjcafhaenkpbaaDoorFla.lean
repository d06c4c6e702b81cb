/-
  Headers; the reference's Compare and Same of bytes; Next of both.
-/
import Derived.Test.YtkjcafhaenkpbaaDoorRen
namespace Go.Proofs.YtkjcafhaenkpbaaDoor
set_option linter.unusedVariables false
set_option linter.unusedSimpArgs false
open Go.RowKit

/-- A header. -/
structure Fl where
  (id kind short size len recs state : Int)
  name : List UInt8
  rules : List Rl

set_option maxHeartbeats 400000 in
theorem rcmp_any (a b : List UInt8) (v u : Value) (w : World) (B : Nat) (ha : SL w B v a) (hb : SL w B u b) :
    Calls Tryd.prog 36 #[v, u] w fun e w' => e = .returned (.int .i64 (cmpL a b)) ∧ ∃ n, w' = w.drewN n := by
  obtain ⟨A1, c1, rfl, h11, h12, h13⟩ := ha
  obtain ⟨A2, c2, rfl, h21, h22, h23⟩ := hb
  unfold maxLen at h12 h22
  go_enter Tryd.func36, Tryd.ntmps36
  go_wp2
  go_loopw [5] (fun i wr => ∃ k : Nat, k ≤ a.length ∧ k ≤ b.length ∧ i = .int .i64 k ∧ (∀ j, j < k → a.getD j 0 = b.getD j 0) ∧ ∃ n, wr = w.drewN n) (fun i _ => a.length - (intOf i).toNat)
  case atStart => exact ⟨0, Nat.zero_le _, Nat.zero_le _, rfl, fun j hj => absurd hj (by omega), 0, rfl⟩
  case round =>
    obtain ⟨k, hka, hkb, rfl, heq, n, rfl⟩ := hrel
    have HE := Lib.hid heq
    clear heq
    by_cases h1 : k < a.length
    · by_cases h2 : k < b.length
      · obtain ⟨b1, o1, rfl, hb1, hc1⟩ := h13 (by omega)
        obtain ⟨b2, o2, rfl, hb2, hc2⟩ := h23 (by omega)
        have g1 := hc1 k h1
        have g2 := hc2 k h2
        have H1 := Lib.hid hc1
        have H2 := Lib.hid hc2
        clear hc1 hc2 h13 h23
        go_wp2
        go_quiet (fail)
        go_wp2
        · have hlt : a[k].toNat < b[k].toNat := by assumption
          go_ret
          exact ⟨ret_int (cmpL_lt a b k h1 h2 HE.out (by simpa [List.getD, List.getElem?_eq_getElem h1, List.getElem?_eq_getElem h2] using hlt)).symm, dn2 ..⟩
        · have hge : ¬ a[k].toNat < b[k].toNat := by assumption
          go_quiet (fail)
          go_wp2
          · have hlt : b[k].toNat < a[k].toNat := by assumption
            go_ret
            exact ⟨ret_int (cmpL_gt a b k h1 h2 HE.out (by simpa [List.getD, List.getElem?_eq_getElem h1, List.getElem?_eq_getElem h2] using hlt)).symm, by simp only [World.drewN_drewN]; exact ⟨_, rfl⟩⟩
          · have hge2 : ¬ b[k].toNat < a[k].toNat := by assumption
            go_roundw
            case rel => exact ⟨k + 1, by omega, by omega, by go_num, agree_snoc HE.out (by simpa [List.getD, List.getElem?_eq_getElem h1, List.getElem?_eq_getElem h2] using u8_eq hge hge2), dn1 ..⟩
            case measure => simp [intOf]; omega
      · have hk : k = b.length := by omega
        subst hk
        go_wp2
        · go_ret
          exact ⟨ret_int (cmpL_end_gt a b (by omega) HE.out).symm, dn1 ..⟩
    · have hk : k = a.length := by omega
      subst hk
      go_wp2
      · go_ret
        exact ⟨ret_int (cmpL_end_lt a b (by omega) HE.out).symm, dn1 ..⟩
      · go_ret
        exact ⟨ret_int (cmpL_end_eq a b (by omega) HE.out).symm, dn1 ..⟩
theorem rsame1_any (a b : List UInt8) (v u : Value) (w : World) (ha : SL w w.heap.size v a) (hb : SL w w.heap.size u b) :
    Calls Tryd.prog 16 #[v, u] w fun e w' => e = .returned (.bool (decide (a = b))) ∧ Below w.heap.size w w' := by
  have HC := Lib.hid (rcmp_any a b v u w _ ha hb)
  have HE : Hid (decide (cmpL a b = 0) = decide (a = b)) := decide_eq_decide.2 ⟨cmpL_eq_zero, fun h => by rw [h]; exact cmpL_self b⟩
  obtain ⟨A1, c1, rfl, _⟩ := ha
  obtain ⟨A2, c2, rfl, _⟩ := hb
  generalize cmpL a b = x at *
  go_enter Tryd.func16, Tryd.ntmps16
  go_wp2_with fail
  refine HC.out.mono ?_
  rintro e w1 ⟨rfl, n, rfl⟩
  go_wp2_with fail
  go_ret
  exact ⟨ret_bool HE.out, drewN_below _ _ _⟩

/-- What Next answers: the state, and the error. -/
def nxtS (s o : Int) : Int := if o = 32 ∧ s = 2 then 1 else if o = 64 ∧ s = 1 then 2 else if o = 128 ∧ 1 ≤ s ∧ s ≤ 2 then 3 else 0
def nxtE (s o : Int) : Int := if ¬ o = 32 ∧ ¬ o = 64 ∧ ¬ o = 128 then 1 else if s < 1 ∨ 3 < s then 2 else if o = 32 ∧ s = 2 then 0 else if o = 64 ∧ s = 1 then 0 else if o = 128 ∧ ¬ s = 3 then 0 else 14
theorem vst_any (s : Int) (w : World) : Calls Tryd.prog 28 #[.int .i64 s] w fun e w' => e = .returned (.bool (decide (1 ≤ s) && decide (s ≤ 3))) ∧ w = w' := by
  by_cases h1 : 1 ≤ s
  · by_cases h2 : s ≤ 3
    · have e1 := decide_eq_true h1
      have e2 := decide_eq_true h2
      go_enter Tryd.func28, Tryd.ntmps28
      go_wp2
      go_ret
      exact ⟨by (first | rfl | (rw [e1, e2]; rfl) | (simp only [e1, e2]; rfl)), rfl⟩
    · have e1 := decide_eq_true h1
      have e2 : decide (s ≤ 3) = false := decide_eq_false h2
      go_enter Tryd.func28, Tryd.ntmps28
      go_wp2
      go_ret
      exact ⟨by first | rfl | (rw [e2, Bool.and_false]), rfl⟩
  · have e1 : decide (1 ≤ s) = false := decide_eq_false h1
    go_enter Tryd.func28, Tryd.ntmps28
    go_wp2
    go_ret
    exact ⟨by first | rfl | (rw [e1, Bool.false_and]), rfl⟩
def NxtP (s o : Int) (w : World) (e : Ending) (w' : World) : Prop := e = .returned (.tuple #[.int .i64 (nxtS s o), .int .i64 (nxtE s o)]) ∧ w = w'
theorem nxt_vals (s o : Int) : (o = 32 ∨ o = 64 ∨ o = 128 ∨ (¬ o = 32 ∧ ¬ o = 64 ∧ ¬ o = 128)) ∧ (s = 1 ∨ s = 2 ∨ s = 3 ∨ s < 1 ∨ 3 < s) := by omega
set_option maxRecDepth 100000 in
set_option maxHeartbeats 1600000 in
theorem rnxt_any (s o : Int) (w : World) : Calls Tryd.prog 23 #[.int .i64 s, .int .i64 o] w (NxtP s o w) := by
  obtain ⟨ho, hs⟩ := nxt_vals s o
  unfold NxtP
  rcases ho with rfl | rfl | rfl | ⟨ho32, ho64, ho128⟩
  · rcases hs with rfl | rfl | rfl | hs | hs
    · have r1 : nxtS 1 32 = 0 := by unfold nxtS; (repeat' split) <;> omega
      have r2 : nxtE 1 32 = 14 := by unfold nxtE; (repeat' split) <;> omega
      rw [r1, r2]
      clear r1 r2
      go_enter Tryd.func23, Tryd.ntmps23
      go_wp2
      go_ret2
      exact ⟨rfl, rfl⟩
    · have r1 : nxtS 2 32 = 1 := by unfold nxtS; (repeat' split) <;> omega
      have r2 : nxtE 2 32 = 0 := by unfold nxtE; (repeat' split) <;> omega
      rw [r1, r2]
      clear r1 r2
      go_enter Tryd.func23, Tryd.ntmps23
      go_wp2
      go_ret2
      exact ⟨rfl, rfl⟩
    · have r1 : nxtS 3 32 = 0 := by unfold nxtS; (repeat' split) <;> omega
      have r2 : nxtE 3 32 = 14 := by unfold nxtE; (repeat' split) <;> omega
      rw [r1, r2]
      clear r1 r2
      go_enter Tryd.func23, Tryd.ntmps23
      go_wp2
      go_ret2
      exact ⟨rfl, rfl⟩
    · have hs1 : ¬ s = 1 := by omega
      have ns1 : (s == 1) = false := by simpa using hs1
      have ms1 : (s != 1) = true := by simpa using hs1
      have ds1 : decide (s = 1) = false := decide_eq_false hs1
      have hs2 : ¬ s = 2 := by omega
      have ns2 : (s == 2) = false := by simpa using hs2
      have ms2 : (s != 2) = true := by simpa using hs2
      have ds2 : decide (s = 2) = false := decide_eq_false hs2
      have hs3 : ¬ s = 3 := by omega
      have ns3 : (s == 3) = false := by simpa using hs3
      have ms3 : (s != 3) = true := by simpa using hs3
      have ds3 : decide (s = 3) = false := decide_eq_false hs3
      have e1 : decide (1 ≤ s) = false := decide_eq_false (by omega)
      have e2 : decide (s < 1) = true := decide_eq_true hs
      have r1 : nxtS s 32 = 0 := by unfold nxtS; (repeat' split) <;> omega
      have r2 : nxtE s 32 = 2 := by unfold nxtE; (repeat' split) <;> omega
      rw [r1, r2]
      clear r1 r2
      go_enter Tryd.func23, Tryd.ntmps23
      go_wp2
      go_ret2
      exact ⟨rfl, rfl⟩
    · have hs1 : ¬ s = 1 := by omega
      have ns1 : (s == 1) = false := by simpa using hs1
      have ms1 : (s != 1) = true := by simpa using hs1
      have ds1 : decide (s = 1) = false := decide_eq_false hs1
      have hs2 : ¬ s = 2 := by omega
      have ns2 : (s == 2) = false := by simpa using hs2
      have ms2 : (s != 2) = true := by simpa using hs2
      have ds2 : decide (s = 2) = false := decide_eq_false hs2
      have hs3 : ¬ s = 3 := by omega
      have ns3 : (s == 3) = false := by simpa using hs3
      have ms3 : (s != 3) = true := by simpa using hs3
      have ds3 : decide (s = 3) = false := decide_eq_false hs3
      have e1 : decide (1 ≤ s) = true := decide_eq_true (by omega)
      have e2 : decide (s < 1) = false := decide_eq_false (by omega)
      have e3 : decide (s ≤ 3) = false := decide_eq_false (by omega)
      have e4 : decide (3 < s) = true := decide_eq_true hs
      have r1 : nxtS s 32 = 0 := by unfold nxtS; (repeat' split) <;> omega
      have r2 : nxtE s 32 = 2 := by unfold nxtE; (repeat' split) <;> omega
      rw [r1, r2]
      clear r1 r2
      go_enter Tryd.func23, Tryd.ntmps23
      go_wp2
      go_ret2
      exact ⟨rfl, rfl⟩
  · rcases hs with rfl | rfl | rfl | hs | hs
    · have r1 : nxtS 1 64 = 2 := by unfold nxtS; (repeat' split) <;> omega
      have r2 : nxtE 1 64 = 0 := by unfold nxtE; (repeat' split) <;> omega
      rw [r1, r2]
      clear r1 r2
      go_enter Tryd.func23, Tryd.ntmps23
      go_wp2
      go_ret2
      exact ⟨rfl, rfl⟩
    · have r1 : nxtS 2 64 = 0 := by unfold nxtS; (repeat' split) <;> omega
      have r2 : nxtE 2 64 = 14 := by unfold nxtE; (repeat' split) <;> omega
      rw [r1, r2]
      clear r1 r2
      go_enter Tryd.func23, Tryd.ntmps23
      go_wp2
      go_ret2
      exact ⟨rfl, rfl⟩
    · have r1 : nxtS 3 64 = 0 := by unfold nxtS; (repeat' split) <;> omega
      have r2 : nxtE 3 64 = 14 := by unfold nxtE; (repeat' split) <;> omega
      rw [r1, r2]
      clear r1 r2
      go_enter Tryd.func23, Tryd.ntmps23
      go_wp2
      go_ret2
      exact ⟨rfl, rfl⟩
    · have hs1 : ¬ s = 1 := by omega
      have ns1 : (s == 1) = false := by simpa using hs1
      have ms1 : (s != 1) = true := by simpa using hs1
      have ds1 : decide (s = 1) = false := decide_eq_false hs1
      have hs2 : ¬ s = 2 := by omega
      have ns2 : (s == 2) = false := by simpa using hs2
      have ms2 : (s != 2) = true := by simpa using hs2
      have ds2 : decide (s = 2) = false := decide_eq_false hs2
      have hs3 : ¬ s = 3 := by omega
      have ns3 : (s == 3) = false := by simpa using hs3
      have ms3 : (s != 3) = true := by simpa using hs3
      have ds3 : decide (s = 3) = false := decide_eq_false hs3
      have e1 : decide (1 ≤ s) = false := decide_eq_false (by omega)
      have e2 : decide (s < 1) = true := decide_eq_true hs
      have r1 : nxtS s 64 = 0 := by unfold nxtS; (repeat' split) <;> omega
      have r2 : nxtE s 64 = 2 := by unfold nxtE; (repeat' split) <;> omega
      rw [r1, r2]
      clear r1 r2
      go_enter Tryd.func23, Tryd.ntmps23
      go_wp2
      go_ret2
      exact ⟨rfl, rfl⟩
    · have hs1 : ¬ s = 1 := by omega
      have ns1 : (s == 1) = false := by simpa using hs1
      have ms1 : (s != 1) = true := by simpa using hs1
      have ds1 : decide (s = 1) = false := decide_eq_false hs1
      have hs2 : ¬ s = 2 := by omega
      have ns2 : (s == 2) = false := by simpa using hs2
      have ms2 : (s != 2) = true := by simpa using hs2
      have ds2 : decide (s = 2) = false := decide_eq_false hs2
      have hs3 : ¬ s = 3 := by omega
      have ns3 : (s == 3) = false := by simpa using hs3
      have ms3 : (s != 3) = true := by simpa using hs3
      have ds3 : decide (s = 3) = false := decide_eq_false hs3
      have e1 : decide (1 ≤ s) = true := decide_eq_true (by omega)
      have e2 : decide (s < 1) = false := decide_eq_false (by omega)
      have e3 : decide (s ≤ 3) = false := decide_eq_false (by omega)
      have e4 : decide (3 < s) = true := decide_eq_true hs
      have r1 : nxtS s 64 = 0 := by unfold nxtS; (repeat' split) <;> omega
      have r2 : nxtE s 64 = 2 := by unfold nxtE; (repeat' split) <;> omega
      rw [r1, r2]
      clear r1 r2
      go_enter Tryd.func23, Tryd.ntmps23
      go_wp2
      go_ret2
      exact ⟨rfl, rfl⟩
  · rcases hs with rfl | rfl | rfl | hs | hs
    · have r1 : nxtS 1 128 = 3 := by unfold nxtS; (repeat' split) <;> omega
      have r2 : nxtE 1 128 = 0 := by unfold nxtE; (repeat' split) <;> omega
      rw [r1, r2]
      clear r1 r2
      go_enter Tryd.func23, Tryd.ntmps23
      go_wp2
      go_ret2
      exact ⟨rfl, rfl⟩
    · have r1 : nxtS 2 128 = 3 := by unfold nxtS; (repeat' split) <;> omega
      have r2 : nxtE 2 128 = 0 := by unfold nxtE; (repeat' split) <;> omega
      rw [r1, r2]
      clear r1 r2
      go_enter Tryd.func23, Tryd.ntmps23
      go_wp2
      go_ret2
      exact ⟨rfl, rfl⟩
    · have r1 : nxtS 3 128 = 0 := by unfold nxtS; (repeat' split) <;> omega
      have r2 : nxtE 3 128 = 14 := by unfold nxtE; (repeat' split) <;> omega
      rw [r1, r2]
      clear r1 r2
      go_enter Tryd.func23, Tryd.ntmps23
      go_wp2
      go_ret2
      exact ⟨rfl, rfl⟩
    · have hs1 : ¬ s = 1 := by omega
      have ns1 : (s == 1) = false := by simpa using hs1
      have ms1 : (s != 1) = true := by simpa using hs1
      have ds1 : decide (s = 1) = false := decide_eq_false hs1
      have hs2 : ¬ s = 2 := by omega
      have ns2 : (s == 2) = false := by simpa using hs2
      have ms2 : (s != 2) = true := by simpa using hs2
      have ds2 : decide (s = 2) = false := decide_eq_false hs2
      have hs3 : ¬ s = 3 := by omega
      have ns3 : (s == 3) = false := by simpa using hs3
      have ms3 : (s != 3) = true := by simpa using hs3
      have ds3 : decide (s = 3) = false := decide_eq_false hs3
      have e1 : decide (1 ≤ s) = false := decide_eq_false (by omega)
      have e2 : decide (s < 1) = true := decide_eq_true hs
      have r1 : nxtS s 128 = 0 := by unfold nxtS; (repeat' split) <;> omega
      have r2 : nxtE s 128 = 2 := by unfold nxtE; (repeat' split) <;> omega
      rw [r1, r2]
      clear r1 r2
      go_enter Tryd.func23, Tryd.ntmps23
      go_wp2
      go_ret2
      exact ⟨rfl, rfl⟩
    · have hs1 : ¬ s = 1 := by omega
      have ns1 : (s == 1) = false := by simpa using hs1
      have ms1 : (s != 1) = true := by simpa using hs1
      have ds1 : decide (s = 1) = false := decide_eq_false hs1
      have hs2 : ¬ s = 2 := by omega
      have ns2 : (s == 2) = false := by simpa using hs2
      have ms2 : (s != 2) = true := by simpa using hs2
      have ds2 : decide (s = 2) = false := decide_eq_false hs2
      have hs3 : ¬ s = 3 := by omega
      have ns3 : (s == 3) = false := by simpa using hs3
      have ms3 : (s != 3) = true := by simpa using hs3
      have ds3 : decide (s = 3) = false := decide_eq_false hs3
      have e1 : decide (1 ≤ s) = true := decide_eq_true (by omega)
      have e2 : decide (s < 1) = false := decide_eq_false (by omega)
      have e3 : decide (s ≤ 3) = false := decide_eq_false (by omega)
      have e4 : decide (3 < s) = true := decide_eq_true hs
      have r1 : nxtS s 128 = 0 := by unfold nxtS; (repeat' split) <;> omega
      have r2 : nxtE s 128 = 2 := by unfold nxtE; (repeat' split) <;> omega
      rw [r1, r2]
      clear r1 r2
      go_enter Tryd.func23, Tryd.ntmps23
      go_wp2
      go_ret2
      exact ⟨rfl, rfl⟩
  · rcases hs with rfl | rfl | rfl | hs | hs
    · have no32 : (o == 32) = false := by simpa using ho32
      have mo32 : (o != 32) = true := by simpa using ho32
      have do32 : decide (o = 32) = false := decide_eq_false ho32
      have no64 : (o == 64) = false := by simpa using ho64
      have mo64 : (o != 64) = true := by simpa using ho64
      have do64 : decide (o = 64) = false := decide_eq_false ho64
      have no128 : (o == 128) = false := by simpa using ho128
      have mo128 : (o != 128) = true := by simpa using ho128
      have do128 : decide (o = 128) = false := decide_eq_false ho128
      have r1 : nxtS 1 o = 0 := by unfold nxtS; (repeat' split) <;> omega
      have r2 : nxtE 1 o = 1 := by unfold nxtE; (repeat' split) <;> omega
      rw [r1, r2]
      clear r1 r2
      go_enter Tryd.func23, Tryd.ntmps23
      go_wp2
      go_ret2
      exact ⟨rfl, rfl⟩
    · have no32 : (o == 32) = false := by simpa using ho32
      have mo32 : (o != 32) = true := by simpa using ho32
      have do32 : decide (o = 32) = false := decide_eq_false ho32
      have no64 : (o == 64) = false := by simpa using ho64
      have mo64 : (o != 64) = true := by simpa using ho64
      have do64 : decide (o = 64) = false := decide_eq_false ho64
      have no128 : (o == 128) = false := by simpa using ho128
      have mo128 : (o != 128) = true := by simpa using ho128
      have do128 : decide (o = 128) = false := decide_eq_false ho128
      have r1 : nxtS 2 o = 0 := by unfold nxtS; (repeat' split) <;> omega
      have r2 : nxtE 2 o = 1 := by unfold nxtE; (repeat' split) <;> omega
      rw [r1, r2]
      clear r1 r2
      go_enter Tryd.func23, Tryd.ntmps23
      go_wp2
      go_ret2
      exact ⟨rfl, rfl⟩
    · have no32 : (o == 32) = false := by simpa using ho32
      have mo32 : (o != 32) = true := by simpa using ho32
      have do32 : decide (o = 32) = false := decide_eq_false ho32
      have no64 : (o == 64) = false := by simpa using ho64
      have mo64 : (o != 64) = true := by simpa using ho64
      have do64 : decide (o = 64) = false := decide_eq_false ho64
      have no128 : (o == 128) = false := by simpa using ho128
      have mo128 : (o != 128) = true := by simpa using ho128
      have do128 : decide (o = 128) = false := decide_eq_false ho128
      have r1 : nxtS 3 o = 0 := by unfold nxtS; (repeat' split) <;> omega
      have r2 : nxtE 3 o = 1 := by unfold nxtE; (repeat' split) <;> omega
      rw [r1, r2]
      clear r1 r2
      go_enter Tryd.func23, Tryd.ntmps23
      go_wp2
      go_ret2
      exact ⟨rfl, rfl⟩
    · have no32 : (o == 32) = false := by simpa using ho32
      have mo32 : (o != 32) = true := by simpa using ho32
      have do32 : decide (o = 32) = false := decide_eq_false ho32
      have no64 : (o == 64) = false := by simpa using ho64
      have mo64 : (o != 64) = true := by simpa using ho64
      have do64 : decide (o = 64) = false := decide_eq_false ho64
      have no128 : (o == 128) = false := by simpa using ho128
      have mo128 : (o != 128) = true := by simpa using ho128
      have do128 : decide (o = 128) = false := decide_eq_false ho128
      have hs1 : ¬ s = 1 := by omega
      have ns1 : (s == 1) = false := by simpa using hs1
      have ms1 : (s != 1) = true := by simpa using hs1
      have ds1 : decide (s = 1) = false := decide_eq_false hs1
      have hs2 : ¬ s = 2 := by omega
      have ns2 : (s == 2) = false := by simpa using hs2
      have ms2 : (s != 2) = true := by simpa using hs2
      have ds2 : decide (s = 2) = false := decide_eq_false hs2
      have hs3 : ¬ s = 3 := by omega
      have ns3 : (s == 3) = false := by simpa using hs3
      have ms3 : (s != 3) = true := by simpa using hs3
      have ds3 : decide (s = 3) = false := decide_eq_false hs3
      have e1 : decide (1 ≤ s) = false := decide_eq_false (by omega)
      have e2 : decide (s < 1) = true := decide_eq_true hs
      have r1 : nxtS s o = 0 := by unfold nxtS; (repeat' split) <;> omega
      have r2 : nxtE s o = 1 := by unfold nxtE; (repeat' split) <;> omega
      rw [r1, r2]
      clear r1 r2
      go_enter Tryd.func23, Tryd.ntmps23
      go_wp2
      go_ret2
      exact ⟨rfl, rfl⟩
    · have no32 : (o == 32) = false := by simpa using ho32
      have mo32 : (o != 32) = true := by simpa using ho32
      have do32 : decide (o = 32) = false := decide_eq_false ho32
      have no64 : (o == 64) = false := by simpa using ho64
      have mo64 : (o != 64) = true := by simpa using ho64
      have do64 : decide (o = 64) = false := decide_eq_false ho64
      have no128 : (o == 128) = false := by simpa using ho128
      have mo128 : (o != 128) = true := by simpa using ho128
      have do128 : decide (o = 128) = false := decide_eq_false ho128
      have hs1 : ¬ s = 1 := by omega
      have ns1 : (s == 1) = false := by simpa using hs1
      have ms1 : (s != 1) = true := by simpa using hs1
      have ds1 : decide (s = 1) = false := decide_eq_false hs1
      have hs2 : ¬ s = 2 := by omega
      have ns2 : (s == 2) = false := by simpa using hs2
      have ms2 : (s != 2) = true := by simpa using hs2
      have ds2 : decide (s = 2) = false := decide_eq_false hs2
      have hs3 : ¬ s = 3 := by omega
      have ns3 : (s == 3) = false := by simpa using hs3
      have ms3 : (s != 3) = true := by simpa using hs3
      have ds3 : decide (s = 3) = false := decide_eq_false hs3
      have e1 : decide (1 ≤ s) = true := decide_eq_true (by omega)
      have e2 : decide (s < 1) = false := decide_eq_false (by omega)
      have e3 : decide (s ≤ 3) = false := decide_eq_false (by omega)
      have e4 : decide (3 < s) = true := decide_eq_true hs
      have r1 : nxtS s o = 0 := by unfold nxtS; (repeat' split) <;> omega
      have r2 : nxtE s o = 1 := by unfold nxtE; (repeat' split) <;> omega
      rw [r1, r2]
      clear r1 r2
      go_enter Tryd.func23, Tryd.ntmps23
      go_wp2
      go_ret2
      exact ⟨rfl, rfl⟩
set_option maxRecDepth 100000 in
set_option maxHeartbeats 1600000 in
theorem pnxt_any (s o : Int) (w : World) : Calls Tryd.prog 22 #[.int .i64 s, .int .i64 o] w (NxtP s o w) := by
  obtain ⟨ho, hs⟩ := nxt_vals s o
  unfold NxtP
  rcases ho with rfl | rfl | rfl | ⟨ho32, ho64, ho128⟩
  · rcases hs with rfl | rfl | rfl | hs | hs
    · have r1 : nxtS 1 32 = 0 := by unfold nxtS; (repeat' split) <;> omega
      have r2 : nxtE 1 32 = 14 := by unfold nxtE; (repeat' split) <;> omega
      rw [r1, r2]
      clear r1 r2
      go_enter Tryd.func22, Tryd.ntmps22
      go_wp2_with (go_at_call 28; refine (vst_any _ _).mono ?_; rintro e w' ⟨rfl, rfl⟩)
      go_ret2
      exact ⟨rfl, rfl⟩
    · have r1 : nxtS 2 32 = 1 := by unfold nxtS; (repeat' split) <;> omega
      have r2 : nxtE 2 32 = 0 := by unfold nxtE; (repeat' split) <;> omega
      rw [r1, r2]
      clear r1 r2
      go_enter Tryd.func22, Tryd.ntmps22
      go_wp2_with (go_at_call 28; refine (vst_any _ _).mono ?_; rintro e w' ⟨rfl, rfl⟩)
      go_ret2
      exact ⟨rfl, rfl⟩
    · have r1 : nxtS 3 32 = 0 := by unfold nxtS; (repeat' split) <;> omega
      have r2 : nxtE 3 32 = 14 := by unfold nxtE; (repeat' split) <;> omega
      rw [r1, r2]
      clear r1 r2
      go_enter Tryd.func22, Tryd.ntmps22
      go_wp2_with (go_at_call 28; refine (vst_any _ _).mono ?_; rintro e w' ⟨rfl, rfl⟩)
      go_ret2
      exact ⟨rfl, rfl⟩
    · have hs1 : ¬ s = 1 := by omega
      have ns1 : (s == 1) = false := by simpa using hs1
      have ms1 : (s != 1) = true := by simpa using hs1
      have ds1 : decide (s = 1) = false := decide_eq_false hs1
      have hs2 : ¬ s = 2 := by omega
      have ns2 : (s == 2) = false := by simpa using hs2
      have ms2 : (s != 2) = true := by simpa using hs2
      have ds2 : decide (s = 2) = false := decide_eq_false hs2
      have hs3 : ¬ s = 3 := by omega
      have ns3 : (s == 3) = false := by simpa using hs3
      have ms3 : (s != 3) = true := by simpa using hs3
      have ds3 : decide (s = 3) = false := decide_eq_false hs3
      have e1 : decide (1 ≤ s) = false := decide_eq_false (by omega)
      have e2 : decide (s < 1) = true := decide_eq_true hs
      have r1 : nxtS s 32 = 0 := by unfold nxtS; (repeat' split) <;> omega
      have r2 : nxtE s 32 = 2 := by unfold nxtE; (repeat' split) <;> omega
      rw [r1, r2]
      clear r1 r2
      go_enter Tryd.func22, Tryd.ntmps22
      have HV : ∀ W, Calls Tryd.prog 28 #[.int .i64 s] W fun e w' => e = .returned (.bool false) ∧ W = w' := fun W => (vst_any s W).mono fun e w' ⟨h1, h2⟩ => ⟨by rw [h1]; (first | rw [e1, Bool.false_and] | rw [e3, Bool.and_false]), h2⟩
      go_wp2_with (go_at_call 28; refine (HV _).mono ?_; rintro e w' ⟨rfl, rfl⟩)
      go_ret2
      exact ⟨rfl, rfl⟩
    · have hs1 : ¬ s = 1 := by omega
      have ns1 : (s == 1) = false := by simpa using hs1
      have ms1 : (s != 1) = true := by simpa using hs1
      have ds1 : decide (s = 1) = false := decide_eq_false hs1
      have hs2 : ¬ s = 2 := by omega
      have ns2 : (s == 2) = false := by simpa using hs2
      have ms2 : (s != 2) = true := by simpa using hs2
      have ds2 : decide (s = 2) = false := decide_eq_false hs2
      have hs3 : ¬ s = 3 := by omega
      have ns3 : (s == 3) = false := by simpa using hs3
      have ms3 : (s != 3) = true := by simpa using hs3
      have ds3 : decide (s = 3) = false := decide_eq_false hs3
      have e1 : decide (1 ≤ s) = true := decide_eq_true (by omega)
      have e2 : decide (s < 1) = false := decide_eq_false (by omega)
      have e3 : decide (s ≤ 3) = false := decide_eq_false (by omega)
      have e4 : decide (3 < s) = true := decide_eq_true hs
      have r1 : nxtS s 32 = 0 := by unfold nxtS; (repeat' split) <;> omega
      have r2 : nxtE s 32 = 2 := by unfold nxtE; (repeat' split) <;> omega
      rw [r1, r2]
      clear r1 r2
      go_enter Tryd.func22, Tryd.ntmps22
      have HV : ∀ W, Calls Tryd.prog 28 #[.int .i64 s] W fun e w' => e = .returned (.bool false) ∧ W = w' := fun W => (vst_any s W).mono fun e w' ⟨h1, h2⟩ => ⟨by rw [h1]; (first | rw [e1, Bool.false_and] | rw [e3, Bool.and_false]), h2⟩
      go_wp2_with (go_at_call 28; refine (HV _).mono ?_; rintro e w' ⟨rfl, rfl⟩)
      go_ret2
      exact ⟨rfl, rfl⟩
  · rcases hs with rfl | rfl | rfl | hs | hs
    · have r1 : nxtS 1 64 = 2 := by unfold nxtS; (repeat' split) <;> omega
      have r2 : nxtE 1 64 = 0 := by unfold nxtE; (repeat' split) <;> omega
      rw [r1, r2]
      clear r1 r2
      go_enter Tryd.func22, Tryd.ntmps22
      go_wp2_with (go_at_call 28; refine (vst_any _ _).mono ?_; rintro e w' ⟨rfl, rfl⟩)
      go_ret2
      exact ⟨rfl, rfl⟩
    · have r1 : nxtS 2 64 = 0 := by unfold nxtS; (repeat' split) <;> omega
      have r2 : nxtE 2 64 = 14 := by unfold nxtE; (repeat' split) <;> omega
      rw [r1, r2]
      clear r1 r2
      go_enter Tryd.func22, Tryd.ntmps22
      go_wp2_with (go_at_call 28; refine (vst_any _ _).mono ?_; rintro e w' ⟨rfl, rfl⟩)
      go_ret2
      exact ⟨rfl, rfl⟩
    · have r1 : nxtS 3 64 = 0 := by unfold nxtS; (repeat' split) <;> omega
      have r2 : nxtE 3 64 = 14 := by unfold nxtE; (repeat' split) <;> omega
      rw [r1, r2]
      clear r1 r2
      go_enter Tryd.func22, Tryd.ntmps22
      go_wp2_with (go_at_call 28; refine (vst_any _ _).mono ?_; rintro e w' ⟨rfl, rfl⟩)
      go_ret2
      exact ⟨rfl, rfl⟩
    · have hs1 : ¬ s = 1 := by omega
      have ns1 : (s == 1) = false := by simpa using hs1
      have ms1 : (s != 1) = true := by simpa using hs1
      have ds1 : decide (s = 1) = false := decide_eq_false hs1
      have hs2 : ¬ s = 2 := by omega
      have ns2 : (s == 2) = false := by simpa using hs2
      have ms2 : (s != 2) = true := by simpa using hs2
      have ds2 : decide (s = 2) = false := decide_eq_false hs2
      have hs3 : ¬ s = 3 := by omega
      have ns3 : (s == 3) = false := by simpa using hs3
      have ms3 : (s != 3) = true := by simpa using hs3
      have ds3 : decide (s = 3) = false := decide_eq_false hs3
      have e1 : decide (1 ≤ s) = false := decide_eq_false (by omega)
      have e2 : decide (s < 1) = true := decide_eq_true hs
      have r1 : nxtS s 64 = 0 := by unfold nxtS; (repeat' split) <;> omega
      have r2 : nxtE s 64 = 2 := by unfold nxtE; (repeat' split) <;> omega
      rw [r1, r2]
      clear r1 r2
      go_enter Tryd.func22, Tryd.ntmps22
      have HV : ∀ W, Calls Tryd.prog 28 #[.int .i64 s] W fun e w' => e = .returned (.bool false) ∧ W = w' := fun W => (vst_any s W).mono fun e w' ⟨h1, h2⟩ => ⟨by rw [h1]; (first | rw [e1, Bool.false_and] | rw [e3, Bool.and_false]), h2⟩
      go_wp2_with (go_at_call 28; refine (HV _).mono ?_; rintro e w' ⟨rfl, rfl⟩)
      go_ret2
      exact ⟨rfl, rfl⟩
    · have hs1 : ¬ s = 1 := by omega
      have ns1 : (s == 1) = false := by simpa using hs1
      have ms1 : (s != 1) = true := by simpa using hs1
      have ds1 : decide (s = 1) = false := decide_eq_false hs1
      have hs2 : ¬ s = 2 := by omega
      have ns2 : (s == 2) = false := by simpa using hs2
      have ms2 : (s != 2) = true := by simpa using hs2
      have ds2 : decide (s = 2) = false := decide_eq_false hs2
      have hs3 : ¬ s = 3 := by omega
      have ns3 : (s == 3) = false := by simpa using hs3
      have ms3 : (s != 3) = true := by simpa using hs3
      have ds3 : decide (s = 3) = false := decide_eq_false hs3
      have e1 : decide (1 ≤ s) = true := decide_eq_true (by omega)
      have e2 : decide (s < 1) = false := decide_eq_false (by omega)
      have e3 : decide (s ≤ 3) = false := decide_eq_false (by omega)
      have e4 : decide (3 < s) = true := decide_eq_true hs
      have r1 : nxtS s 64 = 0 := by unfold nxtS; (repeat' split) <;> omega
      have r2 : nxtE s 64 = 2 := by unfold nxtE; (repeat' split) <;> omega
      rw [r1, r2]
      clear r1 r2
      go_enter Tryd.func22, Tryd.ntmps22
      have HV : ∀ W, Calls Tryd.prog 28 #[.int .i64 s] W fun e w' => e = .returned (.bool false) ∧ W = w' := fun W => (vst_any s W).mono fun e w' ⟨h1, h2⟩ => ⟨by rw [h1]; (first | rw [e1, Bool.false_and] | rw [e3, Bool.and_false]), h2⟩
      go_wp2_with (go_at_call 28; refine (HV _).mono ?_; rintro e w' ⟨rfl, rfl⟩)
      go_ret2
      exact ⟨rfl, rfl⟩
  · rcases hs with rfl | rfl | rfl | hs | hs
    · have r1 : nxtS 1 128 = 3 := by unfold nxtS; (repeat' split) <;> omega
      have r2 : nxtE 1 128 = 0 := by unfold nxtE; (repeat' split) <;> omega
      rw [r1, r2]
      clear r1 r2
      go_enter Tryd.func22, Tryd.ntmps22
      go_wp2_with (go_at_call 28; refine (vst_any _ _).mono ?_; rintro e w' ⟨rfl, rfl⟩)
      go_ret2
      exact ⟨rfl, rfl⟩
    · have r1 : nxtS 2 128 = 3 := by unfold nxtS; (repeat' split) <;> omega
      have r2 : nxtE 2 128 = 0 := by unfold nxtE; (repeat' split) <;> omega
      rw [r1, r2]
      clear r1 r2
      go_enter Tryd.func22, Tryd.ntmps22
      go_wp2_with (go_at_call 28; refine (vst_any _ _).mono ?_; rintro e w' ⟨rfl, rfl⟩)
      go_ret2
      exact ⟨rfl, rfl⟩
    · have r1 : nxtS 3 128 = 0 := by unfold nxtS; (repeat' split) <;> omega
      have r2 : nxtE 3 128 = 14 := by unfold nxtE; (repeat' split) <;> omega
      rw [r1, r2]
      clear r1 r2
      go_enter Tryd.func22, Tryd.ntmps22
      go_wp2_with (go_at_call 28; refine (vst_any _ _).mono ?_; rintro e w' ⟨rfl, rfl⟩)
      go_ret2
      exact ⟨rfl, rfl⟩
    · have hs1 : ¬ s = 1 := by omega
      have ns1 : (s == 1) = false := by simpa using hs1
      have ms1 : (s != 1) = true := by simpa using hs1
      have ds1 : decide (s = 1) = false := decide_eq_false hs1
      have hs2 : ¬ s = 2 := by omega
      have ns2 : (s == 2) = false := by simpa using hs2
      have ms2 : (s != 2) = true := by simpa using hs2
      have ds2 : decide (s = 2) = false := decide_eq_false hs2
      have hs3 : ¬ s = 3 := by omega
      have ns3 : (s == 3) = false := by simpa using hs3
      have ms3 : (s != 3) = true := by simpa using hs3
      have ds3 : decide (s = 3) = false := decide_eq_false hs3
      have e1 : decide (1 ≤ s) = false := decide_eq_false (by omega)
      have e2 : decide (s < 1) = true := decide_eq_true hs
      have r1 : nxtS s 128 = 0 := by unfold nxtS; (repeat' split) <;> omega
      have r2 : nxtE s 128 = 2 := by unfold nxtE; (repeat' split) <;> omega
      rw [r1, r2]
      clear r1 r2
      go_enter Tryd.func22, Tryd.ntmps22
      have HV : ∀ W, Calls Tryd.prog 28 #[.int .i64 s] W fun e w' => e = .returned (.bool false) ∧ W = w' := fun W => (vst_any s W).mono fun e w' ⟨h1, h2⟩ => ⟨by rw [h1]; (first | rw [e1, Bool.false_and] | rw [e3, Bool.and_false]), h2⟩
      go_wp2_with (go_at_call 28; refine (HV _).mono ?_; rintro e w' ⟨rfl, rfl⟩)
      go_ret2
      exact ⟨rfl, rfl⟩
    · have hs1 : ¬ s = 1 := by omega
      have ns1 : (s == 1) = false := by simpa using hs1
      have ms1 : (s != 1) = true := by simpa using hs1
      have ds1 : decide (s = 1) = false := decide_eq_false hs1
      have hs2 : ¬ s = 2 := by omega
      have ns2 : (s == 2) = false := by simpa using hs2
      have ms2 : (s != 2) = true := by simpa using hs2
      have ds2 : decide (s = 2) = false := decide_eq_false hs2
      have hs3 : ¬ s = 3 := by omega
      have ns3 : (s == 3) = false := by simpa using hs3
      have ms3 : (s != 3) = true := by simpa using hs3
      have ds3 : decide (s = 3) = false := decide_eq_false hs3
      have e1 : decide (1 ≤ s) = true := decide_eq_true (by omega)
      have e2 : decide (s < 1) = false := decide_eq_false (by omega)
      have e3 : decide (s ≤ 3) = false := decide_eq_false (by omega)
      have e4 : decide (3 < s) = true := decide_eq_true hs
      have r1 : nxtS s 128 = 0 := by unfold nxtS; (repeat' split) <;> omega
      have r2 : nxtE s 128 = 2 := by unfold nxtE; (repeat' split) <;> omega
      rw [r1, r2]
      clear r1 r2
      go_enter Tryd.func22, Tryd.ntmps22
      have HV : ∀ W, Calls Tryd.prog 28 #[.int .i64 s] W fun e w' => e = .returned (.bool false) ∧ W = w' := fun W => (vst_any s W).mono fun e w' ⟨h1, h2⟩ => ⟨by rw [h1]; (first | rw [e1, Bool.false_and] | rw [e3, Bool.and_false]), h2⟩
      go_wp2_with (go_at_call 28; refine (HV _).mono ?_; rintro e w' ⟨rfl, rfl⟩)
      go_ret2
      exact ⟨rfl, rfl⟩
  · rcases hs with rfl | rfl | rfl | hs | hs
    · have no32 : (o == 32) = false := by simpa using ho32
      have mo32 : (o != 32) = true := by simpa using ho32
      have do32 : decide (o = 32) = false := decide_eq_false ho32
      have no64 : (o == 64) = false := by simpa using ho64
      have mo64 : (o != 64) = true := by simpa using ho64
      have do64 : decide (o = 64) = false := decide_eq_false ho64
      have no128 : (o == 128) = false := by simpa using ho128
      have mo128 : (o != 128) = true := by simpa using ho128
      have do128 : decide (o = 128) = false := decide_eq_false ho128
      have r1 : nxtS 1 o = 0 := by unfold nxtS; (repeat' split) <;> omega
      have r2 : nxtE 1 o = 1 := by unfold nxtE; (repeat' split) <;> omega
      rw [r1, r2]
      clear r1 r2
      go_enter Tryd.func22, Tryd.ntmps22
      go_wp2_with (go_at_call 28; refine (vst_any _ _).mono ?_; rintro e w' ⟨rfl, rfl⟩)
      go_ret2
      exact ⟨rfl, rfl⟩
    · have no32 : (o == 32) = false := by simpa using ho32
      have mo32 : (o != 32) = true := by simpa using ho32
      have do32 : decide (o = 32) = false := decide_eq_false ho32
      have no64 : (o == 64) = false := by simpa using ho64
      have mo64 : (o != 64) = true := by simpa using ho64
      have do64 : decide (o = 64) = false := decide_eq_false ho64
      have no128 : (o == 128) = false := by simpa using ho128
      have mo128 : (o != 128) = true := by simpa using ho128
      have do128 : decide (o = 128) = false := decide_eq_false ho128
      have r1 : nxtS 2 o = 0 := by unfold nxtS; (repeat' split) <;> omega
      have r2 : nxtE 2 o = 1 := by unfold nxtE; (repeat' split) <;> omega
      rw [r1, r2]
      clear r1 r2
      go_enter Tryd.func22, Tryd.ntmps22
      go_wp2_with (go_at_call 28; refine (vst_any _ _).mono ?_; rintro e w' ⟨rfl, rfl⟩)
      go_ret2
      exact ⟨rfl, rfl⟩
    · have no32 : (o == 32) = false := by simpa using ho32
      have mo32 : (o != 32) = true := by simpa using ho32
      have do32 : decide (o = 32) = false := decide_eq_false ho32
      have no64 : (o == 64) = false := by simpa using ho64
      have mo64 : (o != 64) = true := by simpa using ho64
      have do64 : decide (o = 64) = false := decide_eq_false ho64
      have no128 : (o == 128) = false := by simpa using ho128
      have mo128 : (o != 128) = true := by simpa using ho128
      have do128 : decide (o = 128) = false := decide_eq_false ho128
      have r1 : nxtS 3 o = 0 := by unfold nxtS; (repeat' split) <;> omega
      have r2 : nxtE 3 o = 1 := by unfold nxtE; (repeat' split) <;> omega
      rw [r1, r2]
      clear r1 r2
      go_enter Tryd.func22, Tryd.ntmps22
      go_wp2_with (go_at_call 28; refine (vst_any _ _).mono ?_; rintro e w' ⟨rfl, rfl⟩)
      go_ret2
      exact ⟨rfl, rfl⟩
    · have no32 : (o == 32) = false := by simpa using ho32
      have mo32 : (o != 32) = true := by simpa using ho32
      have do32 : decide (o = 32) = false := decide_eq_false ho32
      have no64 : (o == 64) = false := by simpa using ho64
      have mo64 : (o != 64) = true := by simpa using ho64
      have do64 : decide (o = 64) = false := decide_eq_false ho64
      have no128 : (o == 128) = false := by simpa using ho128
      have mo128 : (o != 128) = true := by simpa using ho128
      have do128 : decide (o = 128) = false := decide_eq_false ho128
      have hs1 : ¬ s = 1 := by omega
      have ns1 : (s == 1) = false := by simpa using hs1
      have ms1 : (s != 1) = true := by simpa using hs1
      have ds1 : decide (s = 1) = false := decide_eq_false hs1
      have hs2 : ¬ s = 2 := by omega
      have ns2 : (s == 2) = false := by simpa using hs2
      have ms2 : (s != 2) = true := by simpa using hs2
      have ds2 : decide (s = 2) = false := decide_eq_false hs2
      have hs3 : ¬ s = 3 := by omega
      have ns3 : (s == 3) = false := by simpa using hs3
      have ms3 : (s != 3) = true := by simpa using hs3
      have ds3 : decide (s = 3) = false := decide_eq_false hs3
      have e1 : decide (1 ≤ s) = false := decide_eq_false (by omega)
      have e2 : decide (s < 1) = true := decide_eq_true hs
      have r1 : nxtS s o = 0 := by unfold nxtS; (repeat' split) <;> omega
      have r2 : nxtE s o = 1 := by unfold nxtE; (repeat' split) <;> omega
      rw [r1, r2]
      clear r1 r2
      go_enter Tryd.func22, Tryd.ntmps22
      have HV : ∀ W, Calls Tryd.prog 28 #[.int .i64 s] W fun e w' => e = .returned (.bool false) ∧ W = w' := fun W => (vst_any s W).mono fun e w' ⟨h1, h2⟩ => ⟨by rw [h1]; (first | rw [e1, Bool.false_and] | rw [e3, Bool.and_false]), h2⟩
      go_wp2_with (go_at_call 28; refine (HV _).mono ?_; rintro e w' ⟨rfl, rfl⟩)
      go_ret2
      exact ⟨rfl, rfl⟩
    · have no32 : (o == 32) = false := by simpa using ho32
      have mo32 : (o != 32) = true := by simpa using ho32
      have do32 : decide (o = 32) = false := decide_eq_false ho32
      have no64 : (o == 64) = false := by simpa using ho64
      have mo64 : (o != 64) = true := by simpa using ho64
      have do64 : decide (o = 64) = false := decide_eq_false ho64
      have no128 : (o == 128) = false := by simpa using ho128
      have mo128 : (o != 128) = true := by simpa using ho128
      have do128 : decide (o = 128) = false := decide_eq_false ho128
      have hs1 : ¬ s = 1 := by omega
      have ns1 : (s == 1) = false := by simpa using hs1
      have ms1 : (s != 1) = true := by simpa using hs1
      have ds1 : decide (s = 1) = false := decide_eq_false hs1
      have hs2 : ¬ s = 2 := by omega
      have ns2 : (s == 2) = false := by simpa using hs2
      have ms2 : (s != 2) = true := by simpa using hs2
      have ds2 : decide (s = 2) = false := decide_eq_false hs2
      have hs3 : ¬ s = 3 := by omega
      have ns3 : (s == 3) = false := by simpa using hs3
      have ms3 : (s != 3) = true := by simpa using hs3
      have ds3 : decide (s = 3) = false := decide_eq_false hs3
      have e1 : decide (1 ≤ s) = true := decide_eq_true (by omega)
      have e2 : decide (s < 1) = false := decide_eq_false (by omega)
      have e3 : decide (s ≤ 3) = false := decide_eq_false (by omega)
      have e4 : decide (3 < s) = true := decide_eq_true hs
      have r1 : nxtS s o = 0 := by unfold nxtS; (repeat' split) <;> omega
      have r2 : nxtE s o = 1 := by unfold nxtE; (repeat' split) <;> omega
      rw [r1, r2]
      clear r1 r2
      go_enter Tryd.func22, Tryd.ntmps22
      have HV : ∀ W, Calls Tryd.prog 28 #[.int .i64 s] W fun e w' => e = .returned (.bool false) ∧ W = w' := fun W => (vst_any s W).mono fun e w' ⟨h1, h2⟩ => ⟨by rw [h1]; (first | rw [e1, Bool.false_and] | rw [e3, Bool.and_false]), h2⟩
      go_wp2_with (go_at_call 28; refine (HV _).mono ?_; rintro e w' ⟨rfl, rfl⟩)
      go_ret2
      exact ⟨rfl, rfl⟩
end Go.Proofs.YtkjcafhaenkpbaaDoor
