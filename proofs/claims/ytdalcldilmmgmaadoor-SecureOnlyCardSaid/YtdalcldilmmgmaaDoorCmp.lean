
/-
  The walk of the reference's Compare.
-/
import Derived.Test.YtdalcldilmmgmaaDoorChecked
import Derived.Test.YtdalcldilmmgmaaDoorMem
import Derived.Test.YtdalcldilmmgmaaDoorMath
import Derived.Deep.QuietTactic
import Derived.BigQuiet
import Derived.Lib.Hide
namespace Go.Proofs.YtdalcldilmmgmaaDoor
set_option linter.unusedVariables false
set_option linter.unusedSimpArgs false
open Go.RowKit

theorem ret_int {k : IntKind} {a b : Int} (h : a = b) : Ending.returned (.int k a) = .returned (.int k b) := by rw [h]

theorem dn1 (w : World) (n : Nat) : ∃ m, w.drewN n = w.drewN m := ⟨n, rfl⟩
theorem dn2 (w : World) (n m : Nat) : ∃ k, (w.drewN n).drewN m = w.drewN k := ⟨n + m, World.drewN_drewN ..⟩
theorem u8_eq {x y : UInt8} (h : ¬ x.toNat < y.toNat) (g : ¬ y.toNat < x.toNat) : x = y := UInt8.toNat_inj.1 (by omega)
theorem agree_snoc {a b : List UInt8} {k : Nat} (h : ∀ j, j < k → a.getD j 0 = b.getD j 0) (hk : a.getD k 0 = b.getD k 0) : ∀ j, j < k + 1 → a.getD j 0 = b.getD j 0 := by
  intro j hj
  by_cases e : j = k
  · rw [e]; exact hk
  · exact h j (by omega)

set_option maxHeartbeats 400000 in
theorem rcmp_any (a b : List UInt8) (v u : Value) (w : World) (B : Nat) (ha : SL w B v a) (hb : SL w B u b) :
    Calls Tryd.prog 35 #[v, u] w fun e w' => e = .returned (.int .i64 (cmpL a b)) ∧ ∃ n, w' = w.drewN n := by
  obtain ⟨A1, c1, rfl, h11, h12, h13⟩ := ha
  obtain ⟨A2, c2, rfl, h21, h22, h23⟩ := hb
  unfold maxLen at h12 h22
  go_enter Tryd.func35, Tryd.ntmps35
  go_wp2
  go_loopw [5] (fun i wr => ∃ k : Nat, k ≤ a.length ∧ k ≤ b.length ∧ i = .int .i64 k ∧ (∀ j, j < k → a.getD j 0 = b.getD j 0) ∧ ∃ n, wr = w.drewN n) (fun i _ => a.length - (intOf i).toNat)
  case atStart => exact ⟨0, Nat.zero_le _, Nat.zero_le _, rfl, fun j hj => absurd hj (by omega), 0, rfl⟩
  case round =>
    obtain ⟨k, hka, hkb, rfl, heq, n, rfl⟩ := hrel
    have HE := Lib.hid heq
    clear heq
    by_cases h1 : k < a.length
    · by_cases h2 : k < b.length
      · obtain ⟨b1, o1, rfl, hb1, hc1⟩ := h13 (by omega)
        obtain ⟨b2, o2, rfl, hb2, hc2⟩ := h23 (by omega)
        have g1 := hc1 k h1
        have g2 := hc2 k h2
        have H1 := Lib.hid hc1
        have H2 := Lib.hid hc2
        clear hc1 hc2 h13 h23
        go_wp2
        go_quiet (fail)
        go_wp2
        · have hlt : a[k].toNat < b[k].toNat := by assumption
          go_ret
          exact ⟨ret_int (cmpL_lt a b k h1 h2 HE.out (by simpa [List.getD, List.getElem?_eq_getElem h1, List.getElem?_eq_getElem h2] using hlt)).symm, dn2 ..⟩
        · have hge : ¬ a[k].toNat < b[k].toNat := by assumption
          go_quiet (fail)
          go_wp2
          · have hlt : b[k].toNat < a[k].toNat := by assumption
            go_ret
            exact ⟨ret_int (cmpL_gt a b k h1 h2 HE.out (by simpa [List.getD, List.getElem?_eq_getElem h1, List.getElem?_eq_getElem h2] using hlt)).symm, by simp only [World.drewN_drewN]; exact ⟨_, rfl⟩⟩
          · have hge2 : ¬ b[k].toNat < a[k].toNat := by assumption
            go_roundw
            case rel => exact ⟨k + 1, by omega, by omega, by go_num, agree_snoc HE.out (by simpa [List.getD, List.getElem?_eq_getElem h1, List.getElem?_eq_getElem h2] using u8_eq hge hge2), dn1 ..⟩
            case measure => simp [intOf]; omega
      · have hk : k = b.length := by omega
        subst hk
        go_wp2
        · go_ret
          exact ⟨ret_int (cmpL_end_gt a b (by omega) HE.out).symm, dn1 ..⟩
    · have hk : k = a.length := by omega
      subst hk
      go_wp2
      · go_ret
        exact ⟨ret_int (cmpL_end_lt a b (by omega) HE.out).symm, dn1 ..⟩
      · go_ret
        exact ⟨ret_int (cmpL_end_eq a b (by omega) HE.out).symm, dn1 ..⟩
end Go.Proofs.YtdalcldilmmgmaaDoor
