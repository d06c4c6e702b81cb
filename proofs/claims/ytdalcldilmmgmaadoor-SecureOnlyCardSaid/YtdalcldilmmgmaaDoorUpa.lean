/-
  The walk of Unpad.
-/
import Derived.Test.YtdalcldilmmgmaaDoorPad
import Derived.Test.YtdalcldilmmgmaaDoorUnp
namespace Go.Proofs.YtdalcldilmmgmaaDoor
set_option linter.unusedVariables false
set_option linter.unusedSimpArgs false
open Go.RowKit

set_option maxRecDepth 100000 in
set_option maxHeartbeats 800000 in
theorem punpad_any (l : List UInt8) (v : Value) (w : World) (hl : SL w w.heap.size v l) (hs : l.length ≤ 200000) (P : Ending → World → Prop)
    (hok : ∀ m, unpadL l = some m → ∀ v' w', SL w' w'.heap.size v' m → Below w.heap.size w w' → P (.returned (.tuple #[v', .int .i64 0])) w')
    (hno : unpadL l = none → P (.returned (.tuple #[.slice none 0 0, .int .i64 4])) w) :
    Calls Tryd.prog 65 #[v] w P := by
  have HOK := Lib.hid hok
  have HNO := Lib.hid hno
  clear hok hno
  have HSL := hl
  obtain ⟨A1, c1, rfl, h11, h12, h13⟩ := hl
  unfold maxLen at h12
  go_enter Tryd.func65, Tryd.ntmps65
  go_wp2_with fail
  go_loop [4] (fun i => ∃ t : Nat, t ≤ l.length ∧ i = .int .i64 ((t : Int) - 1) ∧ Hid (unpadL l = unp l t)) (fun i => (intOf i + 1).toNat)
  case atStart => exact ⟨l.length, Nat.le_refl _, rfl, rfl⟩
  case round =>
    obtain ⟨t, ht, rfl, hu⟩ := hrel
    rcases t with _ | s
    · go_wp2_with fail
      exact HNO.out (by rw [hu.out]; rfl)
    · obtain ⟨b1, o1, rfl, hb1, hc1⟩ := h13 (by omega)
      have g1 := hc1 s (by omega)
      have hp : s < l.length := by omega
      have es : ((s + 1 : Nat) : Int) - 1 = (s : Int) := by omega
      rw [es]
      clear es
      by_cases h0 : l.getD s 0 = 0
      · have ht : (((l[s]'hp).toNat : Int) == 0) = true := by rw [gd hp, h0]; rfl
        have hu' := Lib.hid (show unp l (s + 1) = unp l s from by rw [unp, if_pos h0])
        clear h0
        go_wp2_with fail
        go_round
        case rel => exact ⟨s, by omega, by go_num, hu.out.trans hu'.out⟩
        case measure => simp [intOf]
      · have ht : (((l[s]'hp).toNat : Int) == 0) = false := by
          rw [gd hp, beq_eq_false_iff_ne]
          intro e
          exact h0 (UInt8.toNat_inj.1 (by simpa using e))
        by_cases h8 : l.getD s 0 = 128
        · have ht8 : (((l[s]'hp).toNat : Int) != 128) = false := by rw [gd hp, h8]; rfl
          have hu' := Lib.hid (show unp l (s + 1) = some (l.take s) from by rw [unp, if_neg h0, if_pos h8])
          clear h0 h8
          have hc := fun (x : Nat) (hx : x ≤ l.length) => clone_any (l.take x) (.slice (some ⟨b1, o1, none⟩) x c1) w (HSL.take hx) (by simp; omega)
          have HC := Lib.hid (hc s (by omega))
          clear hc
          go_wp2_with (go_at_call 23; refine HC.out.mono ?_; rintro e w' ⟨v', rfl, hv', hb'⟩)
          exact HOK.out _ (hu.out.trans hu'.out) _ _ hv' hb'
        · have ht8 : (((l[s]'hp).toNat : Int) != 128) = true := by
            rw [gd hp, bne_iff_ne]
            intro e
            have e' : (l.getD s 0).toNat = 128 := by omega
            exact h8 (UInt8.toNat_inj.1 e')
          have hu' := Lib.hid (show unp l (s + 1) = none from by rw [unp, if_neg h0, if_neg h8])
          clear h0 h8
          go_wp2_with fail
          exact HNO.out (hu.out.trans hu'.out)
end Go.Proofs.YtdalcldilmmgmaaDoor
