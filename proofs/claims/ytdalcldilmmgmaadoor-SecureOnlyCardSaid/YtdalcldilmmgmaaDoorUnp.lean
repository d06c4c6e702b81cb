
/-
  The walks of Unpad, of the program and of the reference, and bytes.Clone.
-/
import Derived.Test.YtdalcldilmmgmaaDoorCmpb
namespace Go.Proofs.YtdalcldilmmgmaaDoor
set_option linter.unusedVariables false
set_option linter.unusedSimpArgs false
open Go.RowKit

theorem clone_any (l : List UInt8) (v : Value) (w : World) (hl : SL w w.heap.size v l) (hs : l.length ≤ 100000000) :
    Calls Tryd.prog 23 #[v] w fun e w' => ∃ v', e = .returned v' ∧ SL w' w'.heap.size v' l ∧ Below w.heap.size w w' := by
  obtain ⟨A1, c1, rfl, h11, h12, h13⟩ := hl
  rcases A1 with _ | a
  · have h0 : l = [] := by
      rcases Nat.eq_zero_or_pos l.length with h | h
      · exact List.eq_nil_of_length_eq_zero h
      · obtain ⟨b, o, hA, _⟩ := h13 h
        cases hA
    subst h0
    exact (Tryd.bytes_Clone_nil 0 c1 w).mono fun e w' ⟨he, hw⟩ => ⟨_, he, SL.nil _ _ _ _ (Nat.zero_le _), by rw [hw]; exact Below.refl _ _⟩
  · refine (Tryd.bytes_Clone_at a l.length c1 (l.map fun x => (x.toNat : Int)) w (by simp) (by omega) (fun i hi => ?_)).mono fun e w' ⟨v', he, ho, _, hb⟩ => ⟨v', he, ?_, hb⟩
    · obtain ⟨b, o, hA, _, hc⟩ := h13 (by omega)
      simp only [Option.some.injEq] at hA
      subst hA
      rw [addr_add, hc i hi, map_nat_getD]
    · have e2 : (l.map fun x => (x.toNat : Int)).map (Value.int .u8) = l.map bv := by rw [List.map_map]; rfl
      rw [e2] at ho
      exact OB.sl (base := w.heap.size) ho

end Go.Proofs.YtdalcldilmmgmaaDoor
