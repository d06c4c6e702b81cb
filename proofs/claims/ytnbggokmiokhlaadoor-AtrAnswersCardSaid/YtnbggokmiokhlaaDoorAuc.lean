/-
  Request of both: the walks.
-/
import Derived.Test.YtnbggokmiokhlaaDoorAtv
namespace Go.Proofs.YtnbggokmiokhlaaDoor
set_option linter.unusedVariables false
set_option linter.unusedSimpArgs false
open Go.RowKit

def reqE (n : Int) : Int := if n = 0 then 0 else if n = 1 then 0 else 1
def reqV (n : Int) : List UInt8 := if n = 0 then [255, 0, 255] else if n = 1 then [255, 1, 254] else []
/-- What Request returns. -/
def ReqR (n : Int) (w : World) (e : Ending) (w' : World) : Prop :=
  ∃ v', e = .returned (.tuple #[v', .int .i64 (reqE n)]) ∧ SL w' w'.heap.size v' (reqV n) ∧ Below w.heap.size w w'

set_option maxRecDepth 100000 in
theorem preq_any (n : Int) (w : World) (hT : Tb w) : Calls Tryd.prog 31 #[.int .i64 n] w (ReqR n w) := by
  have HT := Lib.hid hT
  have HI := Lib.hid (fun (W : World) => pisp_any n W)
  by_cases h0 : n = 0
  · subst h0
    have HP : Hid (∀ W, Tb W → SL (W.alloc (.cells #[.int .u8 255, .int .u8 0] 5)) (W.alloc (.cells #[.int .u8 255, .int .u8 0] 5)).heap.size (.slice (some ⟨W.heap.size, 0, none⟩) 2 2) [255, 0]) := fun W _ => SL.lit' W [255, 0] (by decide)
    have hal := alloc_below w (.cells #[.int .u8 255, .int .u8 0] 5)
    have HA := Lib.hid (papp_any 0 [255, 0] _ (w.alloc (.cells #[.int .u8 255, .int .u8 0] 5)) (HP.out w hT) (hT.on hal) (by decide))
    unfold AppR at HA
    have HAL := Lib.hid hal
    clear hal
    go_enter Tryd.func31, Tryd.ntmps31
    go_wp2_with fail
    refine (HI.out _).mono ?_
    rintro e w1 ⟨rfl, rfl⟩
    go_wp2_with fail
    refine HA.out.mono ?_
    rintro e w2 ⟨v', rfl, hv, hb⟩
    go_wp2_with fail
    go_ret2
    exact ⟨v', rfl, hv, HAL.out.trans (hb.mono HAL.out.size)⟩
  · by_cases h1 : n = 1
    · subst h1
      have HP : Hid (∀ W, Tb W → SL (W.alloc (.cells #[.int .u8 255, .int .u8 1] 5)) (W.alloc (.cells #[.int .u8 255, .int .u8 1] 5)).heap.size (.slice (some ⟨W.heap.size, 0, none⟩) 2 2) [255, 1]) := fun W _ => SL.lit' W [255, 1] (by decide)
      have hal := alloc_below w (.cells #[.int .u8 255, .int .u8 1] 5)
      have HA := Lib.hid (papp_any 0 [255, 1] _ (w.alloc (.cells #[.int .u8 255, .int .u8 1] 5)) (HP.out w hT) (hT.on hal) (by decide))
      unfold AppR at HA
      have HAL := Lib.hid hal
      clear hal
      go_enter Tryd.func31, Tryd.ntmps31
      go_wp2_with fail
      refine (HI.out _).mono ?_
      rintro e w1 ⟨rfl, rfl⟩
      go_wp2_with fail
      refine HA.out.mono ?_
      rintro e w2 ⟨v', rfl, hv, hb⟩
      go_wp2_with fail
      go_ret2
      exact ⟨v', rfl, hv, HAL.out.trans (hb.mono HAL.out.size)⟩
    · have HE : Hid (reqE n = 1) := by show _ = _; rw [reqE, if_neg h0, if_neg h1]
      have HV : Hid (reqV n = []) := by show _ = _; rw [reqV, if_neg h0, if_neg h1]
      have HI : Hid (∀ W, Calls Tryd.prog 60 #[.int .i64 n] W fun e w' => e = .returned (.bool false) ∧ W = w') := fun W => (HI.out W).mono fun e w' h => ⟨by rw [h.1]; simp [h0, h1], h.2⟩
      clear h0 h1
      go_enter Tryd.func31, Tryd.ntmps31
      go_wp2_with fail
      refine (HI.out _).mono ?_
      rintro e w1 ⟨rfl, rfl⟩
      go_wp2_with fail
      go_ret2
      exact ⟨.slice none 0 0, by rw [HE.out]; rfl, by rw [HV.out]; exact SL.nil _ _ _ _ (Nat.zero_le _), Below.refl _ _⟩

set_option maxRecDepth 100000 in
theorem rreq_any (n : Int) (w : World) : Calls Tryd.prog 32 #[.int .i64 n] w (ReqR n w) := by
  by_cases h0 : n = 0
  · subst h0
    go_enter Tryd.func32, Tryd.ntmps32
    go_wp2_with fail
    go_ret2
    exact ⟨_, rfl, SL.lit' w [255, 0, 255] (by decide), alloc_below _ _⟩
  · by_cases h1 : n = 1
    · subst h1
      go_enter Tryd.func32, Tryd.ntmps32
      go_wp2_with fail
      go_ret2
      exact ⟨_, rfl, SL.lit' w [255, 1, 254] (by decide), alloc_below _ _⟩
    · have HE : Hid (reqE n = 1) := by show _ = _; rw [reqE, if_neg h0, if_neg h1]
      have HV : Hid (reqV n = []) := by show _ = _; rw [reqV, if_neg h0, if_neg h1]
      have b0 : (n != 0) = true := by rw [bne_iff_ne]; exact h0
      have b1 : (n != 1) = true := by rw [bne_iff_ne]; exact h1
      go_enter Tryd.func32, Tryd.ntmps32
      go_wp2_with fail
      go_ret2
      exact ⟨.slice none 0 0, by rw [HE.out]; rfl, by rw [HV.out]; exact SL.nil _ _ _ _ (Nat.zero_le _), Below.refl _ _⟩
end Go.Proofs.YtnbggokmiokhlaaDoor
