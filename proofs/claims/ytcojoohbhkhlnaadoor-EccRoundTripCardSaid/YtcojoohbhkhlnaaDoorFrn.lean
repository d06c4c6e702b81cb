/-
  A slice of integers that came in; the laws as their frames ask for them.
-/
import Derived.Test.YtcojoohbhkhlnaaDoorFrm
import Derived.Test.YtcojoohbhkhlnaaDoorEcq
namespace Go.Proofs.YtcojoohbhkhlnaaDoor
set_option linter.unusedVariables false
set_option linter.unusedSimpArgs false
open Go.ChangeShapes Go.WideShapes Go.ChangeAt Go.RowKit

theorem open_flips {H : Type} {enc : TypeId × Value → H} {W : World} {fuel : Nat} {v : Value} {x : DataW H × List MemPlace}
    (h : DataW.trod enc Tryd.prog W 0 (fun _ => true) true fuel 42 [v] = some x) : ∃ l : List Int, SI W W.heap.size v l := by
  rcases open_ints Tryd.underlying42 Tryd.underlying3 frC3 h with ⟨hcs, _⟩ | ⟨x, l, c, zs, hcs, _, hl, hm, hz, hx, hcell, hwz⟩
  · simp only [List.cons.injEq, and_true] at hcs
    subst hcs
    exact ⟨[], none, 0, rfl, Nat.le_refl _, Nat.zero_le _, fun h => absurd h (by simp)⟩
  · simp only [List.cons.injEq, and_true] at hcs
    subst hcs
    simp only [if_true] at hz
    have hlen : (zs.take l).length = l := by simp; omega
    refine ⟨zs.take l, some x, c, by rw [hlen], by omega, hm, fun hp => ?_⟩
    rw [hlen] at hp
    obtain ⟨b, o, sp⟩ := x
    have h0 := hcell 0 (by omega)
    have hsp : sp = none := World.cell?_spot (by simpa [Addr.add] using h0)
    subst hsp
    have hblk := World.block_lt_of_cell? W _ h0
    refine ⟨b, o, rfl, by simpa [Addr.add] using hblk, fun k hk => ?_⟩
    rw [hlen] at hk
    have hc := hcell k (by omega)
    rw [addr_add] at hc
    rw [hc]
    simp [List.getD, List.getElem?_take, hk]
theorem law_decI (a : Int) (w : World) (ha : (Lit.int .u32 a).wf = true) (hT : Tb w) :
    Calls Tryd.prog 4 #[.int .u32 a] w fun e w' => e = .returned (.bool true) ∧ Below w.heap.size w w' := by
  have hb := bounds_u32 ha
  obtain ⟨n, rfl⟩ : ∃ n : Nat, a = n := ⟨a.toNat, by omega⟩
  exact law_dec n w (by omega) hT
end Go.Proofs.YtcojoohbhkhlnaaDoor
