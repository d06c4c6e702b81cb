/-
  The law CellWears as its frame asks for it.
-/
import Derived.Test.YtcojoohbhkhlnaaCej
import Derived.Test.YtcojoohbhkhlnaaFrm
namespace Go.Proofs.Ytcojoohbhkhlnaa
set_option linter.unusedVariables false
set_option linter.unusedSimpArgs false
open Go.RowKit

theorem law_wearsI (e a : Int) (l : List Nat) (v : Value) (w : World) (he : (Lit.int .u8 e).wf = true) (ha : (Lit.int .u8 a).wf = true) (h : SW w w.heap.size v l) (hx : ∀ n ∈ l, n < 4294967296) :
    Calls Try.prog 6 #[.int .u8 e, .int .u8 a, v] w fun e w' => e = .returned (.bool true) ∧ Below w.heap.size w w' := by
  have h1 := bounds_u8 he
  have h2 := bounds_u8 ha
  obtain ⟨n, rfl⟩ : ∃ n : Nat, e = n := ⟨e.toNat, by omega⟩
  obtain ⟨m, rfl⟩ : ∃ m : Nat, a = m := ⟨a.toNat, by omega⟩
  exact law_wears n m l v w (by omega) (by omega) h hx
end Go.Proofs.Ytcojoohbhkhlnaa
