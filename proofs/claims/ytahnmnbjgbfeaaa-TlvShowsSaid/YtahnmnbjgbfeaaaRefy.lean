/-
  The reference: lines.
-/
import Derived.Test.YtahnmnbjgbfeaaaRefx
namespace Go.Proofs.Ytahnmnbjgbfeaaa
open Go.RowKit

theorem repeatL_succ (c : Nat) : Lib.repeatL [32, 32] (c + 1) = Lib.repeatL [32, 32] c ++ [32, 32] := by
  induction c with
  | zero => rfl
  | succ c ih =>
    show [32, 32] ++ Lib.repeatL [32, 32] (c + 1) = ([32, 32] ++ Lib.repeatL [32, 32] c) ++ [32, 32]
    rw [ih, List.append_assoc]
theorem app_mk (a b : List UInt8) : (⟨a.toArray⟩ : ByteArray) ++ ⟨b.toArray⟩ = ⟨(a ++ b).toArray⟩ := by
  apply ByteArray.ext
  rw [ByteArray.data_append]
  simp

def LineC (c : Nat) (ts : List T) : Prop := ∀ (v : Value) (w : World), TL w w.heap.size v ts → (Lib.repeatL [32, 32] c).length + (textL c ts).length ≤ 300000 →
  Calls Try.prog 84 #[v, .string ⟨(Lib.repeatL [32, 32] c).toArray⟩] w fun e w' => e = .returned (.string ⟨(textL c ts).toArray⟩) ∧ Below w.heap.size w w'

/-- Hex of one byte that has just been laid. -/
theorem hex_byte (w : World) (y : UInt8) (z : Int) (hz : z = (y.toNat : Int)) :
    Calls Try.prog 97 #[.slice (some ⟨w.heap.size, 0, none⟩) 1 1] (w.alloc (.cells #[.int .u8 z] 5)) fun e w' => e = .returned (.string ⟨(hexL [y]).toArray⟩) ∧ Below w.heap.size w w' := by
  refine (rhex2_any [y] _ _ _ (SL.new w _ [y] (by simp [bv]; exact hz) (by simp)) (by simp)).mono ?_
  rintro e w' ⟨rfl, n, rfl⟩
  exact ⟨rfl, (alloc_below w _).trans (drewN_below _ _ n)⟩
theorem hex_slice (l : List UInt8) (v : Value) (w : World) (hl : SL w w.heap.size v l) (hs : l.length ≤ 200000) :
    Calls Try.prog 97 #[v] w fun e w' => e = .returned (.string ⟨(hexL l).toArray⟩) ∧ Below w.heap.size w w' := by
  refine (rhex2_any l v w _ hl hs).mono ?_
  rintro e w' ⟨rfl, n, rfl⟩
  exact ⟨rfl, drewN_below _ _ n⟩
end Go.Proofs.Ytahnmnbjgbfeaaa
