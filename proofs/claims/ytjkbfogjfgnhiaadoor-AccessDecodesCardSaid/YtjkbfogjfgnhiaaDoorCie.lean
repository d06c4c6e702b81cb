
/-
  The program's read of a condition, whatever the bytes.
-/
import Derived.Test.YtjkbfogjfgnhiaaDoorCid
namespace Go.Proofs.YtjkbfogjfgnhiaaDoor
set_option linter.unusedVariables false
set_option linter.unusedSimpArgs false
open Go.RowKit

/-- With fuel for each byte, read is rdF. -/
theorem rd_any : ∀ (f : Nat) (b : List UInt8) (v : Value) (w : World) (B0 : Nat), b.length < f → B0 ≤ w.heap.size → Tb w → SL w B0 v b → Calls Tryd.prog 84 #[v] w fun e w' => RdP B0 w (rdF f b) e w'
  | 0, b, v, w, B0, hf, hle, hT, hv => absurd hf (Nat.not_lt_zero _)
  | f + 1, b, v, w, B0, hf, hle, hT, hv => by
    by_cases h0 : b.length = 0
    · obtain rfl : b = [] := List.eq_nil_of_length_eq_zero h0
      exact rd_empty f v w B0 hv
    by_cases h1 : 7 < byN b 0
    · exact rd_bad f b v w B0 hle hv (by omega) h1
    by_cases h2 : byN b 0 < 2
    · exact rd_plain f b v w B0 hle hT hv (by omega) h2
    by_cases h3 : b.length = 1
    · by_cases h4 : byN b 0 < 6
      · exact rd_short_n f b v w B0 hle hT hv h3 h4 (by omega)
      · exact rd_short_k f b v w B0 hle hT hv h3 (by omega) (by omega)
    by_cases h4 : byN b 0 < 6
    · exact rd_num f b v w B0 hle hT hv (by omega) h4 (by omega)
    · exact rd_kids f b v w B0 hle hT hv (by omega) (by omega) (by omega) fun bk v' W hb hW hTW hvW => rd_any f bk v' W B0 (by omega) hW hTW hvW
end Go.Proofs.YtjkbfogjfgnhiaaDoor
