/-
  The walk of the law on tags.
-/
import Derived.Test.YtahnmnbjgbfeaaaWrk
namespace Go.Proofs.Ytahnmnbjgbfeaaa
open Go.RowKit

set_option maxRecDepth 100000 in
set_option maxHeartbeats 1600000 in
theorem law_tags (t : Int) (w : World) : Calls Try.prog 10 #[.int .i64 t] w fun e w' => e = .returned (.bool true) ∧ Below w.heap.size w w' := by
  obtain ⟨V, hV⟩ : ∃ V, V = validB t := ⟨_, rfl⟩
  obtain ⟨C, hC⟩ : ∃ C, C = consB t := ⟨_, rfl⟩
  have h1 := fun W => pvalid_any t W
  have h2 := fun W => rvalid_any t W
  have h3 := fun W => pcons_any t W
  have h4 := fun W => rcons_any t W
  simp only [← hV] at h1 h2
  simp only [← hC] at h3 h4
  have H1 := Lib.hid h1
  have H2 := Lib.hid h2
  have H3 := Lib.hid h3
  have H4 := Lib.hid h4
  clear h1 h2 h3 h4 hV hC
  go_enter Try.func10, Try.ntmps10
  go_wp2_with (first
    | (go_at_call 44; refine (H1.out _).mono ?_; rintro e w' ⟨rfl, rfl⟩)
    | (go_at_call 45; refine (H2.out _).mono ?_; rintro e w' ⟨rfl, rfl⟩)
    | (go_at_call 46; refine (H3.out _).mono ?_; rintro e w' ⟨rfl, rfl⟩)
    | (go_at_call 47; refine (H4.out _).mono ?_; rintro e w' ⟨rfl, rfl⟩)
    | (go_at_call 48; refine (works_any _).mono ?_; rintro e w' ⟨rfl, hb⟩))
  go_ret
  exact ⟨rfl, hb⟩
end Go.Proofs.Ytahnmnbjgbfeaaa
