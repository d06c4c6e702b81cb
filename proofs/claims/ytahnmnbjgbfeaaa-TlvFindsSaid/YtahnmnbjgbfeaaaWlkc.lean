/-
  The walk of the law on hexadecimal digits.
-/
import Derived.Test.YtahnmnbjgbfeaaaWlkb
import Derived.Test.YtahnmnbjgbfeaaaParb
namespace Go.Proofs.Ytahnmnbjgbfeaaa
set_option linter.unusedVariables false
set_option linter.unusedSimpArgs false
open Go.RowKit

def parM (l : List UInt8) : List UInt8 := (parseL l).getD []
def parC (l : List UInt8) : Int := if (parseL l).isSome then 0 else 4
theorem parC_some {l m : List UInt8} (h : parseL l = some m) : parC l = 0 ∧ parM l = m := by simp [parC, parM, h]
theorem parC_none {l : List UInt8} (h : parseL l = none) : parC l = 4 ∧ parM l = [] := by simp [parC, parM, h]
theorem pparse_all (s : ByteArray) (w : World) (hs : s.size ≤ 400000) :
    Calls Try.prog 20 #[.string s] w fun e w' => ∃ v', e = .returned (.tuple #[v', .int .i64 (parC s.data.toList)]) ∧ SL w' w'.heap.size v' (parM s.data.toList) ∧ Below w.heap.size w w' :=
  pparse_any s w hs _ (fun m hm v' w' h1 h2 => ⟨v', by rw [(parC_some hm).1], by rw [(parC_some hm).2]; exact h1, h2⟩)
    (fun hm w' h2 => ⟨_, by rw [(parC_none hm).1], by rw [(parC_none hm).2]; exact nilSL _, h2⟩)
theorem rparse_all (s : ByteArray) (w : World) (hs : s.size ≤ 400000) :
    Calls Try.prog 21 #[.string s] w fun e w' => ∃ v', e = .returned (.tuple #[v', .int .i64 (parC s.data.toList)]) ∧ SL w' w'.heap.size v' (parM s.data.toList) ∧ Below w.heap.size w w' :=
  rparse_any s w hs _ (fun m hm v' w' h1 h2 => ⟨v', by rw [(parC_some hm).1], by rw [(parC_some hm).2]; exact h1, h2⟩)
    (fun hm => ⟨_, by rw [(parC_none hm).1], by rw [(parC_none hm).2]; exact nilSL _, Below.refl _ _⟩)

set_option maxRecDepth 100000 in
set_option maxHeartbeats 3200000 in
theorem law_hex (l : List UInt8) (v : Value) (s : ByteArray) (w : World) (hl : SL w w.heap.size v l) (hs : s.size ≤ maxLen) :
    Calls Try.prog 3 #[v, .string s] w fun e w' => e = .returned (.bool true) ∧ Below w.heap.size w w' := by
  have HL := hl
  obtain ⟨A1, c1, rfl, h11, h12, h13⟩ := hl
  unfold maxLen at hs h12
  have hcs : 2000 < l.length ∨ (l.length ≤ 2000 ∧ 2000 < s.size) ∨ (l.length ≤ 2000 ∧ s.size ≤ 2000) := by omega
  rcases hcs with h1 | ⟨h1, h2⟩ | ⟨h1, h2⟩
  · go_enter Try.func3, Try.ntmps3
    go_wp2_with fail
    refine (example_any _).mono ?_
    rintro e w' ⟨rfl, hb'⟩
    go_wp2_with fail
    go_ret
    exact ⟨rfl, hb'⟩
  · go_enter Try.func3, Try.ntmps3
    go_wp2_with fail
    refine (example_any _).mono ?_
    rintro e w' ⟨rfl, hb'⟩
    go_wp2_with fail
    go_ret
    exact ⟨rfl, hb'⟩
  · go_enter Try.func3, Try.ntmps3
    go_wp2_with fail
    refine (pparse_all s w (by omega)).mono ?_
    rintro e w1 ⟨v1, rfl, hv1, hb1⟩
    go_wp2_with fail
    refine (rparse_all s w1 (by omega)).mono ?_
    rintro e w2 ⟨v2, rfl, hv2, hb2⟩
    go_wp2_with fail
    refine (phex_any l _ w2 ((HL.on hb1).on hb2) (by omega)).mono ?_
    rintro e w3 ⟨rfl, hb3⟩
    go_wp2_with fail
    refine (rhex_any l _ w3 w3.heap.size (((HL.on hb1).on hb2).on hb3) (by omega)).mono ?_
    rintro e w4 ⟨rfl, n4, rfl⟩
    have hb4 := drewN_below w3.heap.size w3 n4
    go_wp2_with fail
    refine (same_yes (parM s.data.toList) _ _ (w3.drewN n4) (w3.drewN n4).heap.size (((hv1.on hb2).on hb3).on hb4) ((hv2.on hb3).on hb4)).mono ?_
    rintro e w6 ⟨rfl, n6, rfl⟩
    go_wp2_with fail
    refine (example_any _).mono ?_
    rintro e w7 ⟨rfl, hb7⟩
    go_wp2_with fail
    go_ret
    have m1 := hb1.size
    have m2 := hb2.size
    have m3 := hb3.size
    exact ⟨rfl, (((hb1.trans (hb2.mono m1)).trans (hb3.mono (by omega))).trans (drewN_below _ w3 (n4 + n6))).trans (hb7.mono (show w.heap.size ≤ w3.heap.size by omega))⟩
end Go.Proofs.Ytahnmnbjgbfeaaa
