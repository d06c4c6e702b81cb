/-
  The laws CellNil and CellWears.
-/
import Derived.Test.YtcojoohbhkhlnaaCeh
namespace Go.Proofs.Ytcojoohbhkhlnaa
set_option linter.unusedVariables false
set_option linter.unusedSimpArgs false
open Go.RowKit

theorem Dead.below {w w' : World} {v : Value} (h : Dead w v) (hb : Below w.heap.size w w') : Dead w' v := by
  rcases h with h | ⟨b, h1, h2⟩
  · exact .inl h
  · exact .inr ⟨b, h1, (hb.block b (Array.getElem?_eq_some_iff.1 h2).1).trans h2⟩

set_option maxHeartbeats 1600000 in
theorem law_nil (a x : Int) (w : World) : Calls Try.prog 7 #[.int .i64 a, .int .u32 x] w fun e w' => e = .returned (.bool true) ∧ Below w.heap.size w w' := by
  go_enter Try.func7, Try.ntmps7
  go_wp2
  go_loopw [5, 6] (fun v i wr => ∃ (k : Nat) (u : Value), k ≤ 2 ∧ i = .int .i64 k ∧ u = v ∧ Dead wr u ∧ Below w.heap.size w wr) (fun _ i _ => 2 - (intOf i).toNat)
  case atStart => exact ⟨0, _, by omega, rfl, rfl, .inl rfl, Below.refl ..⟩
  case round =>
    obtain ⟨k, v, hk, rfl, ev, hd, hbel⟩ := hrel
    subst ev
    by_cases h2 : k < 2
    · have D1 := Lib.hid (read_dead wr v a hd)
      have D2 := Lib.hid (write_dead wr v a x hd)
      have D3 := Lib.hid (cut_dead wr v a hd)
      have D4 := Lib.hid (flip_dead wr v a 0 hd)
      have D5 := Lib.hid (restore_dead wr v hd)
      have D6 := Lib.hid (words_dead wr v hd)
      have D7 := Lib.hid (power_dead wr v hd)
      have D8 := Lib.hid (writes_dead wr v hd)
      have D9 := Lib.hid (cuts_dead wr v hd)
      have D10 := Lib.hid (wear_dead wr v a hd)
      have D11 := Lib.hid (image_dead wr v hd)
      have D12 := Lib.hid (clone_dead wr v hd)
      have HB := Lib.hid hbel
      have hsz := hbel.size
      clear hd hbel
      go_wp2_with (first
        | (go_at_call 21; refine D1.out.mono ?_; rintro e w' ⟨rfl, rfl⟩)
        | (go_at_call 15; refine D2.out.mono ?_; rintro e w' ⟨rfl, rfl⟩)
        | (go_at_call 13; refine D3.out.mono ?_; rintro e w' ⟨rfl, rfl⟩)
        | (go_at_call 23; refine D4.out.mono ?_; rintro e w' ⟨rfl, rfl⟩)
        | (go_at_call 19; refine D5.out.mono ?_; rintro e w' ⟨rfl, rfl⟩)
        | (go_at_call 24; refine D6.out.mono ?_; rintro e w' ⟨rfl, rfl⟩)
        | (go_at_call 16; refine D7.out.mono ?_; rintro e w' ⟨rfl, rfl⟩)
        | (go_at_call 17; refine D8.out.mono ?_; rintro e w' ⟨rfl, rfl⟩)
        | (go_at_call 18; refine D9.out.mono ?_; rintro e w' ⟨rfl, rfl⟩)
        | (go_at_call 22; refine D10.out.mono ?_; rintro e w' ⟨rfl, rfl⟩)
        | (go_at_call 14; refine D11.out.mono ?_; rintro e w' ⟨rfl, rfl⟩)
        | (go_at_call 20; refine D12.out.mono ?_; rintro e w' ⟨rfl, rfl⟩))
      go_roundw
      case rel => exact ⟨k + 1, _, by omega, by go_num, rfl, .inr ⟨_, rfl, heap_alloc_new ..⟩, HB.out.trans ((alloc_below ..).mono hsz)⟩
      case measure => simp [intOf]; omega
    · obtain rfl : k = 2 := by omega
      have HA := Lib.hid (awake_any wr)
      go_wp2_with (go_at_call 9; refine HA.out.mono ?_; rintro e w' ⟨rfl, hb2⟩)
      go_ret
      exact ⟨rfl, hbel.trans (hb2.mono hbel.size)⟩
end Go.Proofs.Ytcojoohbhkhlnaa
