
/-
  The walks of Pad, of the program and of the reference.
-/
import Derived.Test.YtdalcldilmmgmaaDoorCmp
import Derived.Test.YtdalcldilmmgmaaDoorOwn
namespace Go.Proofs.YtdalcldilmmgmaaDoor
set_option linter.unusedVariables false
set_option linter.unusedSimpArgs false
open Go.RowKit

set_option maxRecDepth 100000 in
theorem ppad_arg (l : List UInt8) (v : Value) (n : Int) (w : World) (h : n < 1 ∨ 65536 < n) : Calls Tryd.prog 54 #[v, .int .i64 n] w fun e w' => e = .returned (.tuple #[.slice none 0 0, .int .i64 1]) ∧ w = w' := by
  rcases h with h | h
  · go_enter Tryd.func54, Tryd.ntmps54
    go_wp2
    go_ret2
    exact ⟨rfl, rfl⟩
  · have h' : ¬ n < 1 := by omega
    go_enter Tryd.func54, Tryd.ntmps54
    go_wp2
    go_ret2
    exact ⟨rfl, rfl⟩

set_option maxRecDepth 100000 in
set_option maxHeartbeats 800000 in
theorem ppad_ok (l : List UInt8) (v : Value) (n : Nat) (w : World) (hl : SL w w.heap.size v l) (h : 1 ≤ n) (h' : n ≤ 65536) (hs : l.length ≤ 60000) :
    Calls Tryd.prog 54 #[v, .int .i64 n] w fun e w' => ∃ v', e = .returned (.tuple #[v', .int .i64 0]) ∧ SL w' w'.heap.size v' (padL l n) ∧ Below w.heap.size w w' := by
  obtain ⟨A1, c1, rfl, h11, h12, h13⟩ := hl
  unfold maxLen at h12
  obtain ⟨r1, r2⟩ := pad_room l.length n h
  obtain ⟨m, hm⟩ : ∃ m, m = (l.length / n + 1) * n := ⟨_, rfl⟩
  rw [← hm] at r1 r2
  have q1 : (0 : Int) ≤ ((l.length : Int) / (n : Int) + 1) * (n : Int) := by
    have e : ((l.length : Int) / (n : Int) + 1) * (n : Int) = ((m : Nat) : Int) := by rw [hm]; simp
    omega
  have q2 : ((l.length : Int) / (n : Int) + 1) * (n : Int) ≤ 200000 := by
    have e : ((l.length : Int) / (n : Int) + 1) * (n : Int) = ((m : Nat) : Int) := by rw [hm]; simp
    omega
  have q3 : (0 : Int) ≤ (l.length : Int) / (n : Int) := Int.ediv_nonneg (by omega) (by omega)
  have q4 : (l.length : Int) / (n : Int) ≤ 60000 := by
    have := Int.ediv_le_self (n : Int) (a := (l.length : Int)) (by omega)
    omega
  have HI : Hid (((l.length : Int) / (n : Int) + 1) * (n : Int) = (m : Int)) := by show _ = _; rw [hm]; simp
  have HM := Lib.hid hm
  clear hm
  have i0 : (0 : Int) ≤ (l.length : Int) := by omega
  have i1 : (l.length : Int) < (m : Int) := by omega
  go_enter Tryd.func54, Tryd.ntmps54
  go_wp2_with (first
    | (at_make; refine wpList_mk (by rfl) _ _ (by rfl) .i64 .i64 _ _ m (by rfl) (by rfl) HI.out HI.out (by omega) ?_; intro w1 hown1 hb1)
    | (refine wpList_cpy rfl (.tmp 21) (.tmp 22) rfl w.heap.size m A1 c1 w.heap.size (List.replicate m 0) l rfl rfl hown1 (by simp; omega) (by unfold maxLen; omega) (fun hp => by obtain ⟨b, o, hA, hb, hc⟩ := h13 hp; exact ⟨b, o, hA, fun k hk => (hb1.cell (p := ⟨b, o + k, none⟩) hb).trans (hc k hk)⟩) ?_; intro w2 hown2 hb2; have g3 := hown2.cellAt l.length (by simp; omega); have g4 := hown2.frozenAt l.length))
  go_ret2
  refine ⟨_, rfl, ?_, (hb1.trans hb2).setCell (p := ⟨w.heap.size, l.length, none⟩) (Nat.le_refl _) _⟩
  have e : padL l n = (l ++ (List.replicate m 0).drop l.length).set l.length 128 := by
    rw [List.drop_replicate, set_pad l (m - l.length) 128 (by omega), padL, ← HM.out, Nat.sub_sub]
  rw [e]
  exact (hown2.stored l.length 128 128 rfl).sl

end Go.Proofs.YtdalcldilmmgmaaDoor
