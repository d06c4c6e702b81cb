
/-
  The walks of Pad, of the program and of the reference.
-/
import Derived.Test.YtndkkkkfgihemaaCmp
import Derived.Test.YtndkkkkfgihemaaOwn
namespace Go.Proofs.Ytndkkkkfgihemaa
set_option linter.unusedVariables false
set_option linter.unusedSimpArgs false
open Go.RowKit

set_option maxRecDepth 100000 in
theorem ppad_arg (l : List UInt8) (v : Value) (n : Int) (w : World) (h : n < 1 ∨ 65536 < n) : Calls Try.prog 48 #[v, .int .i64 n] w fun e w' => e = .returned (.tuple #[.slice none 0 0, .int .i64 1]) ∧ w = w' := by
  rcases h with h | h
  · go_enter Try.func48, Try.ntmps48
    go_wp2
    go_ret2
    exact ⟨rfl, rfl⟩
  · have h' : ¬ n < 1 := by omega
    go_enter Try.func48, Try.ntmps48
    go_wp2
    go_ret2
    exact ⟨rfl, rfl⟩

set_option maxRecDepth 100000 in
set_option maxHeartbeats 800000 in
theorem ppad_ok (l : List UInt8) (v : Value) (n : Nat) (w : World) (hl : SL w w.heap.size v l) (h : 1 ≤ n) (h' : n ≤ 65536) (hs : l.length ≤ 60000) :
    Calls Try.prog 48 #[v, .int .i64 n] w fun e w' => ∃ v', e = .returned (.tuple #[v', .int .i64 0]) ∧ SL w' w'.heap.size v' (padL l n) ∧ Below w.heap.size w w' := by
  obtain ⟨A1, c1, rfl, h11, h12, h13⟩ := hl
  unfold maxLen at h12
  obtain ⟨r1, r2⟩ := pad_room l.length n h
  obtain ⟨m, hm⟩ : ∃ m, m = (l.length / n + 1) * n := ⟨_, rfl⟩
  rw [← hm] at r1 r2
  have q1 : (0 : Int) ≤ ((l.length : Int) / (n : Int) + 1) * (n : Int) := by
    have e : ((l.length : Int) / (n : Int) + 1) * (n : Int) = ((m : Nat) : Int) := by rw [hm]; simp
    omega
  have q2 : ((l.length : Int) / (n : Int) + 1) * (n : Int) ≤ 200000 := by
    have e : ((l.length : Int) / (n : Int) + 1) * (n : Int) = ((m : Nat) : Int) := by rw [hm]; simp
    omega
  have q3 : (0 : Int) ≤ (l.length : Int) / (n : Int) := Int.ediv_nonneg (by omega) (by omega)
  have q4 : (l.length : Int) / (n : Int) ≤ 60000 := by
    have := Int.ediv_le_self (n : Int) (a := (l.length : Int)) (by omega)
    omega
  have HI : Hid (((l.length : Int) / (n : Int) + 1) * (n : Int) = (m : Int)) := by show _ = _; rw [hm]; simp
  have HM := Lib.hid hm
  clear hm
  have i0 : (0 : Int) ≤ (l.length : Int) := by omega
  have i1 : (l.length : Int) < (m : Int) := by omega
  go_enter Try.func48, Try.ntmps48
  go_wp2_with (first
    | (at_make; refine wpList_mk (by rfl) _ _ (by rfl) .i64 .i64 _ _ m (by rfl) (by rfl) HI.out HI.out (by omega) ?_; intro w1 hown1 hb1)
    | (refine wpList_cpy rfl (.tmp 21) (.tmp 22) rfl w.heap.size m A1 c1 w.heap.size (List.replicate m 0) l rfl rfl hown1 (by simp; omega) (by unfold maxLen; omega) (fun hp => by obtain ⟨b, o, hA, hb, hc⟩ := h13 hp; exact ⟨b, o, hA, fun k hk => (hb1.cell (p := ⟨b, o + k, none⟩) hb).trans (hc k hk)⟩) ?_; intro w2 hown2 hb2; have g3 := hown2.cellAt l.length (by simp; omega); have g4 := hown2.frozenAt l.length))
  go_ret2
  refine ⟨_, rfl, ?_, (hb1.trans hb2).setCell (p := ⟨w.heap.size, l.length, none⟩) (Nat.le_refl _) _⟩
  have e : padL l n = (l ++ (List.replicate m 0).drop l.length).set l.length 128 := by
    rw [List.drop_replicate, set_pad l (m - l.length) 128 (by omega), padL, ← HM.out, Nat.sub_sub]
  rw [e]
  exact (hown2.stored l.length 128 128 rfl).sl

set_option maxRecDepth 100000 in
theorem rpad_arg (v : Value) (n : Int) (w : World) (h : n < 1 ∨ 65536 < n) : Calls Try.prog 36 #[v, .int .i64 n] w fun e w' => e = .returned (.tuple #[.slice none 0 0, .int .i64 1]) ∧ w = w' := by
  rcases h with h | h
  · go_enter Try.func36, Try.ntmps36
    go_wp2
    go_ret2
    exact ⟨rfl, rfl⟩
  · have h' : ¬ n < 1 := by omega
    go_enter Try.func36, Try.ntmps36
    go_wp2
    go_ret2
    exact ⟨rfl, rfl⟩

set_option maxRecDepth 100000 in
set_option maxHeartbeats 800000 in
theorem rpad_ok (l : List UInt8) (v : Value) (n : Nat) (w : World) (hl : SL w w.heap.size v l) (h : 1 ≤ n) (h' : n ≤ 65536) (hs : l.length ≤ 60000) :
    Calls Try.prog 36 #[v, .int .i64 n] w fun e w' => ∃ v', e = .returned (.tuple #[v', .int .i64 0]) ∧ SL w' w'.heap.size v' (padL l n) ∧ Below w.heap.size w w' := by
  obtain ⟨A1, c1, rfl, h11, h12, h13⟩ := hl
  unfold maxLen at h12
  obtain ⟨r1, r2⟩ := pad_room l.length n h
  have hmid := pad_mid l.length n
  obtain ⟨m, hm⟩ : ∃ m, m = (l.length / n + 1) * n := ⟨_, rfl⟩
  have hmn : m % n = 0 := by rw [hm, Nat.mul_mod_left]
  rw [← hm] at r1 r2 hmid
  have HD := Lib.hid hmid
  have HN := Lib.hid hmn
  have HM := Lib.hid hm
  clear hm hmn hmid
  go_enter Try.func36, Try.ntmps36
  go_wp2_with (first
    | (at_builtin; refine wpList_appS rfl (.tmp 13) (.tmp 14) rfl (w.alloc (.cells #[] 5)) w.heap.size _ [] l A1 c1 rfl rfl (Below.refl _ _) (OB.made w) (fun hp => by obtain ⟨b, o, hA, hb, hc⟩ := h13 hp; exact ⟨b, o, hA, fun k hk => (((Below.refl _ w).alloc (Nat.le_refl _) _).cell (p := ⟨b, o + k, none⟩) hb).trans (hc k hk)⟩) (by simp; omega) (by simp) ?_; intro v1 w1 hown1 hb1)
    | (at_builtin; refine wpList_app1 rfl (.tmp 15) (.tmp 16) rfl w1 w.heap.size v1 ([] ++ l) 128 128 w1.heap.size rfl rfl ((Below.refl _ _).alloc (Nat.le_refl _) _) hown1 (heap_alloc_new w1 _) rfl (by simp; omega) (by have := hb1.size; simp at this; omega) ?_; intro g cap w2 hown2 hb2))
  have hbw : Below w.heap.size w w2 := (((Below.refl _ w).alloc (Nat.le_refl _) _).trans hb1).trans hb2
  simp only [List.nil_append] at hown2
  clear hown1 hb1 hb2
  go_loopw [6] (fun o wr => ∃ (x g c : Nat), l.length + 1 ≤ x ∧ x ≤ m ∧ o = .slice (some ⟨g, 0, none⟩) x c ∧ OB wr w.heap.size (.slice (some ⟨g, 0, none⟩) x c) ((l ++ [128]) ++ List.replicate (x - (l.length + 1)) 0) ∧ Below w.heap.size w wr) (fun o _ => m - lenV o)
  case atStart => exact ⟨l.length + 1, g, cap, Nat.le_refl _, by omega, rfl, by simpa using hown2, hbw⟩
  case round =>
    obtain ⟨x, gg, cc, hx1, hx2, rfl, hown, hbel⟩ := hrel
    have hsz := hbel.size
    by_cases h1 : x < m
    · have ht : (((x : Nat) : Int) % (n : Int) != 0) = true := by
        have := HD.out x h (by omega) h1
        rw [bne_iff_ne, ← Int.natCast_emod]
        omega
      go_wp2_with (at_builtin; refine wpList_app1 rfl (.tmp 23) (.tmp 24) rfl wr w.heap.size _ _ 0 0 wr.heap.size rfl rfl ((Below.refl _ _).alloc (Nat.le_refl _) _) hown (heap_alloc_new wr _) rfl (by simp; omega) (by omega) ?_; intro g3 cap3 w3 hown3 hb3)
      have hv : l.length + (x - (l.length + 1) + 1) + 1 = x + 1 := by omega
      have hk : (l ++ [128] ++ List.replicate (x - (l.length + 1)) 0).length + 1 = x + 1 := by simp; omega
      have he : (l ++ [128] ++ List.replicate (x - (l.length + 1)) 0) ++ [0] = (l ++ [128]) ++ List.replicate (x + 1 - (l.length + 1)) 0 := by
        rw [List.append_assoc, ← List.replicate_succ', show x - (l.length + 1) + 1 = x + 1 - (l.length + 1) from by omega]
      rw [hk, he] at hown3
      go_roundw
      case rel => exact ⟨x + 1, g3, cap3, by omega, by omega, by rw [hv], hown3, hbel.trans hb3⟩
      case measure => simp only [lenV]; omega
    · have hxm : x = m := by omega
      subst hxm
      have ht : (((x : Nat) : Int) % (n : Int) != 0) = false := by
        have := HN.out
        rw [bne_eq_false_iff_eq, ← Int.natCast_emod]
        omega
      go_wp2
      go_ret2
      refine ⟨_, rfl, ?_, hbel⟩
      rw [padL, ← HM.out]
      exact hown.sl
end Go.Proofs.Ytndkkkkfgihemaa
