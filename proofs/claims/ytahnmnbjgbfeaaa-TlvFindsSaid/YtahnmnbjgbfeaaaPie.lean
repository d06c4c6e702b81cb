/-
  The walks of the reference's Join, Split and SameLists.
-/
import Derived.Test.YtahnmnbjgbfeaaaWlkd
namespace Go.Proofs.Ytahnmnbjgbfeaaa
set_option linter.unusedVariables false
set_option linter.unusedSimpArgs false
open Go.RowKit

theorem flatten_take_le (ls : List (List UInt8)) (k : Nat) : ((ls.take k).flatten).length ≤ ls.flatten.length := by
  conv => rhs; rw [← List.take_append_drop k ls]
  rw [List.flatten_append, List.length_append]
  omega
theorem flatten_take_succ (ls : List (List UInt8)) (k : Nat) (h : k < ls.length) : (ls.take (k + 1)).flatten = (ls.take k).flatten ++ ls.getD k [] := by
  rw [List.take_succ_eq_append_getElem h, List.flatten_append]
  simp [List.getD, List.getElem?_eq_getElem h]

set_option maxRecDepth 100000 in
set_option maxHeartbeats 1600000 in
theorem rjoin_any (ls : List (List UInt8)) (v : Value) (w : World) (h : LL w w.heap.size v ls) (hn : ls.length ≤ 1000000) (hs : ls.flatten.length ≤ 10000000) :
    Calls Try.prog 40 #[v] w fun e w' => ∃ v', e = .returned v' ∧ SL w' w'.heap.size v' ls.flatten ∧ Below w.heap.size w w' := by
  obtain ⟨A, c, vs, rfl, h1, h2, h3, h4, h5⟩ := h
  unfold maxLen at h2
  go_enter Try.func40, Try.ntmps40
  go_wp2_with fail
  go_loopw [3, 4] (fun o i wr => ∃ k : Nat, k ≤ ls.length ∧ i = .int .i64 k ∧ OB wr w.heap.size o ((ls.take k).flatten) ∧ Below w.heap.size w wr) (fun _ i _ => ls.length - (intOf i).toNat)
  case atStart => exact ⟨0, Nat.zero_le _, rfl, OB.nil _ _, Below.refl _ _⟩
  case round =>
    obtain ⟨k, hk, rfl, hown, hbel⟩ := hrel
    by_cases hkl : k < ls.length
    · obtain ⟨b, o, rfl, hb, hc⟩ := h4.out (by omega)
      have hck := hc k hkl
      obtain ⟨Ak, ck, ek, _, _, hrk⟩ := h5.out k hkl
      rw [ek] at hck
      have hfl := flatten_take_succ ls k hkl
      have hle := flatten_take_le ls (k + 1)
      rw [hfl, List.length_append] at hle
      obtain ⟨q, hq⟩ : ∃ q, q = ls.getD k [] := ⟨_, rfl⟩
      rw [← hq] at hck hrk hfl hle
      have g1 := (hbel.cell (p := ⟨b, o + k, none⟩) hb).trans hck
      have HF := Lib.hid hfl
      have HLE : Hid (((ls.take k).flatten).length + q.length ≤ 100000000) := Nat.le_trans hle (by omega)
      have hsz := hbel.size
      clear hc hck ek hfl hle hq
      go_wp2_with (at_builtin; refine wpList_appS rfl (.tmp 11) (.tmp 15) rfl wr w.heap.size u3 ((ls.take k).flatten) q Ak ck rfl rfl (Below.refl _ _) hown (fun hp => by obtain ⟨b', o', hA, hb', hc'⟩ := hrk hp; exact ⟨b', o', hA, fun j hj => (hbel.cell (p := ⟨b', o' + j, none⟩) hb').trans (hc' j hj)⟩) HLE.out hsz ?_; intro v1 w1 hown1 hb1)
      go_roundw
      case rel => exact ⟨k + 1, by omega, by go_num, by rw [HF.out]; exact hown1, hbel.trans hb1⟩
      case measure => simp [intOf]; omega
    · have hke : k = ls.length := by omega
      subst hke
      go_wp2_with fail
      go_ret
      refine ⟨_, rfl, ?_, hbel⟩
      rw [List.take_length] at hown
      exact hown.sl

theorem q_add {P : Program} {f : FuncId} {args : Array Value} {w : World} {a n : Nat} {v : Value}
    (h : Calls P f args (w.drewN (a + n)) fun e w' => e = .returned v ∧ ∃ m, w' = (w.drewN (a + n)).drewN m) : Calls P f args (w.drewN (a + n)) fun e w'' => e = .returned v ∧ ∃ m, w'' = w.drewN (a + m) :=
  h.mono fun _ _ ⟨he, m, hm⟩ => ⟨he, n + m, by rw [hm, World.drewN_drewN, Nat.add_assoc]⟩

set_option maxRecDepth 100000 in
set_option maxHeartbeats 1600000 in
theorem sames_yes (ls : List (List UInt8)) (v u : Value) (w : World) (B : Nat) (h : LL w B v ls) (h' : LL w B u ls) :
    Calls Try.prog 43 #[v, u] w fun e w' => e = .returned (.bool true) ∧ ∃ n, w' = w.drewN n := by
  obtain ⟨A, c, vs, rfl, h1, h2, h3, h4, h5⟩ := h
  obtain ⟨A', c', vs', rfl, h1', h2', h3', h4', h5'⟩ := h'
  unfold maxLen at h2 h2'
  go_enter Try.func43, Try.ntmps43
  go_wp2_with fail
  go_loopw [5] (fun i wr => ∃ k : Nat, k ≤ ls.length ∧ i = .int .i64 k ∧ ∃ n, wr = w.drewN n) (fun i _ => ls.length - (intOf i).toNat)
  case atStart => exact ⟨0, Nat.zero_le _, rfl, 0, rfl⟩
  case round =>
    obtain ⟨k, hk, rfl, n, rfl⟩ := hrel
    by_cases hkl : k < ls.length
    · obtain ⟨b, o, rfl, hb, hc⟩ := h4.out (by omega)
      obtain ⟨b', o', rfl, hb', hc'⟩ := h4'.out (by omega)
      have g1 := hc k hkl
      have g2 := hc' k hkl
      have s1 := h5.out k hkl
      have s2 := h5'.out k hkl
      obtain ⟨q, hq⟩ : ∃ q, q = ls.getD k [] := ⟨_, rfl⟩
      rw [← hq] at s1 s2
      have hsm := fun m => same_yes q _ _ (w.drewN m) B (s1.below (drewN_below B w m)) (s2.below (drewN_below B w m))
      obtain ⟨x1, hx1⟩ : ∃ x, x = vs.getD k (.slice none 0 0) := ⟨_, rfl⟩
      obtain ⟨x2, hx2⟩ : ∃ x, x = vs'.getD k (.slice none 0 0) := ⟨_, rfl⟩
      rw [← hx1] at g1
      rw [← hx2] at g2
      simp only [← hx1, ← hx2] at hsm
      have HS := Lib.hid hsm
      have i0' : (0 : Int) ≤ (k : Int) := by omega
      have i1' : (k : Int) < (ls.length : Int) := by omega
      clear hc hc' s1 s2 hq hsm hx1 hx2
      go_wp2_with fail
      go_quiet ((go_at_call 24; exact q_add (HS.out _)))
      go_wp2_with fail
      go_roundw
      case rel => exact ⟨k + 1, by omega, by go_num, _, rfl⟩
      case measure => simp [intOf]; omega
    · have hke : k = ls.length := by omega
      subst hke
      go_wp2_with fail
      go_ret
      exact ⟨rfl, n, rfl⟩
end Go.Proofs.Ytahnmnbjgbfeaaa
