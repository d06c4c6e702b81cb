/-
  The reference of layer 2: Hex.
-/
import Derived.Test.YtahnmnbjgbfeaaaOpt
namespace Go.Proofs.Ytahnmnbjgbfeaaa
open Go.RowKit

set_option maxRecDepth 100000 in
set_option maxHeartbeats 800000 in
theorem rhex2_any (l : List UInt8) (v : Value) (w : World) (B : Nat) (hl : SL w B v l) (hs : l.length ≤ 200000) :
    Calls Try.prog 97 #[v] w fun e w' => e = .returned (.string ⟨(hexL l).toArray⟩) ∧ ∃ n, w' = w.drewN n := by
  obtain ⟨A1, c1, rfl, h11, h12, h13⟩ := hl
  unfold maxLen at h12
  go_enter Try.func97, Try.ntmps97
  go_wp2_with fail
  go_loopw [4, 5] (fun o i wr => ∃ k : Nat, k ≤ l.length ∧ i = .int .i64 k ∧ o = .string ⟨(hexL (l.take k)).toArray⟩ ∧ ∃ n, wr = w.drewN n) (fun _ i _ => l.length - (intOf i).toNat)
  case atStart => exact ⟨0, Nat.zero_le _, rfl, rfl, 0, rfl⟩
  case round =>
    obtain ⟨k, hk, rfl, rfl, n, rfl⟩ := hrel
    by_cases h1 : k < l.length
    · obtain ⟨b1, o1, rfl, hb1, hc1⟩ := h13 (by omega)
      obtain ⟨X, hX⟩ : ∃ X, X = (l.getD k 0).toNat := ⟨_, rfl⟩
      have g1 := hc1 k h1
      rw [← hX] at g1
      have hx : X < 256 := by rw [hX]; exact UInt8.toNat_lt _
      have i0' : (0 : Int) ≤ (k : Int) := by omega
      have i1' : (k : Int) < (l.length : Int) := by omega
      have hA := fun W => sub_any W (X / 16) (by omega) ((X : Int) / 16) ((X : Int) / 16 + 1) (by omega) (by omega)
      have hB := fun W => sub_any W (X % 16) (by omega) ((X : Int) % 16) ((X : Int) % 16 + 1) (by omega) (by omega)
      have hwA : IntKind.u8.wrap ((X : Int) / 16 + 1) = (X : Int) / 16 + 1 := by rw [IntKind.wrap_u8']; omega
      have hwB : IntKind.u8.wrap ((X : Int) % 16 + 1) = (X : Int) % 16 + 1 := by rw [IntKind.wrap_u8']; omega
      have HX := Lib.hid hX
      have hcon := hexL_take l k h1
      rw [← hX] at hcon
      obtain ⟨T, hT⟩ : ∃ T, T = hexL (l.take k) := ⟨_, rfl⟩
      have hTl : T.length ≤ 400000 := by rw [hT, hexL_length]; simp; omega
      rw [← hT] at hcon ⊢
      have HC := Lib.hid hcon
      have HT := Lib.hid hT
      clear hX hc1 hcon hT
      go_wp2_with fail
      go_quiet (fail)
      go_wp2_with fail
      go_roundw
      case rel => exact ⟨k + 1, by omega, by go_num, by rw [HC.out, ← str2], n + nq, rfl⟩
      case measure => simp [intOf]; omega
    · have hkl : k = l.length := by omega
      subst hkl
      go_wp2_with fail
      go_ret
      exact ⟨by simp, n, rfl⟩
end Go.Proofs.Ytahnmnbjgbfeaaa
