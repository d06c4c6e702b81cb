
/-
  The walks of Hex, of the program and of the reference.
-/
import Derived.Test.YtjoibonbmalbdaaCmpb
import Derived.Deep.RegionHeld3
namespace Go.Proofs.Ytjoibonbmalbdaa
set_option linter.unusedVariables false
set_option linter.unusedSimpArgs false
open Go.RowKit

theorem dig_str (k : Nat) (hk : k < 16) : (⟨#[48, 49, 50, 51, 52, 53, 54, 55, 56, 57, 97, 98, 99, 100, 101, 102]⟩ : ByteArray)[k]'(by exact hk) = dg k := by
  match k, hk with
  | 0, _ | 1, _ | 2, _ | 3, _ | 4, _ | 5, _ | 6, _ | 7, _ | 8, _ | 9, _ | 10, _ | 11, _ | 12, _ | 13, _ | 14, _ | 15, _ => rfl
  | n + 16, h => exact absurd h (by omega)
theorem dig_any (W : World) (k : Nat) (hk : k < 16) (z : Int) (hz : z = (k : Int)) :
    Sem.run Try.prog (Instr.index 9 (Value.string ⟨#[48, 49, 50, 51, 52, 53, 54, 55, 56, 57, 97, 98, 99, 100, 101, 102]⟩) (Value.int IntKind.u8 z)) W = Result.ok (Value.int IntKind.u8 ((dg k).toNat : Int)) W := by
  subst hz
  rw [run_index_string W 9 _ .u8 _ Try.underlying9, dif_pos ⟨by omega, by show (k : Int) < 16; omega⟩]
  congr 3
  have := dig_str k hk
  simp [this]
theorem dig_hi (W : World) (X : Nat) (hX : X < 256) :
    Sem.run Try.prog (Instr.index 9 (Value.string ⟨#[48, 49, 50, 51, 52, 53, 54, 55, 56, 57, 97, 98, 99, 100, 101, 102]⟩) (Value.int IntKind.u8 ((X : Int) / 16))) W = Result.ok (Value.int IntKind.u8 ((dg (X / 16)).toNat : Int)) W :=
  dig_any W (X / 16) (by omega) _ (by omega)
theorem dig_lo (W : World) (X : Nat) :
    Sem.run Try.prog (Instr.index 9 (Value.string ⟨#[48, 49, 50, 51, 52, 53, 54, 55, 56, 57, 97, 98, 99, 100, 101, 102]⟩) (Value.int IntKind.u8 ((X : Int) % 16))) W = Result.ok (Value.int IntKind.u8 ((dg (X % 16)).toNat : Int)) W :=
  dig_any W (X % 16) (by omega) _ (by omega)

theorem dig_ext (k : Nat) (hk : k < 16) : (⟨#[48, 49, 50, 51, 52, 53, 54, 55, 56, 57, 97, 98, 99, 100, 101, 102]⟩ : ByteArray).extract k (k + 1) = ⟨[dg k].toArray⟩ := by
  have h := ByteArray.extract_mk [48, 49, 50, 51, 52, 53, 54, 55, 56, 57, 97, 98, 99, 100, 101, 102] k (k + 1)
  refine h.trans ?_
  congr 2
  rw [Nat.add_sub_cancel_left]
  match k, hk with
  | 0, _ | 1, _ | 2, _ | 3, _ | 4, _ | 5, _ | 6, _ | 7, _ | 8, _ | 9, _ | 10, _ | 11, _ | 12, _ | 13, _ | 14, _ | 15, _ => rfl
  | n + 16, h => exact absurd h (by omega)
theorem sub_any (W : World) (k : Nat) (hk : k < 16) (z y : Int) (hz : z = (k : Int)) (hy : y = (k : Int) + 1) :
    Sem.run Try.prog (Instr.slice 9 (Value.string ⟨#[48, 49, 50, 51, 52, 53, 54, 55, 56, 57, 97, 98, 99, 100, 101, 102]⟩) (some (Value.int IntKind.u8 z)) (some (Value.int IntKind.u8 y)) none) W = Result.ok (Value.string ⟨[dg k].toArray⟩) W := by
  subst hz hy
  rw [run_slice_string W 9 _ .u8 .u8 _ _ Try.underlying9 (by omega) (by omega) (by show (k : Int) + 1 ≤ 16; omega)]
  congr 2
  have e : ((k : Int) + 1).toNat = k + 1 := by omega
  rw [e, Int.toNat_natCast]
  exact dig_ext k hk
theorem str2 (T : List UInt8) (a b : UInt8) : ((⟨T.toArray⟩ : ByteArray) ++ ⟨#[a]⟩ ++ ⟨#[b]⟩) = ⟨(T ++ [a, b]).toArray⟩ := by
  have h1 := ByteArray.mk_append_mk T [a]
  have h2 := ByteArray.mk_append_mk (T ++ [a]) [b]
  rw [← h1] at h2
  rw [List.append_assoc] at h2
  exact h2

set_option maxRecDepth 100000 in
set_option maxHeartbeats 800000 in
theorem rhex_any (l : List UInt8) (v : Value) (w : World) (B : Nat) (hl : SL w B v l) (hs : l.length ≤ 200000) :
    Calls Try.prog 39 #[v] w fun e w' => e = .returned (.string ⟨(hexL l).toArray⟩) ∧ ∃ n, w' = w.drewN n := by
  obtain ⟨A1, c1, rfl, h11, h12, h13⟩ := hl
  unfold maxLen at h12
  go_enter Try.func39, Try.ntmps39
  go_wp2_with fail
  go_loopw [4, 5] (fun o i wr => ∃ k : Nat, k ≤ l.length ∧ i = .int .i64 k ∧ o = .string ⟨(hexL (l.take k)).toArray⟩ ∧ ∃ n, wr = w.drewN n) (fun _ i _ => l.length - (intOf i).toNat)
  case atStart => exact ⟨0, Nat.zero_le _, rfl, rfl, 0, rfl⟩
  case round =>
    obtain ⟨k, hk, rfl, rfl, n, rfl⟩ := hrel
    by_cases h1 : k < l.length
    · obtain ⟨b1, o1, rfl, hb1, hc1⟩ := h13 (by omega)
      obtain ⟨X, hX⟩ : ∃ X, X = (l.getD k 0).toNat := ⟨_, rfl⟩
      have g1 := hc1 k h1
      rw [← hX] at g1
      have hx : X < 256 := by rw [hX]; exact UInt8.toNat_lt _
      have i0' : (0 : Int) ≤ (k : Int) := by omega
      have i1' : (k : Int) < (l.length : Int) := by omega
      have hA := fun W => sub_any W (X / 16) (by omega) ((X : Int) / 16) ((X : Int) / 16 + 1) (by omega) (by omega)
      have hB := fun W => sub_any W (X % 16) (by omega) ((X : Int) % 16) ((X : Int) % 16 + 1) (by omega) (by omega)
      have hwA : IntKind.u8.wrap ((X : Int) / 16 + 1) = (X : Int) / 16 + 1 := by rw [IntKind.wrap_u8']; omega
      have hwB : IntKind.u8.wrap ((X : Int) % 16 + 1) = (X : Int) % 16 + 1 := by rw [IntKind.wrap_u8']; omega
      have HX := Lib.hid hX
      have hcon := hexL_take l k h1
      rw [← hX] at hcon
      obtain ⟨T, hT⟩ : ∃ T, T = hexL (l.take k) := ⟨_, rfl⟩
      have hTl : T.length ≤ 400000 := by rw [hT, hexL_length]; simp; omega
      rw [← hT] at hcon ⊢
      have HC := Lib.hid hcon
      have HT := Lib.hid hT
      clear hX hc1 hcon hT
      go_wp2_with fail
      go_quiet (fail)
      go_wp2_with fail
      go_roundw
      case rel => exact ⟨k + 1, by omega, by go_num, by rw [HC.out, ← str2], n + nq, rfl⟩
      case measure => simp [intOf]; omega
    · have hkl : k = l.length := by omega
      subst hkl
      go_wp2_with fail
      go_ret
      exact ⟨by simp, n, rfl⟩
end Go.Proofs.Ytjoibonbmalbdaa
