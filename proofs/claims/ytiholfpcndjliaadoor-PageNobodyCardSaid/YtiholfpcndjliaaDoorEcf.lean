
/-
  The walks of content, codeWord, Encode, Decode of the program.
-/
import Derived.Test.YtiholfpcndjliaaDoorEce
import Derived.Laws.Rows
namespace Go.Proofs.YtiholfpcndjliaaDoor
set_option linter.unusedVariables false
set_option linter.unusedSimpArgs false
open Go.RowKit

/-- The two tables of the program, as they are laid. -/
def plA : Array Value := #[.int .i64 3, .int .i64 5, .int .i64 6, .int .i64 7, .int .i64 9, .int .i64 10, .int .i64 11, .int .i64 12, .int .i64 13, .int .i64 14, .int .i64 15, .int .i64 17, .int .i64 18, .int .i64 19, .int .i64 20, .int .i64 21, .int .i64 22, .int .i64 23, .int .i64 24, .int .i64 25, .int .i64 26, .int .i64 27, .int .i64 28, .int .i64 29]
def grA : Array Value := #[.int .u32 2863311530, .int .u32 3435973836, .int .u32 4042322160, .int .u32 4278255360, .int .u32 4294901760, .int .u32 4294967295, .int .u32 1073741824, .int .u32 2147483648]
def Tb (W : World) : Prop := (∃ t fr, W.heap[1]? = some (.cells plA t fr)) ∧ ∃ t fr, W.heap[0]? = some (.cells grA t fr)
theorem Tb.size {w : World} (h : Tb w) : 1 < w.heap.size := by
  obtain ⟨⟨t, fr, h⟩, _⟩ := h
  exact (Array.getElem?_eq_some_iff.1 h).1
theorem Tb.on {w w' : World} (h : Tb w) (hb : Below w.heap.size w w') : Tb w' := by
  have hs := h.size
  obtain ⟨⟨t, fr, h1⟩, t', fr', h2⟩ := h
  exact ⟨⟨t, fr, (hb.block 1 (by omega)).trans h1⟩, t', fr', (hb.block 0 (by omega)).trans h2⟩
theorem Tb.drewN {w : World} (h : Tb w) (n : Nat) : Tb (w.drewN n) := h
set_option maxRecDepth 1000000 in
theorem idx_pl (k : Nat) (hk : k < 24) (w : World) : (Instr.index 157 (.agg plA) (.int .i64 (k : Int))).run Tryd.prog w = .ok (.int .i64 (pl k : Int)) w := by
  match k, hk with
  | 0, _ | 1, _ | 2, _ | 3, _ | 4, _ | 5, _ | 6, _ | 7, _ | 8, _ | 9, _ | 10, _ | 11, _ | 12, _ | 13, _ | 14, _ | 15, _ | 16, _ | 17, _ | 18, _ | 19, _ | 20, _ | 21, _ | 22, _ | 23, _ => rfl
  | n + 24, h => exact absurd h (by omega)
set_option maxRecDepth 1000000 in
theorem idx_gr (k : Nat) (hk : k < 8) (w : World) : (Instr.index 153 (.agg grA) (.int .i64 (k : Int))).run Tryd.prog w = .ok (.int .u32 (gr k : Int)) w := by
  match k, hk with
  | 0, _ | 1, _ | 2, _ | 3, _ | 4, _ | 5, _ | 6, _ | 7, _ => rfl
  | n + 8, h => exact absurd h (by omega)
theorem info53 : (Tryd.prog.info? 157).map (·.size) = some plA.size := by kernel_rfl
theorem info46 : (Tryd.prog.info? 153).map (·.size) = some grA.size := by kernel_rfl

theorem or_add (d b k : Nat) (hd : d < 2 ^ k) : d ||| b * 2 ^ k = d + b * 2 ^ k := by
  rw [Nat.mul_comm b, Nat.or_comm d, Nat.add_comm d]
  exact (Nat.two_pow_add_eq_or_of_lt hd b).symm
theorem i64_orpow (d b k : Nat) (hd : d < 2 ^ k) (hk : k < 24) (hb : b ≤ 1) : bits .or .i64 (d : Int) (wrap64 ((b : Int) * 2 ^ k)) = ((d + b * 2 ^ k : Nat) : Int) := by
  have hp := pow_small k hk
  have e : ((b : Int) * 2 ^ k) = ((b * 2 ^ k : Nat) : Int) := by rw [Int.natCast_mul, Int.natCast_pow]; rfl
  have h : b * 2 ^ k ≤ 8388608 := by
    have h2 : b * 2 ^ k ≤ 1 * 2 ^ k := Nat.mul_le_mul_right _ hb
    omega
  have ho := or_add d b k hd
  rw [e]
  generalize b * 2 ^ k = x at *
  have e1 : wrap64 (x : Int) = x := by unfold wrap64; omega
  rw [e1, i64_or_nat d x (by omega) (by omega), ho]

set_option maxRecDepth 100000 in
set_option maxHeartbeats 800000 in
theorem pcont_any (w : Nat) (W : World) (hw : w < 4294967296) (hT : Tb W) : Calls Tryd.prog 102 #[.int .u32 (w : Int)] W fun e W' => e = .returned (.int .i64 (datT w 24 : Int)) ∧ W = W' := by
  obtain ⟨⟨t, fr, hg⟩, _⟩ := hT
  go_enter Tryd.func102, Tryd.ntmps102
  go_wp2_with (refine wpList_load_row rfl 157 _ rfl 1 rfl t plA fr _ hg Tryd.underlying157 rfl info53 ?_)
  go_loop [3, 7] (fun d i => ∃ k : Nat, k ≤ 24 ∧ i = .int .i64 k ∧ d = .int .i64 (datT w k : Int)) (fun _ i => 24 - (intOf i).toNat)
  case atStart => exact ⟨0, by omega, rfl, rfl⟩
  case round =>
    obtain ⟨k, hk, rfl, rfl⟩ := hrel
    by_cases h1 : k < 24
    · have hi := idx_pl k h1
      have hp := (pl_facts k h1).1
      have HD : Hid (datT w (k + 1) = datT w k + b2n (w.testBit (pl k)) * 2 ^ k) := rfl
      have hd := datT_lt w k
      have hb := b2n_le (w.testBit (pl k))
      have HB := u32_bit w (pl k) hw
      generalize b2n (w.testBit (pl k)) = b at *
      generalize pl k = q at *
      have HO := Lib.hid (i64_orpow (datT w k) b k hd h1 hb)
      generalize datT w k = d at *
      clear hd
      go_wp2
      go_round
      case rel => exact ⟨k + 1, by omega, by go_num, by rw [HD.out, ← HO.out]⟩
      case measure => simp [intOf]; omega
    · obtain rfl : k = 24 := by omega
      go_wp2
      go_ret
      exact ⟨rfl, rfl⟩
end Go.Proofs.YtiholfpcndjliaaDoor
