
/-
  The cipher of the program: a number of four bytes, the function F, a number appended.
-/
import Derived.Test.YtdalcldilmmgmaaDoorCim
import Derived.Test.YtdalcldilmmgmaaDoorOcta
import Derived.Test.YtdalcldilmmgmaaDoorPut
import Derived.Deep.RegionHeld3
import Derived.Laws.BitsAllLaws
namespace Go.Proofs.YtdalcldilmmgmaaDoor
set_option linter.unusedVariables false
set_option linter.unusedSimpArgs false
open Go.RowKit

theorem u32_lt (x : UInt32) : x.toNat < 4294967296 := x.toNat_lt
theorem f32_walk (x k : UInt32) : bits BinOp.xor IntKind.u32 (((x.toNat : Int) + (k.toNat : Int)) % 4294967296 * 2654435761 % 4294967296) (((x.toNat : Int) + (k.toNat : Int)) % 4294967296 * 2654435761 % 4294967296 / 32768) * 2246822519 % 4294967296 = ((f32 x k).toNat : Int) := by
  obtain ⟨t, ht⟩ : ∃ t : UInt32, t = (x + k) * (2654435761 : UInt32) := ⟨_, rfl⟩
  have e1 : ((x.toNat : Int) + (k.toNat : Int)) % 4294967296 * 2654435761 % 4294967296 = (t.toNat : Int) := by
    rw [ht, UInt32.toNat_mul, UInt32.toNat_add]
    simp only [Int.natCast_emod, Int.natCast_mul, Int.natCast_add]
    rfl
  have hs : (t >>> (15 : UInt32)).toNat = t.toNat / 32768 := by
    rw [UInt32.toNat_shiftRight, Nat.shiftRight_eq_div_pow]
    rfl
  have e2 : (t.toNat : Int) / 32768 = ((t >>> (15 : UInt32)).toNat : Int) := by rw [hs]; rfl
  rw [e1, e2, u32_xor_nat _ _ (u32_lt _) (u32_lt _), ← UInt32.toNat_xor]
  unfold f32
  simp only [← ht, UInt32.toNat_mul]
  simp

theorem u8_lt (x : UInt8) : x.toNat < 256 := x.toNat_lt
theorem nat_join (i x b : Nat) (h : x % 2 ^ i = 0) (hb : b < 2 ^ i) : x ||| b = x + b := by
  obtain ⟨q, rfl⟩ : ∃ q, x = q * 2 ^ i := ⟨x / 2 ^ i, by have := Nat.div_add_mod x (2 ^ i); rw [h] at this; rw [Nat.mul_comm]; omega⟩
  rw [← Nat.shiftLeft_eq, Nat.shiftLeft_add_eq_or_of_lt hb]
theorem or_step32 (n : Nat) (x : UInt8) (h : n < 16777216) : bits .or .u32 ((n : Int) * 256) (x.toNat : Int) = ((n * 256 + x.toNat : Nat) : Int) := by
  have hx := u8_lt x
  rw [show ((n : Int) * 256) = ((n * 256 : Nat) : Int) by omega, u32_or_nat _ _ (by omega) (by omega), nat_join 8 (n * 256) x.toNat (by omega) (by omega)]

set_option maxRecDepth 100000 in
theorem pscr_any (x k : UInt32) (w : World) : Calls Tryd.prog 82 #[.int .u32 (x.toNat : Int), .int .u32 (k.toNat : Int)] w fun e w' => e = .returned (.int .u32 ((f32 x k).toNat : Int)) ∧ w = w' := by
  have hx := u32_lt x
  have hk := u32_lt k
  have H := Lib.hid (f32_walk x k)
  go_enter Tryd.func82, Tryd.ntmps82
  go_wp2
  go_ret
  exact ⟨ret_int H.out, rfl⟩

theorem num32 (l : List UInt8) (h : l.length = 4) : (UInt32.ofNat (numL l)).toNat = numL l := by
  have hb := numL_bound l
  rw [h] at hb
  rw [UInt32.toNat_ofNat']
  exact Nat.mod_eq_of_lt (by omega)
theorem numL4 (l : List UInt8) (h : l.length = 4) : ((l.getD 0 0).toNat : Int) * 16777216 + ((l.getD 1 0).toNat : Int) * 65536 + ((l.getD 2 0).toNat : Int) * 256 + ((l.getD 3 0).toNat : Int) = ((UInt32.ofNat (numL l)).toNat : Int) := by
  rw [num32 l h]
  match l, h with
  | [a, b, c, d], _ =>
    simp [numL]
    omega
set_option maxRecDepth 100000 in
theorem pnum_any (l : List UInt8) (i : Nat) (v : Value) (w : World) (B : Nat) (hl : SL w B v l) (h : 4 * i + 4 ≤ l.length) (hi : i ≤ 1000) : Calls Tryd.prog 81 #[v, .int .i64 i] w fun e w' => e = .returned (.int .u32 ((wd l i).toNat : Int)) ∧ ∃ n, w' = w.drewN n := by
  obtain ⟨A1, c1, rfl, h11, h12, h13⟩ := hl
  unfold maxLen at h12
  obtain ⟨b1, o1, rfl, hb1, hc1⟩ := h13 (by omega)
  obtain ⟨m, hm⟩ : ∃ m, m = (l.drop (4 * i)).take 4 := ⟨_, rfl⟩
  have hml : m.length = 4 := by rw [hm]; simp; omega
  have hcm : ∀ k, k < 4 → w.cell? ⟨b1, o1 + i * 4 + k, none⟩ = some (.int .u8 ((m.getD k 0).toNat : Int)) := by
    intro k hk
    rw [Nat.add_assoc, hc1 (i * 4 + k) (by omega), hm]
    simp [List.getD, List.getElem?_take, hk, Nat.mul_comm]
  have HW : Hid (wd l i = UInt32.ofNat (numL m)) := by show _ = _; rw [hm]; rfl
  have HC := Lib.hid hc1
  have HM := Lib.hid hm
  clear hc1 h13 hm
  have i1 : (0 : Int) ≤ (i : Int) * 4 := by omega
  have i2 : ((i : Int) + 1) * 4 ≤ (c1 : Int) := by omega
  have i3 : (i : Int) * 4 ≤ ((i : Int) + 1) * 4 := by omega
  go_enter Tryd.func81, Tryd.ntmps81
  go_wp2
  go_loopw [5, 16] (fun n j wr => ∃ k : Nat, k ≤ 4 ∧ j = .int .i64 k ∧ n = .int .u32 (numL (m.take k) : Int) ∧ ∃ d, wr = w.drewN d) (fun _ j _ => 4 - (intOf j).toNat)
  case atStart => exact ⟨0, by omega, rfl, rfl, 0, rfl⟩
  case round =>
    obtain ⟨k, hk, rfl, rfl, d, rfl⟩ := hrel
    by_cases h1 : k < 4
    · have g1 := hcm k h1
      have hx := (m.getD k 0).toNat_lt
      have hN : numL (m.take k) < 16777216 := by
        have := numL_bound (m.take k)
        rw [List.length_take, Nat.min_eq_left (by omega)] at this
        have : 256 ^ k ≤ 256 ^ 3 := Nat.pow_le_pow_right (by omega) (by omega)
        omega
      have HS := Lib.hid (numL_take m k (by omega))
      have HCM := Lib.hid hcm
      clear hcm
      generalize hNN : numL (m.take k) = N at *
      generalize hyy : m.getD k 0 = y at *
      have H1 := Lib.hid hNN
      have H2 := Lib.hid hyy
      clear hNN hyy
      have hy := u8_lt y
      clear hx
      go_wp2
      go_roundw
      case rel => exact ⟨k + 1, by omega, by go_num, by rw [HS.out, or_step32 _ _ hN], d, rfl⟩
      case measure => simp [intOf]; omega
    · have hk : k = 4 := by omega
      subst hk
      have e : (numL (m.take 4) : Int) = ((wd l i).toNat : Int) := by rw [HW.out, num32 m hml, List.take_of_length_le (by omega)]
      have HE := Lib.hid e
      clear e
      go_wp2
      go_ret
      exact ⟨ret_int HE.out, d, rfl⟩
end Go.Proofs.YtdalcldilmmgmaaDoor
