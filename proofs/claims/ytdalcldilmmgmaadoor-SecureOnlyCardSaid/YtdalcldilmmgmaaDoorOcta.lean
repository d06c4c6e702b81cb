
/-
  The walks of Xor, of the program and of the reference.
-/
import Derived.Test.YtdalcldilmmgmaaDoorCmp
import Derived.Test.YtdalcldilmmgmaaDoorOwn
import Derived.Deep.RegionHeld3
namespace Go.Proofs.YtdalcldilmmgmaaDoor
set_option linter.unusedVariables false
set_option linter.unusedSimpArgs false
open Go.RowKit

theorem bits_xor (x y : UInt8) : bits .xor .u8 (x.toNat : Int) (y.toNat : Int) = ((x ^^^ y).toNat : Int) := by
  rw [u8_xor_nat _ _ x.toNat_lt y.toNat_lt, UInt8.toNat_xor]


set_option maxRecDepth 100000 in
set_option maxHeartbeats 800000 in
theorem pxor_any (a b : List UInt8) (v u : Value) (w : World) (ha : SL w w.heap.size v a) (hb : SL w w.heap.size u b) (hl : a.length = b.length) (hn : a.length ≤ 60000) :
    Calls Tryd.prog 69 #[v, u] w fun e w' => ∃ v', e = .returned (.tuple #[v', .int .i64 0]) ∧ SL w' w'.heap.size v' (xorL a b) ∧ Below w.heap.size w w' := by
  obtain ⟨A1, c1, rfl, h11, h12, h13⟩ := ha
  obtain ⟨A2, c2, rfl, h21, h22, h23⟩ := hb
  unfold maxLen at h12 h22
  have hne : ((a.length : Int) != (b.length : Int)) = false := by simp [hl]
  have HL := Lib.hid hl
  have hlb : a.length ≤ b.length := by omega
  clear hl
  go_enter Tryd.func69, Tryd.ntmps69
  go_wp2_with (at_make; refine wpList_mk (by rfl) _ _ (by rfl) .i64 .i64 _ _ a.length (by rfl) (by rfl) (by rfl) (by rfl) (by omega) ?_; intro w1 hown1 hb1')
  go_loopw [18] (fun i wr => ∃ k : Nat, k ≤ a.length ∧ i = .int .i64 k ∧ OB wr w.heap.size (.slice (some ⟨w.heap.size, 0, none⟩) a.length a.length) (xorL (a.take k) (b.take k) ++ List.replicate (a.length - k) 0) ∧ Below w.heap.size w wr) (fun i _ => a.length - (intOf i).toNat)
  case atStart => exact ⟨0, Nat.zero_le _, rfl, by simpa [xorL] using hown1, hb1'⟩
  case round =>
    obtain ⟨k, hka, rfl, hown, hbel⟩ := hrel
    by_cases h1 : k < a.length
    · obtain ⟨b1, o1, rfl, hb1, hc1⟩ := h13 (by omega)
      obtain ⟨b2, o2, rfl, hb2, hc2⟩ := h23 (by omega)
      have g1 := (hbel.cell (p := ⟨b1, o1 + k, none⟩) hb1).trans (hc1 k h1)
      have g2 := (hbel.cell (p := ⟨b2, o2 + k, none⟩) hb2).trans (hc2 k (by omega))
      have g3 := hown.cellAt k (by simp [xorL]; omega)
      have g4 := hown.frozenAt k
      have n1 : ¬ b1 = w.heap.size := by omega
      have n2 : ¬ b2 = w.heap.size := by omega
      have i0' : (0 : Int) ≤ (k : Int) := by omega
      have i1' : (k : Int) < (a.length : Int) := by omega
      have i2' : (k : Int) < (b.length : Int) := by omega
      have hlk : k < b.length := by omega
      go_wp2
      go_region_held3 (fun w' => w'.cell? ⟨b1, o1 + k, none⟩ = some (.int .u8 ((a.getD k 0).toNat : Int)) ∧ w'.cell? ⟨b2, o2 + k, none⟩ = some (.int .u8 ((b.getD k 0).toNat : Int)))
        (first
          | (go_keep; done)
          | exact ⟨(far_set wr _ (by simpa using n1)).trans g1, (far_set wr _ (by simpa using n2)).trans g2⟩) (fail)
      go_wp2
      go_roundw
      case rel =>
        refine ⟨k + 1, by omega, by go_num, ?_, (hbel.setCell (p := ⟨w.heap.size, k, none⟩) (Nat.le_refl _) _).drew⟩
        have hl : (xorL (a.take k) (b.take k)).length = k := by simp [xorL]; omega
        have e : xorL (a.take (k + 1)) (b.take (k + 1)) ++ List.replicate (a.length - (k + 1)) 0 = (xorL (a.take k) (b.take k) ++ List.replicate (a.length - k) 0).set k (a.getD k 0 ^^^ b.getD k 0) := by
          have := set_pad (xorL (a.take k) (b.take k)) (a.length - k) (a.getD k 0 ^^^ b.getD k 0) (by omega)
          rw [hl] at this
          rw [this, xorL_take a b k h1 hlk, Nat.sub_sub]
        rw [e]
        exact hown.stored k _ _ (by rw [gd h1, gd hlk]; exact bits_xor _ _)
      case measure => simp [intOf]; omega
    · have hk : k = a.length := by omega
      subst hk
      go_wp2
      go_ret2
      refine ⟨_, rfl, ?_, hbel⟩
      have e : xorL (a.take a.length) (b.take a.length) ++ List.replicate (a.length - a.length) 0 = xorL a b := by rw [List.take_length, List.take_of_length_le (by rw [HL.out]; exact Nat.le_refl _)]; simp
      rw [← e]
      exact hown.sl

theorem xor_ne1 (a b : List UInt8) (v u : Value) (w : World) (B : Nat) (ha : SL w B v a) (hb : SL w B u b) (hl : a.length ≠ b.length) :
    Calls Tryd.prog 69 #[v, u] w fun e w' => e = .returned (.tuple #[.slice none 0 0, .int .i64 1]) ∧ w = w' := by
  obtain ⟨A1, c1, rfl, h11, h12, h13⟩ := ha
  obtain ⟨A2, c2, rfl, h21, h22, h23⟩ := hb
  have hne : ((a.length : Int) != (b.length : Int)) = true := by simp; omega
  clear hl h13 h23
  go_enter Tryd.func69, Tryd.ntmps69
  go_wp2
  go_ret2
  exact ⟨rfl, rfl⟩
end Go.Proofs.YtdalcldilmmgmaaDoor
