/-
  The walks of Success, validStatus, width, lengthField, readLe and of the reference's Word, number, amount.
-/
import Derived.Test.YtjoibonbmalbdaaCmb
namespace Go.Proofs.Ytjoibonbmalbdaa
set_option linter.unusedVariables false
set_option linter.unusedSimpArgs false
open Go.RowKit

def succB (n : Int) : Bool := decide (n = 36864) || (decide (24832 ≤ n) && decide (n ≤ 25599))
def wordB (n : Int) : Bool := (decide (24832 ≤ n) && decide (n ≤ 28671)) || (decide (36864 ≤ n) && decide (n ≤ 40959))

theorem psucc_any (n : Int) (w : World) : Calls Try.prog 28 #[.int .i64 n] w fun e w' => e = .returned (.bool (succB n)) ∧ w = w' := by
  go_enter Try.func28, Try.ntmps28
  go_wp2_with fail
  all_goals
    go_ret
    refine ⟨congrArg (fun b => Ending.returned (.bool b)) ?_, rfl⟩
    unfold succB
    first
      | (rw [Bool.eq_iff_iff]; simp; omega)
      | (simp_all; done)
      | (simp_all; omega)
theorem rsucc_any (n : Int) (w : World) : Calls Try.prog 29 #[.int .i64 n] w fun e w' => e = .returned (.bool (succB n)) ∧ w = w' := by
  go_enter Try.func29, Try.ntmps29
  go_wp2_with fail
  all_goals
    go_ret
    refine ⟨congrArg (fun b => Ending.returned (.bool b)) ?_, rfl⟩
    unfold succB
    first
      | (rw [Bool.eq_iff_iff]; simp; omega)
      | (simp_all; done)
      | (simp_all; omega)
theorem pword_any (n : Int) (w : World) : Calls Try.prog 50 #[.int .i64 n] w fun e w' => e = .returned (.bool (wordB n)) ∧ w = w' := by
  go_enter Try.func50, Try.ntmps50
  go_wp2_with fail
  all_goals
    go_ret
    refine ⟨congrArg (fun b => Ending.returned (.bool b)) ?_, rfl⟩
    unfold wordB
    first
      | (rw [Bool.eq_iff_iff]; simp; omega)
      | (simp_all; done)
      | (simp_all; omega)
theorem rword_any (n : Int) (w : World) : Calls Try.prog 52 #[.int .i64 n] w fun e w' => e = .returned (.bool (wordB n)) ∧ w = w' := by
  go_enter Try.func52, Try.ntmps52
  go_wp2_with fail
  all_goals
    go_ret
    refine ⟨congrArg (fun b => Ending.returned (.bool b)) ?_, rfl⟩
    unfold wordB
    first
      | (rw [Bool.eq_iff_iff]; simp; omega)
      | (simp_all; done)
      | (simp_all; omega)

/-- The bytes of a length. -/
def widN (long : Bool) : Nat := if long then 2 else 1
theorem pwid_any (b : Bool) (w : World) : Calls Try.prog 58 #[.bool b] w fun e w' => e = .returned (.int .i64 (widN b : Int)) ∧ w = w' := by
  cases b
  all_goals
    go_enter Try.func58, Try.ntmps58
    go_wp2_with fail
    go_ret
    exact ⟨rfl, rfl⟩

set_option maxRecDepth 100000 in
theorem plen_any (N : Nat) (b : Bool) (w : World) (hN : N ≤ 70000) :
    Calls Try.prog 40 #[.int .i64 (N : Int), .bool b] w fun e w' => ∃ v', e = .returned v' ∧ SL w' w'.heap.size v' (putL (N % 256 ^ widN b) (widN b)) ∧ Below w.heap.size w w' := by
  cases b
  · have HP : Hid (∀ W : World, Calls Try.prog 54 #[.int .i64 ((N : Int) % 256), .int .i64 1] W fun e w' => ∃ v', e = .returned (.tuple #[v', .int .i64 0]) ∧ SL w' w'.heap.size v' (putL (N % 256) 1) ∧ Below W.heap.size W w') := fun W => by
      have := pput_ok (N % 256) 1 W (by omega) (by omega) (by omega) (by omega)
      rw [Int.natCast_emod] at this
      exact this
    have HW : Hid (Calls Try.prog 58 #[.bool false] w fun e w' => e = .returned (.int .i64 1) ∧ w = w') := pwid_any false w
    go_enter Try.func40, Try.ntmps40
    go_wp2_with fail
    refine HW.out.mono ?_
    rintro e w1 ⟨rfl, rfl⟩
    go_wp2_with fail
    refine (HP.out _).mono ?_
    rintro e w2 ⟨v2, rfl, hv2, hb2⟩
    go_wp2_with fail
    go_ret
    exact ⟨_, rfl, hv2, hb2⟩
  · have HP : Hid (∀ W : World, Calls Try.prog 54 #[.int .i64 ((N : Int) % 65536), .int .i64 2] W fun e w' => ∃ v', e = .returned (.tuple #[v', .int .i64 0]) ∧ SL w' w'.heap.size v' (putL (N % 65536) 2) ∧ Below W.heap.size W w') := fun W => by
      have := pput_ok (N % 65536) 2 W (by omega) (by omega) (by omega) (by omega)
      rw [Int.natCast_emod] at this
      exact this
    have HW : Hid (Calls Try.prog 58 #[.bool true] w fun e w' => e = .returned (.int .i64 2) ∧ w = w') := pwid_any true w
    go_enter Try.func40, Try.ntmps40
    go_wp2_with fail
    refine HW.out.mono ?_
    rintro e w1 ⟨rfl, rfl⟩
    go_wp2_with fail
    refine (HP.out _).mono ?_
    rintro e w2 ⟨v2, rfl, hv2, hb2⟩
    go_wp2_with fail
    go_ret
    exact ⟨_, rfl, hv2, hb2⟩

/-- The Le that bytes denote. -/
def leN (l : List UInt8) : Int := if numL l = 0 then ((256 ^ l.length : Nat) : Int) else numL l
theorem getN_small (l : List UInt8) (h : l.length ≤ 2) : getN l = (numL l : Int) ∧ getE l = 0 ∧ numL l < 65536 := by
  have hb := numL_bound l
  have hp : 256 ^ l.length ≤ 256 ^ 2 := Nat.pow_le_pow_right (by omega) h
  have hs := numL_small l (by omega)
  refine ⟨?_, ?_, by omega⟩
  · rw [getN, if_neg (by omega), if_neg hs]
  · rw [getE, if_neg (by omega), if_neg hs]

set_option maxRecDepth 100000 in
theorem prdle_any (l : List UInt8) (v : Value) (w : World) (B : Nat) (h : SL w B v l) (h1 : 1 ≤ l.length) (h2 : l.length ≤ 2) :
    Calls Try.prog 60 #[v] w fun e w' => e = .returned (.int .i64 (leN l)) ∧ w = w' := by
  obtain ⟨g1, g2, g3⟩ := getN_small l h2
  have HG := pget_any l v w B h
  rw [g1, g2] at HG
  have HG := Lib.hid HG
  obtain ⟨A, c, rfl, _, _, _⟩ := h
  by_cases hz : numL l = 0
  · have HV : Hid (leN l = ((256 ^ l.length : Nat) : Int)) := by show _ = _; rw [leN, if_pos hz]
    rw [hz] at HG
    have hl : l.length = 1 ∨ l.length = 2 := by omega
    clear g1 g2 g3 hz
    rcases hl with hl | hl
    all_goals
      rw [hl] at HG HV ⊢
      have HL := Lib.hid hl
      clear hl
      go_enter Try.func60, Try.ntmps60
      go_wp2_with fail
      refine HG.out.mono ?_
      rintro e w1 ⟨rfl, rfl⟩
      go_wp2_with fail
      go_ret
      exact ⟨by rw [HV.out]; rfl, rfl⟩
  · have HV : Hid (leN l = numL l) := by show _ = _; rw [leN, if_neg hz]
    have hz0 : ((numL l : Int) == 0) = false := by rw [beq_eq_false_iff_ne]; omega
    clear g1 g2 g3 hz
    generalize numL l = n at *
    go_enter Try.func60, Try.ntmps60
    go_wp2_with fail
    refine HG.out.mono ?_
    rintro e w1 ⟨rfl, rfl⟩
    go_wp2_with fail
    go_ret
    exact ⟨by rw [HV.out]; rfl, rfl⟩

set_option maxRecDepth 100000 in
set_option maxHeartbeats 800000 in
theorem ramount_any (l : List UInt8) (v : Value) (w : World) (B : Nat) (h : SL w B v l) (h1 : 1 ≤ l.length) (h2 : l.length ≤ 2) :
    Calls Try.prog 61 #[v] w fun e w' => e = .returned (.int .i64 (leN l)) ∧ w = w' := by
  obtain ⟨A1, c1, rfl, h11, h12, h13⟩ := h
  unfold maxLen at h12
  go_enter Try.func61, Try.ntmps61
  go_wp2_with fail
  go_loop [3, 4, 5] (fun n a i => ∃ k : Nat, k ≤ l.length ∧ i = .int .i64 k ∧ n = .int .i64 (numL (l.take k)) ∧ a = .int .i64 ((256 ^ k : Nat) : Int)) (fun _ _ i => l.length - (intOf i).toNat)
  case atStart => exact ⟨0, Nat.zero_le _, rfl, rfl, rfl⟩
  case round =>
    obtain ⟨k, hk, rfl, rfl, rfl⟩ := hrel
    have hp : 256 ^ k ≤ 65536 := by
      have : 256 ^ k ≤ 256 ^ 2 := Nat.pow_le_pow_right (by omega) (by omega)
      omega
    have hb := numL_bound (l.take k)
    have hlk : (l.take k).length = k := by rw [List.length_take]; omega
    rw [hlk] at hb
    by_cases hlt : k < l.length
    · obtain ⟨b1, o1, rfl, hb1, hc1⟩ := h13 (by omega)
      have g1 := hc1 k hlt
      have HC := Lib.hid hc1
      have HT := Lib.hid (numL_take l k hlt)
      have HPS : Hid (256 ^ (k + 1) = 256 ^ k * 256) := Nat.pow_succ ..
      have HB := Lib.hid hb
      have hn : numL (l.take k) ≤ 65536 := by omega
      generalize numL (l.take k) = n at *
      generalize 256 ^ k = p at *
      generalize l.getD k 0 = x at g1 HT
      have hxl := x.toNat_lt
      clear hc1 h13 hb hlk
      go_wp2
      go_round
      case rel => exact ⟨k + 1, by omega, by go_num, by rw [HT.out]; rfl, by rw [HPS.out]; rfl⟩
      case measure => simp [intOf]; omega
    · obtain rfl : k = l.length := by omega
      have hn : numL l ≤ 65536 := by rw [List.take_length] at hb; omega
      rw [List.take_length]
      by_cases hz : numL l = 0
      · have HV : Hid (leN l = ((256 ^ l.length : Nat) : Int)) := by show _ = _; rw [leN, if_pos hz]
        rw [hz]
        generalize 256 ^ l.length = p at *
        clear hb hlk h13
        go_wp2
        go_ret
        exact ⟨by rw [HV.out]; rfl, rfl⟩
      · have HV : Hid (leN l = numL l) := by show _ = _; rw [leN, if_neg hz]
        have hz0 : ((numL l : Int) == 0) = false := by rw [beq_eq_false_iff_ne]; omega
        generalize 256 ^ l.length = p at *
        generalize numL l = n at *
        clear hb hlk h13 hz
        go_wp2
        go_ret
        exact ⟨by rw [HV.out]; rfl, rfl⟩

