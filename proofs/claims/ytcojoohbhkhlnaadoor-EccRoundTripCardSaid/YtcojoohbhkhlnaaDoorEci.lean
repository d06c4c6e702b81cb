/-
  The walks of sameWords and of the reference's Pack.
-/
import Derived.Test.YtcojoohbhkhlnaaDoorEch
import Derived.Test.YtcojoohbhkhlnaaDoorWrd
namespace Go.Proofs.YtcojoohbhkhlnaaDoor
set_option linter.unusedVariables false
set_option linter.unusedSimpArgs false
open Go.RowKit

theorem alloc_below (w : World) (o : Obj) : Below w.heap.size w (w.alloc o) := (Below.refl _ w).alloc (Nat.le_refl _) o
theorem alloc_size (w : World) (o : Obj) : (w.alloc o).heap.size = w.heap.size + 1 := by simp

set_option maxHeartbeats 400000 in
theorem samew_yes (l : List Nat) (v u : Value) (w : World) (B : Nat) (ha : SW w B v l) (hb : SW w B u l) :
    Calls Tryd.prog 16 #[v, u] w fun e w' => e = .returned (.bool true) ∧ ∃ n, w' = w.drewN n := by
  obtain ⟨A1, c1, rfl, h11, h12, h13⟩ := ha
  obtain ⟨A2, c2, rfl, h21, h22, h23⟩ := hb
  unfold maxLen at h12 h22
  go_enter Tryd.func16, Tryd.ntmps16
  go_wp2
  go_loopw [5] (fun i wr => ∃ k : Nat, k ≤ l.length ∧ i = .int .i64 k ∧ ∃ n, wr = w.drewN n) (fun i _ => l.length - (intOf i).toNat)
  case atStart => exact ⟨0, Nat.zero_le _, rfl, 0, rfl⟩
  case round =>
    obtain ⟨k, hka, rfl, n, rfl⟩ := hrel
    by_cases h1 : k < l.length
    · obtain ⟨b1, o1, rfl, hb1, hc1⟩ := h13 (by omega)
      obtain ⟨b2, o2, rfl, hb2, hc2⟩ := h23 (by omega)
      have g1 := hc1 k h1
      have g2 := hc2 k h1
      have H1 := Lib.hid hc1
      have H2 := Lib.hid hc2
      clear hc1 hc2 h13 h23
      generalize l.getD k 0 = x at g1 g2
      go_wp2
      go_quiet (fail)
      go_wp2
      go_roundw
      case rel => exact ⟨k + 1, by omega, by go_num, by first | exact ⟨_, rfl⟩ | (simp only [World.drewN_drewN]; exact ⟨_, rfl⟩)⟩
      case measure => simp [intOf]; omega
    · obtain rfl : k = l.length := by omega
      go_wp2
      go_ret
      exact ⟨rfl, n, rfl⟩

/-- The number that up to three bytes make. -/
def numJ (l : List UInt8) (i : Nat) : Nat → Nat
  | 0 => 0
  | j + 1 => numJ l i j * 256 + (l.getD (i + j) 0).toNat
theorem numJ_lt (l : List UInt8) (i : Nat) : numJ l i 1 < 256 ∧ numJ l i 2 < 65536 ∧ numJ l i 3 < 16777216 := by
  have h0 := (l.getD (i + 0) 0).toNat_lt
  have h1 := (l.getD (i + 1) 0).toNat_lt
  have h2 := (l.getD (i + 2) 0).toNat_lt
  simp only [numJ]
  omega
theorem numJ_le (l : List UInt8) (i j : Nat) (h : j ≤ 3) : numJ l i j < 16777216 := by
  have := numJ_lt l i
  have h4 : j = 0 ∨ j = 1 ∨ j = 2 ∨ j = 3 := by omega
  rcases h4 with rfl | rfl | rfl | rfl
  · simp [numJ]
  · omega
  · omega
  · omega
theorem numJ_le2 (l : List UInt8) (i j : Nat) (h : j < 3) : numJ l i j < 65536 := by
  have := numJ_lt l i
  have h4 : j = 0 ∨ j = 1 ∨ j = 2 := by omega
  rcases h4 with rfl | rfl | rfl
  · simp [numJ]
  · omega
  · omega
def wordsK (n : Nat) : Nat := (n + 2) / 3
/-- The first k code words of some bytes. -/
def packK (l : List UInt8) (k : Nat) : List Nat := (List.range k).map fun i => encW (numJ l (3 * i) 3)
def packL (l : List UInt8) : List Nat := packK l (wordsK l.length)
theorem packK_succ (l : List UInt8) (k : Nat) : packK l (k + 1) = packK l k ++ [encW (numJ l (3 * k) 3)] := by simp [packK, List.range_succ]
theorem packK_len (l : List UInt8) (k : Nat) : (packK l k).length = k := by simp [packK]
/-- What Pack returns. -/
def PackR (l : List UInt8) (w : World) (e : Ending) (w' : World) : Prop := ∃ v', e = .returned v' ∧ OW w' w.heap.size v' (packL l) ∧ Below w.heap.size w w'

set_option maxRecDepth 100000 in
set_option maxHeartbeats 1600000 in
theorem rpack_any (l : List UInt8) (v : Value) (w : World) (h : SL w w.heap.size v l) (hl : l.length ≤ 10000) : Calls Tryd.prog 18 #[v] w (PackR l w) := by
  obtain ⟨A1, c1, rfl, h11, h12, h13⟩ := h
  unfold maxLen at h12
  have hK : wordsK l.length * 3 < l.length + 3 ∧ l.length ≤ wordsK l.length * 3 := by unfold wordsK; omega
  have HP : Hid (packL l = packK l (wordsK l.length)) := rfl
  generalize wordsK l.length = K at hK HP
  have H13 := Lib.hid h13
  clear h13
  go_enter Tryd.func18, Tryd.ntmps18
  go_wp2
  go_loopw [3, 4] (fun out i wr => ∃ k : Nat, k ≤ K ∧ i = .int .i64 ((3 * k : Nat) : Int) ∧ OW wr w.heap.size out (packK l k) ∧ Below w.heap.size w wr) (fun _ i _ => l.length + 3 - (intOf i).toNat)
  case atStart => exact ⟨0, by omega, rfl, OW.nil _ _, Below.refl _ _⟩
  case round =>
    obtain ⟨k, hk, rfl, hown, hbel⟩ := hrel
    obtain ⟨A2, c2, rfl⟩ := hown.value
    by_cases h1 : k < K
    · have hi : 3 * k < l.length := by omega
      have HI : Hid (3 * (k + 1) = 3 * k + 3) := by show _ = _; omega
      have HO := Lib.hid hown
      have hlk : k ≤ 10000 := by omega
      have HPK := Lib.hid (packK_succ l k)
      have HLN := Lib.hid (packK_len l k)
      clear hown
      generalize 3 * k = i at *
      go_wp2
      go_loop [5, 6] (fun n q => ∃ j : Nat, j ≤ 3 ∧ q = .int .i64 ((i + j : Nat) : Int) ∧ n = .int .i64 (numJ l i j : Int)) (fun _ q => i + 3 - (intOf q).toNat)
      case atStart => exact ⟨0, by omega, rfl, rfl⟩
      case round =>
        obtain ⟨j, hj, rfl, rfl⟩ := hrel
        have hn := numJ_le l i j hj
        by_cases h3 : j < 3
        · have hn2 := numJ_le2 l i j h3
          by_cases hlen : i + j < l.length
          · obtain ⟨b1, o1, rfl, hb1, hc1⟩ := H13.out (by omega)
            have g1 := (hbel.cell (p := ⟨b1, o1 + (i + j), none⟩) hb1).trans (hc1 (i + j) hlen)
            have HN : Hid (numJ l i (j + 1) = numJ l i j * 256 + (l.getD (i + j) 0).toNat) := rfl
            have hx := (l.getD (i + j) 0).toNat_lt
            have HC := Lib.hid hc1
            clear hc1
            generalize (l.getD (i + j) 0).toNat = x at *
            have HIJ : Hid (i + (j + 1) = i + j + 1) := rfl
            generalize numJ l i j = n at *
            have hq3 : i + j < i + 3 := by omega
            obtain ⟨q, hq⟩ : ∃ q, i + j = q := ⟨_, rfl⟩
            rw [hq] at hq3 g1 hlen HIJ
            rw [hq]
            have HQ := Lib.hid hq
            clear hq
            go_wp2
            go_round
            case rel => exact ⟨j + 1, by omega, by rw [HIJ.out]; go_num, by rw [HN.out]; go_num⟩
            case measure => simp [intOf]; omega
          · have HN : Hid (numJ l i (j + 1) = numJ l i j * 256) := by
              show _ = _
              rw [numJ, List.getD_eq_getElem?_getD, List.getElem?_eq_none (by omega)]
              rfl
            have HIJ : Hid (i + (j + 1) = i + j + 1) := rfl
            generalize numJ l i j = n at *
            have hq3 : i + j < i + 3 := by omega
            obtain ⟨q, hq⟩ : ∃ q, i + j = q := ⟨_, rfl⟩
            rw [hq] at hq3 hlen HIJ
            rw [hq]
            have HQ := Lib.hid hq
            clear hq
            go_wp2
            go_round
            case rel => exact ⟨j + 1, by omega, by rw [HIJ.out]; go_num, by rw [HN.out]; go_num⟩
            case measure => simp [intOf]; omega
        · obtain rfl : j = 3 := by omega
          have HE := renc_in (numJ l i 3) wr hn
          generalize numJ l i 3 = n at *
          have hno : ¬ ((n : Int) < 0 ∨ 16777216 ≤ (n : Int)) := by omega
          unfold EncR at HE
          rw [if_neg hno, if_neg hno, Int.toNat_natCast] at HE
          have HE := Lib.hid HE
          generalize encW n = x at *
          clear hno h3
          go_wp2_with (first
            | (go_at_call 10; refine HE.out.mono ?_; rintro e w' ⟨rfl, rfl⟩)
            | (at_builtin; refine wpList_app1W rfl _ _ rfl wr w.heap.size _ _ x _ wr.heap.size rfl rfl (alloc_below wr _) HO.out (heap_alloc_new wr _) rfl (by rw [HLN.out]; omega) hbel.size ?_; intro g cap w2 hown2 hb2))
          have hbel2 := hbel.trans hb2
          rw [HLN.out]
          go_roundw
          case rel => exact ⟨k + 1, by omega, by rw [HI.out]; go_num, by rw [HPK.out]; rw [HLN.out] at hown2; exact hown2, hbel2⟩
          case measure => simp [intOf]; omega
    · obtain rfl : k = K := by omega
      have hi : ¬ 3 * k < l.length := by omega
      generalize 3 * k = i at *
      go_wp2
      go_ret
      exact ⟨_, rfl, by rw [HP.out]; exact hown, hbel⟩
end Go.Proofs.YtcojoohbhkhlnaaDoor
