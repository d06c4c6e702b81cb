
/-
  The walks of lrc, crc, Size and Sum, of the program and of the reference.
-/
import Derived.Test.YtnbggokmiokhlaaDoorCrc
import Derived.Test.YtnbggokmiokhlaaDoorJoi
namespace Go.Proofs.YtnbggokmiokhlaaDoor
set_option linter.unusedVariables false
set_option linter.unusedSimpArgs false
open Go.RowKit

theorem bits_xor (x y : UInt8) : bits .xor .u8 (x.toNat : Int) (y.toNat : Int) = ((x ^^^ y).toNat : Int) := by
  rw [u8_xor_nat _ _ x.toNat_lt y.toNat_lt, UInt8.toNat_xor]

theorem plrc_any (l : List UInt8) (v : Value) (w : World) (B : Nat) (h : SL w B v l) :
    Calls Tryd.prog 113 #[v] w fun e w' => e = .returned (.int .u8 ((lrcL l).toNat : Int)) ∧ w = w' := by
  obtain ⟨A1, c1, rfl, h11, h12, h13⟩ := h
  unfold maxLen at h12
  go_enter Tryd.func113, Tryd.ntmps113
  go_wp2
  go_loop [3, 8] (fun s i => ∃ k : Nat, k ≤ l.length ∧ i = .int .i64 k ∧ s = .int .u8 ((lrcL (l.take k)).toNat : Int)) (fun _ i => l.length - (intOf i).toNat)
  case atStart => exact ⟨0, Nat.zero_le _, rfl, rfl⟩
  case round =>
    obtain ⟨k, hk, rfl, rfl⟩ := hrel
    by_cases h1 : k < l.length
    · obtain ⟨b1, o1, rfl, hb1, hc1⟩ := h13 (by omega)
      have g1 := hc1 k h1
      have HC := Lib.hid hc1
      clear hc1 h13
      go_wp2
      go_round
      case rel => exact ⟨k + 1, by omega, by go_num, by rw [lrcL_take l k h1, ← bits_xor, gd h1]⟩
      case measure => simp [intOf]; omega
    · obtain rfl : k = l.length := by omega
      go_wp2
      go_ret
      exact ⟨rfl, rfl⟩

theorem rlrc_any (l : List UInt8) (v : Value) (w : World) (B : Nat) (h : SL w B v l) :
    Calls Tryd.prog 115 #[v] w fun e w' => e = .returned (.int .u8 ((lrcL l).toNat : Int)) ∧ w = w' := by
  obtain ⟨A1, c1, rfl, h11, h12, h13⟩ := h
  unfold maxLen at h12
  go_enter Tryd.func115, Tryd.ntmps115
  go_wp2
  go_loop [3, 4] (fun s i => ∃ k : Nat, k ≤ l.length ∧ i = .int .i64 k ∧ s = .int .u8 ((lrcL (l.take k)).toNat : Int)) (fun _ i => l.length - (intOf i).toNat)
  case atStart => exact ⟨0, Nat.zero_le _, rfl, rfl⟩
  case round =>
    obtain ⟨k, hk, rfl, rfl⟩ := hrel
    by_cases h1 : k < l.length
    · obtain ⟨b1, o1, rfl, hb1, hc1⟩ := h13 (by omega)
      have g1 := hc1 k h1
      have HC := Lib.hid hc1
      clear hc1 h13
      go_wp2
      go_round
      case rel => exact ⟨k + 1, by omega, by go_num, by rw [lrcL_take l k h1, ← bits_xor, gd h1]⟩
      case measure => simp [intOf]; omega
    · obtain rfl : k = l.length := by omega
      go_wp2
      go_ret
      exact ⟨rfl, rfl⟩

/-- The table of the program, as its cells hold it. -/
def Tb (w : World) : Prop := ∀ k, k < 16 → w.cell? ⟨0, k, none⟩ = some (.int .u16 ((crcTab.getD k 0 : Nat) : Int))
theorem Tb.size {w : World} (h : Tb w) : 0 < w.heap.size := World.block_lt_of_cell? w _ (h 0 (by omega))
theorem Tb.on {w w' : World} (h : Tb w) (hb : Below w.heap.size w w') : Tb w' := fun k hk => (hb.cell (p := ⟨0, k, none⟩) h.size).trans (h k hk)

theorem i64_xor_nat (a b : Nat) (ha : a < 4294967296) (hb : b < 4294967296) : bits .xor .i64 (a : Int) (b : Int) = ((a ^^^ b : Nat) : Int) := by
  have hx : a ^^^ b < 2 ^ 32 := Nat.xor_lt_two_pow (by omega) (by omega)
  show IntKind.i64.wrap ((BitVec.ofInt 64 (a : Int) ^^^ BitVec.ofInt 64 (b : Int)).toNat : Int) = _
  rw [BitVec.toNat_xor, ofInt_u64 a (by omega), ofInt_u64 b (by omega)]
  exact IntWalk.i64_in _ (by omega)
theorem u16_wrap_byte (x : UInt8) : IntKind.u16.wrap (x.toNat : Int) = (x.toNat : Int) := by
  have := x.toNat_lt
  exact IntWalk.u16_in _ (by omega)
theorem feed_nib (r : Nat) : shn 8 r = shn 4 (shn 4 r) := shn_add 4 4 r

set_option maxRecDepth 100000 in
set_option maxHeartbeats 800000 in
theorem pcrc_any (l : List UInt8) (v : Value) (w : World) (B : Nat) (h : SL w B v l) (hT : Tb w) :
    Calls Tryd.prog 114 #[v] w fun e w' => e = .returned (.int .u16 (crcN l : Int)) ∧ w = w' := by
  obtain ⟨A1, c1, rfl, h11, h12, h13⟩ := h
  unfold maxLen at h12
  have HT := Lib.hid hT
  clear hT
  go_enter Tryd.func114, Tryd.ntmps114
  go_wp2
  go_loop [3, 8] (fun s i => ∃ k : Nat, k ≤ l.length ∧ i = .int .i64 k ∧ s = .int .u16 (regL 65535 (l.take k) : Int)) (fun _ i => l.length - (intOf i).toNat)
  case atStart => exact ⟨0, Nat.zero_le _, rfl, rfl⟩
  case round =>
    obtain ⟨k, hk, rfl, rfl⟩ := hrel
    have hlt := regL_lt (l.take k) 65535 (by omega)
    by_cases h1 : k < l.length
    · obtain ⟨b1, o1, rfl, hb1, hc1⟩ := h13 (by omega)
      have g1 := hc1 k h1
      have HC := Lib.hid hc1
      clear hc1 h13
      have HS := Lib.hid (regL_take 65535 l k h1)
      generalize regL 65535 (l.take k) = r at hlt HS
      generalize hx : l.getD k 0 = x at *
      have HX := Lib.hid hx
      clear hx
      go_wp2
      have hxl := x.toNat_lt
      go_loop [3, 16] (fun s i => ∃ j : Nat, j ≤ 2 ∧ i = .int .i64 j ∧ s = .int .u16 (shn (4 * j) (r ^^^ x.toNat) : Int)) (fun _ i => 2 - (intOf i).toNat)
      case atStart => exact ⟨0, Nat.zero_le _, rfl, by rw [u16_wrap_byte x, u16_xor_nat _ _ hlt (by omega)]; rfl⟩
      case round =>
        obtain ⟨j, hj, rfl, rfl⟩ := hrel
        have hql := shn_lt (4 * j) (r ^^^ x.toNat) (Nat.xor_lt_two_pow (n := 16) hlt (by omega))
        have HQ : Hid (shn (4 * (j + 1)) (r ^^^ x.toNat) = shn (4 * j) (r ^^^ x.toNat) / 16 ^^^ crcTab.getD (shn (4 * j) (r ^^^ x.toNat) % 16) 0) := by
          show _ = _
          rw [← nib, ← shn_add]
          rfl
        generalize hq : shn (4 * j) (r ^^^ x.toNat) = q at hql HQ
        have HQE := Lib.hid hq
        clear hq
        by_cases h2 : j < 2
        · have gt := HT.out (q % 16) (Nat.mod_lt _ (by omega))
          have hcl := crcTab_lt (q % 16) (Nat.mod_lt _ (by omega))
          generalize crcTab.getD (q % 16) 0 = c at gt hcl HQ
          go_wp2
          go_round
          case rel =>
            refine ⟨j + 1, by omega, by go_num, ?_⟩
            rw [HQ.out, ← u16_xor_nat _ _ (by omega) hcl]
            rfl
          case measure => simp [intOf]; omega
        · obtain rfl : j = 2 := by omega
          go_wp2
          go_round
          case rel =>
            refine ⟨k + 1, by omega, by go_num, ?_⟩
            rw [HS.out, ← HQE.out]
            rfl
          case measure => simp [intOf]; omega
    · obtain rfl : k = l.length := by omega
      go_wp2
      go_ret
      refine ⟨?_, rfl⟩
      show Ending.returned (.int .u16 (bits .xor .u16 ((65535 : Nat) : Int) (regL 65535 l : Int))) = _
      have hlt := regL_lt l 65535 (by omega)
      rw [u16_xor_nat _ _ (by omega) hlt, crcN, compl16 _ hlt, Nat.xor_comm]

set_option maxRecDepth 100000 in
set_option maxHeartbeats 800000 in
theorem rcrc_any (l : List UInt8) (v : Value) (w : World) (B : Nat) (h : SL w B v l) :
    Calls Tryd.prog 116 #[v] w fun e w' => e = .returned (.int .i64 (crcN l : Int)) ∧ w = w' := by
  obtain ⟨A1, c1, rfl, h11, h12, h13⟩ := h
  unfold maxLen at h12
  go_enter Tryd.func116, Tryd.ntmps116
  go_wp2
  go_loop [3, 4] (fun s i => ∃ k : Nat, k ≤ l.length ∧ i = .int .i64 k ∧ s = .int .i64 (regL 65535 (l.take k) : Int)) (fun _ i => l.length - (intOf i).toNat)
  case atStart => exact ⟨0, Nat.zero_le _, rfl, rfl⟩
  case round =>
    obtain ⟨k, hk, rfl, rfl⟩ := hrel
    have hlt := regL_lt (l.take k) 65535 (by omega)
    by_cases h1 : k < l.length
    · obtain ⟨b1, o1, rfl, hb1, hc1⟩ := h13 (by omega)
      have g1 := hc1 k h1
      have HC := Lib.hid hc1
      clear hc1 h13
      have HS := Lib.hid (regL_take 65535 l k h1)
      generalize regL 65535 (l.take k) = r at hlt HS
      generalize hx : l.getD k 0 = x at *
      clear hx
      have hxl := x.toNat_lt
      go_wp2
      go_loop [3, 5] (fun s i => ∃ j : Nat, j ≤ 8 ∧ i = .int .i64 j ∧ s = .int .i64 (shn j (r ^^^ x.toNat) : Int)) (fun _ i => 8 - (intOf i).toNat)
      case atStart => exact ⟨0, Nat.zero_le _, rfl, by rw [i64_xor_nat _ _ (by omega) (by omega)]; rfl⟩
      case round =>
        obtain ⟨j, hj, rfl, rfl⟩ := hrel
        have hql := shn_lt j (r ^^^ x.toNat) (Nat.xor_lt_two_pow (n := 16) hlt (by omega))
        have HQ := Lib.hid (shn_succ j (r ^^^ x.toNat))
        generalize hq : shn j (r ^^^ x.toNat) = q at hql HQ
        have HQE := Lib.hid hq
        clear hq
        by_cases h2 : j < 8
        · by_cases ho : q % 2 = 1
          · have hoi : (((q : Int) % 2 == 1) : Bool) = true := by rw [beq_iff_eq]; omega
            have HO := Lib.hid ho
            clear ho
            go_wp2
            go_round
            case rel =>
              refine ⟨j + 1, by omega, by go_num, ?_⟩
              rw [HQ.out, sh, if_pos HO.out, ← i64_xor_nat _ _ (by omega) (by omega)]
              rfl
            case measure => simp [intOf]; omega
          · have hoi : (((q : Int) % 2 == 1) : Bool) = false := by rw [beq_eq_false_iff_ne]; omega
            have HO := Lib.hid ho
            clear ho
            go_wp2
            go_round
            case rel =>
              refine ⟨j + 1, by omega, by go_num, ?_⟩
              rw [HQ.out, sh, if_neg HO.out]
              rfl
            case measure => simp [intOf]; omega
        · obtain rfl : j = 8 := by omega
          go_wp2
          go_round
          case rel =>
            refine ⟨k + 1, by omega, by go_num, ?_⟩
            rw [HS.out, ← HQE.out]
            rfl
          case measure => simp [intOf]; omega
    · obtain rfl : k = l.length := by omega
      have hlt := regL_lt l 65535 (by omega)
      go_wp2
      go_ret
      refine ⟨?_, rfl⟩
      show Ending.returned (.int .i64 (65535 - (regL 65535 l : Int))) = _
      rw [show (65535 - (regL 65535 l : Int)) = (crcN l : Int) from by unfold crcN; omega]

theorem psize_any (k : Int) (w : World) : Calls Tryd.prog 70 #[.int .i64 k] w fun e w' => e = .returned (.int .i64 (sizeK k : Int)) ∧ w = w' := by
  by_cases h0 : k = 0
  · subst h0
    go_enter Tryd.func70, Tryd.ntmps70
    go_wp2
    go_ret
    exact ⟨rfl, rfl⟩
  · by_cases h1 : k = 1
    · subst h1
      go_enter Tryd.func70, Tryd.ntmps70
      go_wp2
      go_ret
      exact ⟨rfl, rfl⟩
    · have b0 : (k == 0) = false := beq_eq_false_iff_ne.2 h0
      have b1 : (k == 1) = false := beq_eq_false_iff_ne.2 h1
      have HS : Hid (sizeK k = 0) := by show _ = _; rw [sizeK, if_neg h0, if_neg h1]
      clear h0 h1
      go_enter Tryd.func70, Tryd.ntmps70
      go_wp2
      go_ret
      exact ⟨by rw [HS.out]; rfl, rfl⟩
theorem rsize_any (k : Int) (w : World) : Calls Tryd.prog 71 #[.int .i64 k] w fun e w' => e = .returned (.int .i64 (sizeK k : Int)) ∧ w = w' := by
  by_cases h0 : k = 0
  · subst h0
    go_enter Tryd.func71, Tryd.ntmps71
    go_wp2
    go_ret
    exact ⟨rfl, rfl⟩
  · by_cases h1 : k = 1
    · subst h1
      go_enter Tryd.func71, Tryd.ntmps71
      go_wp2
      go_ret
      exact ⟨rfl, rfl⟩
    · have b0 : (k == 0) = false := beq_eq_false_iff_ne.2 h0
      have b1 : (k == 1) = false := beq_eq_false_iff_ne.2 h1
      have HS : Hid (sizeK k = 0) := by show _ = _; rw [sizeK, if_neg h0, if_neg h1]
      clear h0 h1
      go_enter Tryd.func71, Tryd.ntmps71
      go_wp2
      go_ret
      exact ⟨by rw [HS.out]; rfl, rfl⟩

/-- A literal of bytes in a new block. -/
theorem SL.lit (w : World) (l : List UInt8) (h : l.length ≤ 1000) : SL (w.alloc (.cells (l.map bv).toArray 5)) (w.heap.size + 1) (.slice (some ⟨w.heap.size, 0, none⟩) l.length l.length) l :=
  ⟨_, _, rfl, Nat.le_refl _, by simp only [maxLen]; omega, fun _ => ⟨w.heap.size, 0, rfl, Nat.lt_succ_self _, fun k hk => by
    rw [cell_of_row _ w.heap.size _ _ 5 (0, 0) (heap_alloc_new w _), Nat.zero_add, List.getElem?_toArray, map_bv_get l k hk]⟩⟩
theorem alloc_below (w : World) (o : Obj) : Below w.heap.size w (w.alloc o) := (Below.refl _ w).alloc (Nat.le_refl _) o
theorem alloc_size (w : World) (o : Obj) : (w.alloc o).heap.size = w.heap.size + 1 := by simp
theorem SL.lit' (w : World) (l : List UInt8) (h : l.length ≤ 1000) : SL (w.alloc (.cells (l.map bv).toArray 5)) (w.alloc (.cells (l.map bv).toArray 5)).heap.size (.slice (some ⟨w.heap.size, 0, none⟩) l.length l.length) l := by
  rw [alloc_size]; exact SL.lit w l h

theorem crc_lit (w : World) (l : List UInt8) (h : crcN l < 65536) : SL (w.alloc (.cells #[.int .u8 ((crcN l : Int) % 256), .int .u8 ((crcN l : Int) / 256)] 5)) (w.alloc (.cells #[.int .u8 ((crcN l : Int) % 256), .int .u8 ((crcN l : Int) / 256)] 5)).heap.size (.slice (some ⟨w.heap.size, 0, none⟩) 2 2) (crcB l) := by
  have := SL.lit' w (crcB l) (by simp [crcB])
  have e : ((crcB l).map bv).toArray = #[.int .u8 ((crcN l : Int) % 256), .int .u8 ((crcN l : Int) / 256)] := by
    have e1 : (((UInt8.ofNat (crcN l % 256)).toNat : Nat) : Int) = (crcN l : Int) % 256 := by simp
    have e2 : (((UInt8.ofNat (crcN l / 256)).toNat : Nat) : Int) = (crcN l : Int) / 256 := by simp; omega
    show #[Value.int .u8 (((UInt8.ofNat (crcN l % 256)).toNat : Nat) : Int), .int .u8 (((UInt8.ofNat (crcN l / 256)).toNat : Nat) : Int)] = _
    rw [e1, e2]
  rw [e] at this
  exact this

/-- The error of Sum. -/
def sumE (k : Int) : Int := if k = 0 then 0 else if k = 1 then 0 else 1

/-- What Sum returns, of the program and of the reference. -/
def SumR (k : Int) (l : List UInt8) (w : World) (e : Ending) (w' : World) : Prop :=
  ∃ v', e = .returned (.tuple #[v', .int .i64 (sumE k)]) ∧ SL w' w'.heap.size v' (sumL k l) ∧ Below w.heap.size w w'

theorem psum_any (k : Int) (l : List UInt8) (v : Value) (w : World) (h : SL w w.heap.size v l) (hT : Tb w) :
    Calls Tryd.prog 104 #[.int .i64 k, v] w (SumR k l w) := by
  by_cases h0 : k = 0
  · subst h0
    have HC := Lib.hid (plrc_any l v w _ h)
    clear h hT
    go_enter Tryd.func104, Tryd.ntmps104
    go_wp2_with (go_at_call 113; refine HC.out.mono ?_; rintro e w' ⟨rfl, rfl⟩)
    go_ret2
    exact ⟨_, rfl, SL.lit' w [lrcL l] (by simp), alloc_below _ _⟩
  · by_cases h1 : k = 1
    · subst h1
      have HC := Lib.hid (pcrc_any l v w _ h hT)
      clear h hT
      have hlt := regL_lt l 65535 (by omega)
      have hlc : crcN l < 65536 := by unfold crcN; omega
      go_enter Tryd.func104, Tryd.ntmps104
      go_wp2_with (go_at_call 114; refine HC.out.mono ?_; rintro e w' ⟨rfl, rfl⟩)
      go_ret2
      exact ⟨_, rfl, crc_lit w l hlc, alloc_below _ _⟩
    · have b0 : (k == 0) = false := beq_eq_false_iff_ne.2 h0
      have b1 : (k == 1) = false := beq_eq_false_iff_ne.2 h1
      have HS : Hid (sumL k l = [] ∧ sumE k = 1) := ⟨by rw [sumL, if_neg h0, if_neg h1], by rw [sumE, if_neg h0, if_neg h1]⟩
      clear h0 h1 h hT
      go_enter Tryd.func104, Tryd.ntmps104
      go_wp2
      go_ret2
      exact ⟨_, by rw [HS.out.2]; rfl, by rw [HS.out.1]; exact SL.nil _ _ _ _ (Nat.zero_le _), Below.refl _ _⟩

theorem rsum_any (k : Int) (l : List UInt8) (v : Value) (w : World) (h : SL w w.heap.size v l) :
    Calls Tryd.prog 107 #[.int .i64 k, v] w (SumR k l w) := by
  by_cases h0 : k = 0
  · subst h0
    have HC := Lib.hid (rlrc_any l v w _ h)
    have HS := Lib.hid (rsize_any 0 w)
    clear h
    go_enter Tryd.func107, Tryd.ntmps107
    go_wp2_with (first
      | (go_at_call 71; refine HS.out.mono ?_; rintro e w' ⟨rfl, rfl⟩)
      | (go_at_call 115; refine HC.out.mono ?_; rintro e w' ⟨rfl, rfl⟩))
    go_ret2
    exact ⟨_, rfl, SL.lit' w [lrcL l] (by simp), alloc_below _ _⟩
  · by_cases h1 : k = 1
    · subst h1
      have HC := Lib.hid (rcrc_any l v w _ h)
      have HS := Lib.hid (rsize_any 1 w)
      clear h
      have hlt := regL_lt l 65535 (by omega)
      have hlc : crcN l < 65536 := by unfold crcN; omega
      go_enter Tryd.func107, Tryd.ntmps107
      go_wp2_with (first
        | (go_at_call 71; refine HS.out.mono ?_; rintro e w' ⟨rfl, rfl⟩)
        | (go_at_call 116; refine HC.out.mono ?_; rintro e w' ⟨rfl, rfl⟩))
      go_ret2
      exact ⟨_, rfl, crc_lit w l hlc, alloc_below _ _⟩
    · have b0 : (k == 0) = false := beq_eq_false_iff_ne.2 h0
      have HS := rsize_any k w
      have hz : sizeK k = 0 := by rw [sizeK, if_neg h0, if_neg h1]
      rw [hz] at HS
      have HS := Lib.hid HS
      have HE : Hid (sumL k l = [] ∧ sumE k = 1) := ⟨by rw [sumL, if_neg h0, if_neg h1], by rw [sumE, if_neg h0, if_neg h1]⟩
      clear h0 h1 h hz
      go_enter Tryd.func107, Tryd.ntmps107
      go_wp2_with (go_at_call 71; refine HS.out.mono ?_; rintro e w' ⟨rfl, rfl⟩)
      go_ret2
      exact ⟨_, by rw [HE.out.2]; rfl, by rw [HE.out.1]; exact SL.nil _ _ _ _ (Nat.zero_le _), Below.refl _ _⟩
end Go.Proofs.YtnbggokmiokhlaaDoor
