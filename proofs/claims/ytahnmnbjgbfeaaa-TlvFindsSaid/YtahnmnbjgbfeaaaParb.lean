/-
  The walk of the reference's Parse.
-/
import Derived.Test.YtahnmnbjgbfeaaaPar
import Derived.Deep.RegionHeld3
namespace Go.Proofs.Ytahnmnbjgbfeaaa
set_option linter.unusedVariables false
set_option linter.unusedSimpArgs false
open Go.RowKit

theorem idx_any (s : ByteArray) (k : Nat) (h : k < s.size) (C : Nat) (hC : C = (s.data.toList.getD k 0).toNat) (z : Int) (hz : z = (k : Int)) (W : World) :
    Sem.run Try.prog (Instr.index 9 (Value.string s) (Value.int IntKind.i64 z)) W = Result.ok (Value.int IntKind.u8 (C : Int)) W := by
  subst hz
  rw [run_index_string W 9 s .i64 _ Try.underlying9, dif_pos ⟨by omega, by omega⟩]
  congr 3
  rw [hC, ← sgd s k h]
  simp

theorem conv_nib (V1 V2 : Nat) : IntKind.u8.wrap (16 * (V1 : Int) + (V2 : Int)) = ((UInt8.ofNat (16 * V1 + V2)).toNat : Int) := by
  rw [IntKind.wrap_u8']
  simp

set_option maxRecDepth 100000 in
set_option maxHeartbeats 3200000 in
theorem rparse_any (s : ByteArray) (w : World) (hs : s.size ≤ 400000) (P : Ending → World → Prop)
    (hok : ∀ m, parseL s.data.toList = some m → ∀ v' w', SL w' w'.heap.size v' m → Below w.heap.size w w' → P (.returned (.tuple #[v', .int .i64 0])) w')
    (hno : parseL s.data.toList = none → P (.returned (.tuple #[.slice none 0 0, .int .i64 4])) w) :
    Calls Try.prog 21 #[.string s] w P := by
  have HOK := Lib.hid hok
  have HNO := Lib.hid hno
  clear hok hno
  go_enter Try.func21, Try.ntmps21
  go_wp2_with fail
  go_loop [5] (fun i => ∃ k : Nat, k ≤ s.size ∧ i = .int .i64 k ∧ Hid (∀ j, j < k → dv (s.data.toList.getD j 0).toNat < 16)) (fun i => s.size - (intOf i).toNat)
  case atStart => exact ⟨0, Nat.zero_le _, rfl, fun j hj => absurd hj (by omega)⟩
  case round =>
    obtain ⟨k, hk, rfl, hall⟩ := hrel
    by_cases h1 : k < s.size
    · obtain ⟨C, hC⟩ : ∃ C, C = (s.data.toList.getD k 0).toNat := ⟨_, rfl⟩
      have hix := fun W => idx_any s k h1 C hC k rfl W
      have HC := Lib.hid hC
      by_cases hd : dv C < 16
      · have HD := Lib.hid (rdig_ok C w hd)
        obtain ⟨V, hV⟩ : ∃ V, V = dv C := ⟨_, rfl⟩
        have hc := HD.out
        rw [← hV] at hc
        have HD' := Lib.hid hc
        have HV := Lib.hid hV
        clear hC hV hc HD
        go_wp2_with (go_at_call 63; refine HD'.out.mono ?_; rintro e w' ⟨rfl, rfl⟩)
        go_round
        case rel =>
          refine ⟨k + 1, by omega, by go_num, ?_⟩
          intro j hj
          by_cases e : j = k
          · rw [e, ← HC.out]; exact hd
          · exact hall.out j (by omega)
        case measure => simp [intOf]; omega
      · have hcl : C < 256 := by rw [hC]; exact UInt8.toNat_lt _
        have HD := Lib.hid (rdig_no C w hd hcl)
        have hpn := parse_none s.data.toList k (by rw [ssz]; exact h1) (by rw [← hC]; exact hd)
        have HPN := Lib.hid hpn
        clear hC hpn
        go_wp2_with (go_at_call 63; refine HD.out.mono ?_; rintro e w' ⟨rfl, rfl⟩)
        exact HNO.out HPN.out
    · have hkn : k = s.size := by omega
      subst hkn
      rcases Nat.mod_two_eq_zero_or_one s.size with e | e
      · obtain ⟨n, hn⟩ : ∃ n, s.size = 2 * n := ⟨s.size / 2, by omega⟩
        have ht : ((s.size : Int) % 2 != 0) = false := by rw [bne_eq_false_iff_eq]; omega
        have hl : s.data.toList.length = 2 * n := by rw [ssz, hn]
        have HN := Lib.hid hn
        have HL := Lib.hid hl
        have hnn : n ≤ 200000 := by omega
        have hsn : 2 * n ≤ s.size := by omega
        have hsn2 : s.size ≤ 2 * n := by omega
        clear e hn hl
        go_wp2_with fail
        go_loopw [4, 6] (fun o i wr => ∃ t m : Nat, Hid (t = 2 * m) ∧ m ≤ n ∧ t ≤ 2 * n ∧ i = .int .i64 t ∧ OB wr w.heap.size o (pairs (s.data.toList.take t)) ∧ Below w.heap.size w wr) (fun _ i _ => s.size - (intOf i).toNat)
        case atStart => exact ⟨0, 0, rfl, Nat.zero_le _, Nat.zero_le _, rfl, by simpa [pairs] using OB.nil _ _, Below.refl _ _⟩
        case round =>
          obtain ⟨t, m, htm, hm, htn, rfl, hown, hbel⟩ := hrel
          by_cases h2 : t + 1 < s.size
          · obtain ⟨C1, hC1⟩ : ∃ C, C = (s.data.toList.getD t 0).toNat := ⟨_, rfl⟩
            obtain ⟨C2, hC2⟩ : ∃ C, C = (s.data.toList.getD (t + 1) 0).toNat := ⟨_, rfl⟩
            have hix1 := fun W => idx_any s t (by omega) C1 hC1 t rfl W
            have hix2 := fun W => idx_any s (t + 1) h2 C2 hC2 ((t : Int) + 1) (by omega) W
            have hd1 := hall.out t (by omega)
            have hd2 := hall.out (t + 1) h2
            rw [← hC1] at hd1
            rw [← hC2] at hd2
            obtain ⟨V1, hV1⟩ : ∃ V, V = dv C1 := ⟨_, rfl⟩
            obtain ⟨V2, hV2⟩ : ∃ V, V = dv C2 := ⟨_, rfl⟩
            have hc1 := fun W => rdig_ok C1 W hd1
            have hc2 := fun W => rdig_ok C2 W hd2
            simp only [← hV1] at hc1
            simp only [← hV2] at hc2
            have K1 := Lib.hid hc1
            have K2 := Lib.hid hc2
            have hb1 : V1 < 16 := by rw [hV1]; exact hd1
            have hb2 : V2 < 16 := by rw [hV2]; exact hd2
            have hw1 : IntKind.i64.wrap ((t : Int) + 1) = (t : Int) + 1 := IntWalk.i64_in _ (by omega)
            have hw2 : IntKind.i64.wrap (16 * (V1 : Int)) = 16 * (V1 : Int) := IntWalk.i64_in _ (by omega)
            have hw3 : IntKind.i64.wrap (16 * (V1 : Int) + (V2 : Int)) = 16 * (V1 : Int) + (V2 : Int) := IntWalk.i64_in _ (by omega)
            have hpl : (pairs (s.data.toList.take t)).length ≤ 400000 := by rw [pairs_length, List.length_take]; omega
            have hsz := hbel.size
            have HW : Hid (UInt8.ofNat (16 * V1 + V2) = UInt8.ofNat (16 * dv (s.data.toList.getD t 0).toNat + dv (s.data.toList.getD (t + 1) 0).toNat)) := by
              show _ = _
              rw [hV1, hV2, hC1, hC2]
            clear hC1 hC2 hc1 hc2 hV1 hV2 hd1 hd2
            go_wp2_with fail
            go_region_held3 (fun _ => True) (exact True.intro)
              (first
                | (go_at_call 63; (with_reducible refine (K1.out _).mono ?_); rintro e w' ⟨rfl, rfl⟩)
                | (go_at_call 63; (with_reducible refine (K2.out _).mono ?_); rintro e w' ⟨rfl, rfl⟩)
                | (refine step_app1 (by rfl) _ _ (by rfl) wr w.heap.size _ _ (UInt8.ofNat (16 * V1 + V2)) _ wr.heap.size (by rfl) (by rfl) (((Below.refl _ _).alloc (Nat.le_refl _) _).drew) hown (heap_alloc_new wr _)
                    (conv_nib V1 V2) (by omega) (by omega) ?_; intro gg cap w1 hown1 hb1'))
            all_goals
              clear hw1 hw2 hw3
              go_wp2_with fail
              go_roundw
              case rel =>
                refine ⟨t + 2, m + 1, by show _ = _; rw [htm.out, Nat.mul_add], by have := htm.out; omega, by have := htm.out; omega, by go_num, ?_, hbel.trans hb1'⟩
                have e3 := pairs_take s.data.toList m (by rw [ssz, ← htm.out]; omega)
                rw [Nat.mul_add, ← htm.out] at e3
                rw [show t + 2 = t + 2 * 1 from rfl, e3, ← HW.out]
                have e4 : ((pairs (s.data.toList.take t)) ++ [UInt8.ofNat (16 * V1 + V2)]).length = (pairs (s.data.toList.take t)).length + 1 := by simp
                exact hown1
              case measure => simp [intOf]; omega
          · have htn2 : t = s.size := by have := htm.out; omega
            have HT := Lib.hid htn2
            clear htn2
            go_wp2_with fail
            exact HOK.out _ (parse_some _ n HL.out (by rw [ssz]; exact hall.out)) _ _ (by have := hown.sl; rw [HT.out, List.take_of_length_le (by rw [ssz]; exact Nat.le_refl _)] at this; exact this) hbel
      · have ht : ((s.size : Int) % 2 != 0) = true := by rw [bne_iff_ne]; omega
        have hl : parseL s.data.toList = none := parse_odd _ (by rw [ssz]; exact e)
        have HL := Lib.hid hl
        clear hl e
        go_wp2_with fail
        exact HNO.out HL.out
end Go.Proofs.Ytahnmnbjgbfeaaa
