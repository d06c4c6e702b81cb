/-
  The walk of the law CheckDetects.
-/
import Derived.Test.YtjoibonbmalbdaaDoorLaw
import Derived.RegionTactic
import Derived.ChangeAlike
namespace Go.Proofs.YtjoibonbmalbdaaDoor
open Go.RowKit

theorem lrc_zero (l : List UInt8) : lrcL (l ++ sumL 0 l) = 0 := by
  rw [lrcL_append]
  show lrcL l ^^^ lrcL [lrcL l] = 0
  have e : lrcL [lrcL l] = lrcL l := by simp [lrcL]
  rw [e, UInt8.xor_self]
theorem lrcL_set (l : List UInt8) (i : Nat) (m : UInt8) (h : i < l.length) : lrcL (l.set i (l.getD i 0 ^^^ m)) = lrcL l ^^^ m := by
  have e1 : l.set i (l.getD i 0 ^^^ m) = l.take i ++ ([l.getD i 0 ^^^ m] ++ l.drop (i + 1)) := by
    rw [List.set_eq_take_append_cons_drop, if_pos h]
    rfl
  have e2 : l = l.take i ++ ([l.getD i 0] ++ l.drop (i + 1)) := by
    conv => lhs; rw [← List.take_append_drop i l, drop_getD l i h]
    rfl
  rw [e1]
  conv => rhs; rw [e2]
  rw [lrcL_append, lrcL_append, lrcL_append, lrcL_append]
  have e3 : ∀ x : UInt8, lrcL [x] = x := fun x => by simp [lrcL]
  rw [e3, e3]
  apply UInt8.toNat_inj.1
  simp only [UInt8.toNat_xor]
  generalize (lrcL (l.take i)).toNat = a
  generalize (l.getD i 0).toNat = b
  generalize (lrcL (l.drop (i + 1))).toNat = c
  generalize m.toNat = d
  rw [Nat.xor_assoc b, Nat.xor_comm d c, ← Nat.xor_assoc b, ← Nat.xor_assoc a]

/-- One bit of a byte. -/
def bitB (j : Nat) : UInt8 := UInt8.ofNat (2 ^ j)
theorem bitB_bit (j i : Nat) (hj : j < 8) (hi : i < 8) : (bitB j).toNat.testBit i = decide (i = j) := by
  match j, hj, i, hi with
  | 0, _, i, hi | 1, _, i, hi | 2, _, i, hi | 3, _, i, hi | 4, _, i, hi | 5, _, i, hi | 6, _, i, hi | 7, _, i, hi =>
    match i, hi with
    | 0, _ | 1, _ | 2, _ | 3, _ | 4, _ | 5, _ | 6, _ | 7, _ => decide
    | n + 8, h => exact absurd h (by omega)
  | n + 8, h, _, _ => exact absurd h (by omega)
theorem bitAt_flip (l : List UInt8) (a n : Nat) (ha : a < 8 * l.length) : bitAt (l.set (a / 8) (l.getD (a / 8) 0 ^^^ bitB (a % 8))) n = (bitAt l n ^^ decide (n = a)) := by
  unfold bitAt
  by_cases hq : n / 8 = a / 8
  · have e : (l.set (a / 8) (l.getD (a / 8) 0 ^^^ bitB (a % 8))).getD (n / 8) 0 = l.getD (a / 8) 0 ^^^ bitB (a % 8) := by
      rw [hq]
      simp [List.getD, List.getElem?_set, show a / 8 < l.length by omega]
    rw [e, UInt8.toNat_xor, Nat.testBit_xor, bitB_bit _ _ (Nat.mod_lt _ (by omega)) (Nat.mod_lt _ (by omega)), hq]
    congr 1
    have : (n % 8 = a % 8) ↔ n = a := by omega
    simp [this]
  · have e : (l.set (a / 8) (l.getD (a / 8) 0 ^^^ bitB (a % 8))).getD (n / 8) 0 = l.getD (n / 8) 0 := by
      simp [List.getD, List.getElem?_set, show ¬ a / 8 = n / 8 by omega]
    rw [e]
    have : ¬ n = a := by intro h; exact hq (by rw [h])
    simp [this]
theorem bitB_ne (j : Nat) (hj : j < 8) : bitB j ≠ 0 := by
  intro h
  have := bitB_bit j j hj hj
  rw [h] at this
  simp at this

/-- A wrong bit is detected. -/
theorem det_flip (k : Int) (l : List UInt8) (hk : k = 0 ∨ k = 1) (a : Nat) (ha : a < 8 * (appL k l).length) :
    remE k ((appL k l).set (a / 8) ((appL k l).getD (a / 8) 0 ^^^ bitB (a % 8))) = 6 ∧ remV k ((appL k l).set (a / 8) ((appL k l).getD (a / 8) 0 ^^^ bitB (a % 8))) = [] := by
  obtain ⟨a1, a2, a3, a4, a5⟩ := app_rem k l hk
  have hz : sizeK k ≠ 0 := by rcases hk with rfl | rfl <;> decide
  generalize hy : (appL k l).set (a / 8) ((appL k l).getD (a / 8) 0 ^^^ bitB (a % 8)) = y
  have hyl : y.length = (appL k l).length := by rw [← hy, List.length_set]
  have hno : remOk k y = false := by
    rw [Bool.eq_false_iff]
    intro hok
    unfold remOk at hok
    rw [beq_iff_eq] at hok
    have hsplit : y = y.take (y.length - sizeK k) ++ sumL k (y.take (y.length - sizeK k)) := by
      rw [hok, List.take_append_drop]
    rcases hk with rfl | rfl
    · have h1 := lrc_zero (y.take (y.length - sizeK 0))
      rw [← hsplit, ← hy, lrcL_set _ _ _ (by omega), a1, lrc_zero] at h1
      exact bitB_ne _ (Nat.mod_lt _ (by omega)) (by simpa using h1)
    · have h1 := crc_detects (appL 1 l) y l (y.take (y.length - sizeK 1)) (fun n => decide (n = a)) a1 hsplit hyl.symm (fun n _ => by rw [← hy]; exact bitAt_flip _ _ _ ha)
      have h2 := burst_ne a 1 1 (8 * (appL 1 l).length) (by omega) (by omega) (by omega) (by omega)
      apply h2
      refine Eq.trans ?_ h1
      apply fb_congr
      intro i _
      unfold burst
      by_cases e : i = a
      · subst e; simp
      · simp [e]
        omega
  refine ⟨?_, ?_⟩
  · rw [remE, if_neg hz, if_neg (by omega), if_neg (by simp [hno])]
  · rw [remV, if_neg hz, if_neg (by omega), if_neg (by simp [hno])]

theorem shl_bit (j : Nat) (hj : j < 8) : (2 : Int) ^ j % 256 = ((bitB j).toNat : Int) := by
  match j, hj with
  | 0, _ | 1, _ | 2, _ | 3, _ | 4, _ | 5, _ | 6, _ | 7, _ => decide
  | n + 8, h => exact absurd h (by omega)

set_option maxRecDepth 100000 in
set_option maxHeartbeats 800000 in
theorem law_det (crc : Bool) (l : List UInt8) (v : Value) (n : Int) (w : World) (hl : SL w w.heap.size v l) (hT : Tb w) (hn : n ≤ 9223372036854775807) :
    Calls Tryd.prog 7 #[.bool crc, v, .int .i64 n] w fun e w' => e = .returned (.bool true) ∧ Below w.heap.size w w' := by
  by_cases h4 : 400 < l.length
  · obtain ⟨A, c, rfl, _, _, _⟩ := hl
    go_enter Tryd.func7, Tryd.ntmps7
    go_wp2_with fail
    go_ret
    exact ⟨rfl, Below.refl _ _⟩
  · by_cases hneg : n < 0
    · obtain ⟨A, c, rfl, _, _, _⟩ := hl
      go_enter Tryd.func7, Tryd.ntmps7
      go_wp2_with fail
      go_ret
      exact ⟨rfl, Below.refl _ _⟩
    · obtain ⟨m, rfl⟩ := Int.eq_ofNat_of_zero_le (show 0 ≤ n by omega)
      have HL := Lib.hid hl
      have HT := Lib.hid hT
      obtain ⟨A, c, rfl, _, _, _⟩ := hl
      obtain ⟨k, hk, hkc⟩ : ∃ k : Int, (k = 0 ∨ k = 1) ∧ k = if crc then 1 else 0 := by cases crc <;> simp
      obtain ⟨a1, a2, a3, a4, a5⟩ := app_rem k l hk
      have H1 := papp_any k l _ w HL.out hT (by omega)
      unfold AppR at H1
      rw [a4] at H1
      have hz := sizeK_le k
      have hz1 : 1 ≤ sizeK k := by rcases hk with rfl | rfl <;> decide
      generalize hx : appL k l = x at *
      have hx1 : 1 ≤ x.length := by omega
      have hx2 : x.length ≤ 500 := by omega
      obtain ⟨a, ha⟩ : ∃ a, a = m % (8 * x.length) := ⟨_, rfl⟩
      have hal : a < 8 * x.length := by rw [ha]; exact Nat.mod_lt _ (by omega)
      have hdet := det_flip k l hk a (by rw [hx]; exact hal)
      rw [hx] at hdet
      have HM : Hid ((m : Int) % (8 * (x.length : Int)) = (a : Int)) := by show _ = _; rw [ha, Int.natCast_emod]; rfl
      have HP : Hid (∀ (v : Value) (W : World), SL W W.heap.size v (x.set (a / 8) (x.getD (a / 8) 0 ^^^ bitB (a % 8))) → Tb W → Calls Tryd.prog 18 #[.int .i64 k, v] W fun e w' => ∃ v', e = .returned (.tuple #[v', .int .i64 6]) ∧ SL w' w'.heap.size v' [] ∧ Below W.heap.size W w') := by
        intro v W h1 h2
        have := prem_any k _ v W h1 h2 (by rw [List.length_set]; omega)
        unfold RemR at this
        rw [hdet.1, hdet.2] at this
        exact this
      have H1 := Lib.hid H1
      have HX := Lib.hid hx
      clear hT hk a1 a2 a3 a4 a5 hz hz1 ha hdet hx
      cases crc
      all_goals
        simp only [Bool.false_eq_true, if_false, if_true] at hkc
        subst hkc
        go_enter Tryd.func7, Tryd.ntmps7
        go_wp2_with fail
        refine H1.out.mono ?_
        rintro e w1 ⟨v1, rfl, hv1, hb1⟩
        obtain ⟨A1, c1, rfl, _, _, r1⟩ := hv1
        have R1 := Lib.hid r1
        clear r1
        go_wp2_with (at_builtin; refine wpList_appS rfl (.tmp 39) (.tmp 40) rfl (w1.alloc (.cells #[] 5)) w1.heap.size _ [] x A1 c1 rfl rfl (Below.refl _ _) (OB.made _) (fun hp => by obtain ⟨b, o, hA, hb, hc⟩ := R1.out hp; exact ⟨b, o, hA, fun k' hk' => ((alloc_below w1 (.cells #[] 5)).cell (p := ⟨b, o + k', none⟩) hb).trans (hc k' hk')⟩) (by simp only [List.length_nil]; omega) (by rw [alloc_size]; omega) ?_; intro v2 w2 hv2 hb2)
        rw [HM.out]
        have hv2' : OB w2 w1.heap.size v2 x := hv2
        clear hv2
        obtain ⟨g, cap, rfl, _, _⟩ := World.ownsRow.form hv2' (by omega)
        have g3 := hv2'.cellAt (a / 8) (by omega)
        have g4 := hv2'.frozenAt (a / 8)
        have i0 : (0 : Int) ≤ (a : Int) / 8 := by omega
        have i1 : (a : Int) / 8 < (x.length : Int) := by omega
        have i2 : (0 : Int) ≤ (a : Int) % 8 := by omega
        have i3 : (a : Int) % 8 < 8 := by omega
        go_region
        have hval : bits .xor .u8 (((x[a / 8]?.getD 0).toNat : Nat) : Int) (2 ^ (a % 8) % 256) = ((x.getD (a / 8) 0 ^^^ bitB (a % 8)).toNat : Int) := by
          rw [shl_bit _ (Nat.mod_lt _ (by omega)), bits_xor]
          rfl
        rw [hval]
        have hwb : Below w1.heap.size w1 w2 := (alloc_below _ _).trans (hb2)
        have hst := ((hv2'.stored (a / 8) (x.getD (a / 8) 0 ^^^ bitB (a % 8)) _ rfl).sl).on ((Below.refl _ _).drew)
        have hgb := hv2'.base_le
        have hw2 : Below w.heap.size w (w2.setCell ⟨g, a / 8, none⟩ (.int .u8 ((x.getD (a / 8) 0 ^^^ bitB (a % 8)).toNat : Int))).drew := ((hb1.trans (hwb.mono hb1.size)).setCell (p := ⟨g, a / 8, none⟩) (Nat.le_trans hb1.size hgb) _).drew
        have H3 := HP.out _ _ hst (HT.out.on hw2)
        clear hval hst hwb g3 g4 hv2'
        generalize (w2.setCell ⟨g, a / 8, none⟩ (.int .u8 ((x.getD (a / 8) 0 ^^^ bitB (a % 8)).toNat : Int))).drew = w3 at hw2 H3 ⊢
        have H3 := Lib.hid H3
        go_wp2_with fail
        refine H3.out.mono ?_
        rintro e w4 ⟨v4, rfl, hv4, hb4⟩
        obtain ⟨A4, c4, rfl, _, _, _⟩ := hv4
        have hw4 : Below w.heap.size w w4 := hw2.trans (hb4.mono hw2.size)
        go_wp2_with fail
        refine (awake_any _ (HT.out.on hw4)).mono ?_
        rintro e w5 ⟨rfl, hb5⟩
        go_wp2_with fail
        go_ret
        exact ⟨rfl, hw4.trans (hb5.mono hw4.size)⟩
end Go.Proofs.YtjoibonbmalbdaaDoor
