/-
  The walks of Unpack of the program and of the reference.
-/
import Derived.Test.YtcojoohbhkhlnaaDoorEcn
namespace Go.Proofs.YtcojoohbhkhlnaaDoor
set_option linter.unusedVariables false
set_option linter.unusedSimpArgs false
open Go.RowKit

/-- The three bytes of a number. -/
def b3 (n : Nat) : List UInt8 := [UInt8.ofNat (n / 65536), UInt8.ofNat (n / 256), UInt8.ofNat n]
/-- The bytes of the first k words. -/
def unpK (w : List Nat) (k : Nat) : List UInt8 := (List.range k).flatMap fun i => b3 (decD (w.getD i 0))
/-- How many of the first k words are fixed. -/
def fixK (w : List Nat) : Nat → Nat
  | 0 => 0
  | k + 1 => fixK w k + if decH (w.getD k 0) = 1 then 1 else 0
/-- Whether one of the first k words is bad. -/
def badB (w : List Nat) : Nat → Bool
  | 0 => false
  | k + 1 => badB w k || decH (w.getD k 0) == 2
theorem badB_up (w : List Nat) : ∀ j k, badB w k = true → badB w (k + j) = true
  | 0, k, h => h
  | j + 1, k, h => by
    have := badB_up w j k h
    rw [← Nat.add_assoc]
    simp only [badB, this, Bool.true_or]
theorem badB_at (w : List Nat) (k n : Nat) (hk : k < n) (h : decH (w.getD k 0) = 2) : badB w n = true := by
  have h1 : badB w (k + 1) = true := by show (badB w k || decH (w.getD k 0) == 2) = true; rw [h]; simp
  have := badB_up w (n - (k + 1)) (k + 1) h1
  rwa [show k + 1 + (n - (k + 1)) = n by omega] at this
theorem unpK_succ (w : List Nat) (k : Nat) : unpK w (k + 1) = unpK w k ++ b3 (decD (w.getD k 0)) := by simp [unpK, List.range_succ]
theorem unpK_len (w : List Nat) : ∀ k, (unpK w k).length = 3 * k
  | 0 => rfl
  | k + 1 => by rw [unpK_succ, List.length_append, unpK_len w k]; simp [b3]; omega
theorem decH_cases (x : Nat) : decH x = 0 ∨ decH x = 1 ∨ decH x = 2 := by
  unfold decH
  cases decF x <;> simp
  cases isC x <;> simp
theorem decD_lt (x : Nat) : decD x < 16777216 := by
  unfold decD
  cases decF x
  · simp
  · exact datT_small _ 24 (by omega)
theorem fixK_le (w : List Nat) : ∀ k, fixK w k ≤ k
  | 0 => Nat.le_refl _
  | k + 1 => by have := fixK_le w k; simp only [fixK]; split <;> omega

/-- The error, the bytes, the number of fixed words that Unpack returns. -/
def unpE (w : List Nat) (n : Int) : Int := if n < 0 ∨ (w.length : Int) ≠ wrdN n then 1 else if badB w w.length = true then 9 else 0
def unpV (w : List Nat) (n : Int) : List UInt8 := if unpE w n = 0 then (unpK w w.length).take n.toNat else []
def unpF (w : List Nat) (n : Int) : Nat := if unpE w n = 0 then fixK w w.length else 0
def UnpR (w : List Nat) (n : Int) (W : World) (e : Ending) (W' : World) : Prop :=
  ∃ v', e = .returned (.tuple #[v', .int .i64 (unpF w n : Int), .int .i64 (unpE w n)]) ∧ SL W' W'.heap.size v' (unpV w n) ∧ Below W.heap.size W W'
theorem unpR_bad {w : List Nat} {n : Int} {W W' : World} {x : Int} (h : unpE w n = x) (hx : x ≠ 0) (hb : Below W.heap.size W W') : UnpR w n W (.returned (.tuple #[.slice none 0 0, .int .i64 0, .int .i64 x])) W' := by
  have hE : unpE w n ≠ 0 := by rw [h]; exact hx
  refine ⟨_, by rw [unpF, if_neg hE, h]; rfl, ?_, hb⟩
  rw [unpV, if_neg hE]
  exact SL.nil _ _ _ _ (Nat.zero_le _)
theorem unpR_good {w : List Nat} {n : Int} {W W' : World} {v : Value} (h : unpE w n = 0) (hb : Below W.heap.size W W') (hv : SL W' W'.heap.size v ((unpK w w.length).take n.toNat)) : UnpR w n W (.returned (.tuple #[v, .int .i64 (fixK w w.length : Int), .int .i64 0])) W' := by
  refine ⟨_, by rw [unpF, if_pos h, h], ?_, hb⟩
  rw [unpV, if_pos h]
  exact hv
theorem b3_cells (d : Nat) (hd : d < 16777216) : ((b3 d).map bv).toArray = #[.int .u8 ((d : Int) / 65536), .int .u8 ((d : Int) / 256 % 256), .int .u8 ((d : Int) % 256)] := by
  have e1 : (((UInt8.ofNat (d / 65536)).toNat : Nat) : Int) = (d : Int) / 65536 := by simp; omega
  have e2 : (((UInt8.ofNat (d / 256)).toNat : Nat) : Int) = (d : Int) / 256 % 256 := by simp
  have e3 : (((UInt8.ofNat d).toNat : Nat) : Int) = (d : Int) % 256 := by simp
  show #[Value.int .u8 (((UInt8.ofNat (d / 65536)).toNat : Nat) : Int), .int .u8 (((UInt8.ofNat (d / 256)).toNat : Nat) : Int), .int .u8 (((UInt8.ofNat d).toNat : Nat) : Int)] = _
  rw [e1, e2, e3]
theorem b3_at (d j : Nat) (hj : j < 3) : ((b3 d).map bv).toArray[j]? = some (.int .u8 (((b3 d).getD j 0).toNat : Int)) := by
  rw [List.getElem?_toArray]
  exact map_bv_get (b3 d) j hj

set_option maxRecDepth 100000 in
set_option maxHeartbeats 1600000 in
theorem runp_any (w : List Nat) (n : Int) (v : Value) (W : World) (hw : SW W W.heap.size v w) (hall : ∀ x ∈ w, x < 4294967296) (hl : w.length ≤ 1100) (hn : -9223372036854775808 ≤ n ∧ n ≤ 9223372036854775807) :
    Calls Tryd.prog 20 #[v, .int .i64 n] W (UnpR w n W) := by
  obtain ⟨A1, c1, rfl, h11, h12, h13⟩ := hw
  unfold maxLen at h12
  by_cases hneg : n < 0
  · have HE := Lib.hid (unpR_bad (w := w) (n := n) (W := W) (x := 1) (by rw [unpE, if_pos (.inl hneg)]) (by omega) (Below.refl _ _))
    clear hn
    go_enter Tryd.func20, Tryd.ntmps20
    go_wp2
    refine bodyPost_ret (results_tmp3 rfl _ _ _) rfl ?_
    exact HE.out
  · have HW := Lib.hid (rwords_any n W hn.2 hn.1)
    have hneg0 : 0 ≤ n := by omega
    by_cases hne : (w.length : Int) = wrdN n
    · have hnk : n ≤ 3 * (w.length : Int) := by rw [hne]; unfold wrdN; split <;> omega
      obtain ⟨m, rfl⟩ : ∃ m : Nat, n = m := ⟨n.toNat, by omega⟩
      rw [← hne] at HW
      have HE1 : Hid (unpE w m = if badB w w.length = true then 9 else 0) := by
        show _ = _
        rw [unpE, if_neg]
        intro h
        rcases h with h | h
        · omega
        · exact h hne
      have H13 := Lib.hid h13
      have HALL := Lib.hid hall
      clear h13 hall hn hneg hne
      generalize hK : w.length = K at *
      go_enter Tryd.func20, Tryd.ntmps20
      go_wp2_with (go_at_call 15; refine HW.out.mono ?_; rintro e w' ⟨rfl, rfl⟩)
      go_loopw [7, 8, 9] (fun out f i wr => ∃ k : Nat, k ≤ K ∧ i = .int .i64 k ∧ f = .int .i64 (fixK w k : Int) ∧ OB wr W.heap.size out (unpK w k) ∧ Below W.heap.size W wr ∧ badB w k = false) (fun _ _ i _ => K - (intOf i).toNat)
      case atStart => exact ⟨0, by omega, rfl, rfl, OB.nil _ _, Below.refl _ _, rfl⟩
      case round =>
        obtain ⟨k, hk, rfl, rfl, hown, hbel, hbad⟩ := hrel
        obtain ⟨A2, c2, rfl⟩ := hown.value
        have HBAD := Lib.hid hbad
        have hfl := fixK_le w k
        clear hbad
        by_cases h1 : k < K
        · obtain ⟨b1, o1, rfl, hb1, hc1⟩ := H13.out (by rw [hK]; omega)
          have g1 := (hbel.cell (p := ⟨b1, o1 + k, none⟩) hb1).trans (hc1 k (by rw [hK]; exact h1))
          have hx : w.getD k 0 < 4294967296 := by
            rw [List.getD_eq_getElem?_getD, List.getElem?_eq_getElem (by rw [hK]; exact h1)]
            exact HALL.out _ (List.getElem_mem _)
          have HD := rdec_any (w.getD k 0) wr hx
          unfold DecR at HD
          have HU := Lib.hid (unpK_succ w k)
          have HF : Hid (fixK w (k + 1) = fixK w k + if decH (w.getD k 0) = 1 then 1 else 0) := rfl
          have HB : Hid (badB w (k + 1) = (badB w k || decH (w.getD k 0) == 2)) := rfl
          have HBA := Lib.hid (fun h => badB_at w k K h1 h)
          have hc := decH_cases (w.getD k 0)
          have hd := decD_lt (w.getD k 0)
          have HC := Lib.hid hc1
          have HUL := Lib.hid (unpK_len w k)
          have HO := Lib.hid hown
          clear hc1 hown
          generalize decD (w.getD k 0) = d at *
          generalize decH (w.getD k 0) = hh at *
          generalize w.getD k 0 = x at *
          rcases hc with rfl | rfl | rfl
          · have HF : Hid (fixK w (k + 1) = fixK w k) := HF
            have HB : Hid (badB w (k + 1) = badB w k) := by show _ = _; rw [HB.out]; simp
            have HD := Lib.hid HD
            go_wp2_with (first
              | (go_at_call 13; refine HD.out.mono ?_; rintro e w' ⟨rfl, rfl⟩)
              | (at_builtin; refine wpList_appS rfl _ _ rfl wr W.heap.size _ (unpK w k) (b3 d) (some ⟨wr.heap.size, 0, none⟩) 3 rfl rfl (alloc_below wr _) HO.out (fun _ => ⟨wr.heap.size, 0, rfl, fun j hj => by rw [cell_of_row _ wr.heap.size _ _ 5 (0, 0) (heap_alloc_new wr _), Nat.zero_add, ← b3_cells d hd, b3_at d j hj]⟩) (by rw [HUL.out]; show 3 * k + 3 ≤ _; omega) hbel.size ?_; intro v2 w2 hown2 hb2))
            have hbel2 := hbel.trans hb2
            go_roundw
            case rel => exact ⟨k + 1, by omega, by go_num, by rw [HF.out], by rw [HU.out]; exact hown2, hbel2, by rw [HB.out]; exact HBAD.out⟩
            case measure => simp [intOf]; omega
          · have HF : Hid (fixK w (k + 1) = fixK w k + 1) := HF
            have HB : Hid (badB w (k + 1) = badB w k) := by show _ = _; rw [HB.out]; simp
            have HD := Lib.hid HD
            go_wp2_with (first
              | (go_at_call 13; refine HD.out.mono ?_; rintro e w' ⟨rfl, rfl⟩)
              | (at_builtin; refine wpList_appS rfl _ _ rfl wr W.heap.size _ (unpK w k) (b3 d) (some ⟨wr.heap.size, 0, none⟩) 3 rfl rfl (alloc_below wr _) HO.out (fun _ => ⟨wr.heap.size, 0, rfl, fun j hj => by rw [cell_of_row _ wr.heap.size _ _ 5 (0, 0) (heap_alloc_new wr _), Nat.zero_add, ← b3_cells d hd, b3_at d j hj]⟩) (by rw [HUL.out]; show 3 * k + 3 ≤ _; omega) hbel.size ?_; intro v2 w2 hown2 hb2))
            have hbel2 := hbel.trans hb2
            go_roundw
            case rel => exact ⟨k + 1, by omega, by go_num, by rw [HF.out]; go_num, by rw [HU.out]; exact hown2, hbel2, by rw [HB.out]; exact HBAD.out⟩
            case measure => simp [intOf]; omega
          · have HD := Lib.hid HD
            have HE2 := Lib.hid (unpR_bad (w := w) (n := m) (W := W) (W' := wr) (x := 9) (by rw [HE1.out, if_pos (HBA.out rfl)]) (by omega) hbel)
            go_wp2_with (go_at_call 13; refine HD.out.mono ?_; rintro e w' ⟨rfl, rfl⟩)
            refine bodyPost_ret (results_tmp3 rfl _ _ _) rfl ?_
            exact HE2.out
        · obtain rfl : k = K := by omega
          have hul := unpK_len w k
          have hsl := hown.sl
          obtain ⟨A3, c3, e3, h31, h32, h33⟩ := hsl
          simp only [Value.slice.injEq] at e3
          obtain ⟨rfl, e4, rfl⟩ := e3
          have hm2 : m ≤ (unpK w k).length := by omega
          have hst : SL wr wr.heap.size (.slice A2 m c2) ((unpK w k).take m) := SL.take ⟨A2, c2, rfl, h31, h32, h33⟩ hm2
          have hE0 : unpE w m = 0 := by rw [HE1.out, HBAD.out]; rfl
          have HGG : Hid (UnpR w m W (.returned (.tuple #[.slice A2 m c2, .int .i64 (fixK w k : Int), .int .i64 0])) wr) := by
            have := unpR_good (n := m) hE0 hbel (v := .slice A2 m c2) (by rw [hK, Int.toNat_natCast]; exact hst)
            rw [hK] at this
            exact this
          have hmc : m ≤ c2 := by omega
          have hmi : (m : Int) ≤ (c2 : Int) := by omega
          clear hown h31 h33 hst hE0 hm2 hul e4 HBAD
          generalize fixK w k = ff at *
          generalize (unpK w k).length = ul at *
          go_wp2
          refine bodyPost_ret (results_tmp3 rfl _ _ _) rfl ?_
          exact HGG.out
    · have HE := Lib.hid (unpR_bad (w := w) (n := n) (W := W) (x := 1) (by rw [unpE, if_pos (.inr hne)]) (by omega) (Below.refl _ _))
      have hne2 : ((w.length : Int) != wrdN n) = true := by rw [bne_iff_ne]; exact hne
      generalize wrdN n = y at *
      clear hn hne
      go_enter Tryd.func20, Tryd.ntmps20
      go_wp2_with (go_at_call 15; refine HW.out.mono ?_; rintro e w' ⟨rfl, rfl⟩)
      refine bodyPost_ret (results_tmp3 rfl _ _ _) rfl ?_
      exact HE.out
end Go.Proofs.YtcojoohbhkhlnaaDoor
