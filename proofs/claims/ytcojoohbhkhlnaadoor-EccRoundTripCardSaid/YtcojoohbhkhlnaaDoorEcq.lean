/-
  The walks of the laws EccUnpacks and EccRoundTrip.
-/
import Derived.Test.YtcojoohbhkhlnaaDoorEcp
import Derived.StillTailTactics
namespace Go.Proofs.YtcojoohbhkhlnaaDoor
set_option linter.unusedVariables false
set_option linter.unusedSimpArgs false
open Go.RowKit

set_option maxRecDepth 100000 in
set_option maxHeartbeats 800000 in
theorem law_unp (l : List Nat) (v : Value) (n : Int) (w : World) (hl : SW w w.heap.size v l) (hall : ∀ x ∈ l, x < 4294967296) (hn : -9223372036854775808 ≤ n ∧ n ≤ 9223372036854775807) (hT : Tb w) :
    Calls Tryd.prog 7 #[v, .int .i64 n] w fun e w' => e = .returned (.bool true) ∧ Below w.heap.size w w' := by
  by_cases h4 : 600 < l.length
  · have HE := Lib.hid (example_any w hT)
    obtain ⟨A, c, rfl, _, _, _⟩ := hl
    clear hT
    go_enter Tryd.func7, Tryd.ntmps7
    go_wp2_with fail
    refine HE.out.mono ?_
    rintro e w3 ⟨rfl, hb⟩
    go_wp2_with fail
    go_ret
    exact ⟨rfl, hb⟩
  · have HL := Lib.hid hl
    have HT := Lib.hid hT
    have H1 := Lib.hid (punp_any l n v w hl hall (by omega) hn hT)
    have H2 := Lib.hid (fun W h => runp_any l n v W h hall (by omega) hn)
    obtain ⟨A, c, rfl, _, _, _⟩ := hl
    clear hT hn hall
    go_enter Tryd.func7, Tryd.ntmps7
    go_wp2_with fail
    refine H1.out.mono ?_
    rintro e w1 ⟨v1, rfl, hv1, hb1⟩
    go_wp2_with fail
    refine (H2.out w1 (HL.out.on hb1)).mono ?_
    rintro e w2 ⟨v2, rfl, hv2, hb2⟩
    have hs1 := hv1.on hb2
    have hw2 : Below w.heap.size w w2 := hb1.trans (hb2.mono hb1.size)
    generalize unpF l n = x
    generalize unpE l n = y
    go_wp2_with fail
    refine (same_yes (unpV l n) _ _ w2 _ hs1 hv2).mono ?_
    rintro e w3 ⟨rfl, m, rfl⟩
    have hw3 := below_drewN hw2 m
    go_wp2_with fail
    refine (example_any _ (HT.out.on hw3)).mono ?_
    rintro e w4 ⟨rfl, hb4⟩
    go_wp2_with fail
    go_ret
    exact ⟨rfl, hw3.trans (hb4.mono hw3.size)⟩

/-- A slice of integers that came in. -/
def SI (w : World) (B : Nat) (v : Value) (l : List Int) : Prop :=
  ∃ (A : Option Addr) (c : Nat), v = .slice A l.length c ∧ l.length ≤ c ∧ c ≤ maxLen ∧ (0 < l.length → ∃ b o, A = some ⟨b, o, none⟩ ∧ b < B ∧ ∀ k, k < l.length → w.cell? ⟨b, o + k, none⟩ = some (.int .i64 (l.getD k 0)))

/-- Whether flip i is one, below k. -/
def isFl (z : List Int) (i : Nat) : Bool := decide (0 ≤ z.getD i 0 ∧ z.getD i 0 < 32) && decide (i < z.length)
def flW (l : List UInt8) (z : List Int) (k i : Nat) : Nat := if i < k ∧ isFl z i = true then encW (numJ l (3 * i) 3) ^^^ 2 ^ (z.getD i 0).toNat else encW (numJ l (3 * i) 3)
def flL (l : List UInt8) (z : List Int) (K k : Nat) : List Nat := (List.range K).map (flW l z k)
def flN (z : List Int) : Nat → Nat
  | 0 => 0
  | k + 1 => flN z k + if isFl z k then 1 else 0
theorem flL_len (l : List UInt8) (z : List Int) (K k : Nat) : (flL l z K k).length = K := by simp [flL]
theorem flL_at (l : List UInt8) (z : List Int) (K k i : Nat) (hi : i < K) : (flL l z K k).getD i 0 = flW l z k i := by
  simp [flL, List.getD, hi]
theorem flL_zero (l : List UInt8) (z : List Int) : flL l z (wordsK l.length) 0 = packL l := by
  unfold flL packL packK
  apply List.map_congr_left
  intro i _
  simp [flW]
theorem flL_no (l : List UInt8) (z : List Int) (K k : Nat) (h : isFl z k = false) : flL l z K (k + 1) = flL l z K k := by
  unfold flL
  apply List.map_congr_left
  intro i _
  unfold flW
  by_cases e : i = k
  · subst e; simp [h]
  · by_cases h1 : i < k
    · simp [h1, show i < k + 1 by omega]
    · simp [h1, show ¬ i < k + 1 by omega]
theorem flL_yes (l : List UInt8) (z : List Int) (K k : Nat) (hk : k < K) (h : isFl z k = true) : flL l z K (k + 1) = (flL l z K k).set k (encW (numJ l (3 * k) 3) ^^^ 2 ^ (z.getD k 0).toNat) := by
  apply List.ext_getElem
  · simp [flL]
  · intro i h1 h2
    simp only [flL, List.getElem_map, List.getElem_range, List.getElem_set, List.length_map, List.length_range] at *
    by_cases e : k = i
    · subst e; simp [flW, h]
    · rw [if_neg e]
      unfold flW
      by_cases h3 : i < k
      · simp [h3, show i < k + 1 by omega]
      · simp [h3, show ¬ i < k + 1 by omega]
theorem flW_lt (l : List UInt8) (z : List Int) (k i : Nat) : flW l z k i < 4294967296 := by
  unfold flW
  have h1 := encW_lt (numJ l (3 * i) 3)
  split
  · rename_i h
    refine Nat.xor_lt_two_pow (n := 32) h1 (u32_shl _ ?_)
    have := h.2
    simp only [isFl, Bool.and_eq_true, decide_eq_true_eq] at this
    omega
  · exact h1
theorem flW_dec (l : List UInt8) (z : List Int) (k i : Nat) : decD (flW l z k i) = numJ l (3 * i) 3 ∧ decH (flW l z k i) = if i < k ∧ isFl z i = true then 1 else 0 := by
  have hn := (numJ_lt l (3 * i)).2.2
  unfold flW
  split
  · rename_i h
    have h2 := h.2
    simp only [isFl, Bool.and_eq_true, decide_eq_true_eq] at h2
    exact cor1 hn (by omega)
  · exact cor0 hn
theorem b3_num (l : List UInt8) (i : Nat) : b3 (numJ l i 3) = [l.getD i 0, l.getD (i + 1) 0, l.getD (i + 2) 0] := by
  have e : numJ l i 3 = ((l.getD i 0).toNat * 256 + (l.getD (i + 1) 0).toNat) * 256 + (l.getD (i + 2) 0).toNat := by simp [numJ]
  generalize l.getD i 0 = a at *
  generalize l.getD (i + 1) 0 = b at *
  generalize l.getD (i + 2) 0 = c at *
  have ha := a.toNat_lt
  have hb := b.toNat_lt
  have hc := c.toNat_lt
  unfold b3
  rw [e]
  have e1 : UInt8.ofNat (((a.toNat * 256 + b.toNat) * 256 + c.toNat) / 65536) = a := by
    apply UInt8.toNat_inj.1
    first | (simp; done) | (simp; omega)
  have e2 : UInt8.ofNat (((a.toNat * 256 + b.toNat) * 256 + c.toNat) / 256) = b := by
    apply UInt8.toNat_inj.1
    first | (simp; done) | (simp; omega)
  have e3 : UInt8.ofNat ((a.toNat * 256 + b.toNat) * 256 + c.toNat) = c := by
    apply UInt8.toNat_inj.1
    first | (simp; done) | (simp; omega)
  rw [e1, e2, e3]
theorem unp_fl (l : List UInt8) (z : List Int) (K kk : Nat) : ∀ k, k ≤ K → unpK (flL l z K kk) k = (List.range (3 * k)).map fun j => l.getD j 0
  | 0, _ => rfl
  | k + 1, h => by
    rw [unpK_succ, unp_fl l z K kk k (by omega), flL_at l z K kk k (by omega), (flW_dec l z kk k).1, b3_num]
    rw [show 3 * (k + 1) = 3 * k + 1 + 1 + 1 by omega, List.range_succ, List.range_succ, List.range_succ]
    simp
theorem unp_back (l : List UInt8) (z : List Int) (kk : Nat) : (unpK (flL l z (wordsK l.length) kk) (wordsK l.length)).take l.length = l := by
  rw [unp_fl l z _ kk _ (Nat.le_refl _)]
  have hK : l.length ≤ 3 * wordsK l.length := by unfold wordsK; omega
  apply List.ext_getElem
  · simp; omega
  · intro i h1 h2
    simp [List.getElem?_eq_getElem h2]
theorem fix_fl (l : List UInt8) (z : List Int) (K kk : Nat) (hz : z.length ≤ kk ∨ K ≤ kk) : ∀ k, k ≤ K → fixK (flL l z K kk) k = flN z k
  | 0, _ => rfl
  | k + 1, h => by
    simp only [fixK, flN]
    rw [fix_fl l z K kk hz k (by omega), flL_at l z K kk k (by omega), (flW_dec l z kk k).2]
    congr 1
    by_cases hf : isFl z k = true
    · have hk : k < kk := by
        have h2 := hf
        simp only [isFl, Bool.and_eq_true, decide_eq_true_eq] at h2
        omega
      simp [hk, hf]
    · simp [hf]
theorem bad_fl (l : List UInt8) (z : List Int) (K kk : Nat) : ∀ k, k ≤ K → badB (flL l z K kk) k = false
  | 0, _ => rfl
  | k + 1, h => by
    simp only [badB]
    rw [bad_fl l z K kk k (by omega), flL_at l z K kk k (by omega), (flW_dec l z kk k).2]
    split <;> rfl
theorem flN_stop (z : List Int) : ∀ j, flN z (z.length + j) = flN z z.length
  | 0 => rfl
  | j + 1 => by
    rw [← Nat.add_assoc]
    simp only [flN]
    rw [flN_stop z j]
    simp [isFl]
theorem flN_le (z : List Int) : ∀ k, flN z k ≤ k
  | 0 => Nat.le_refl _
  | k + 1 => by have := flN_le z k; simp only [flN]; split <;> omega
theorem wrdK (n : Nat) : wrdN (n : Int) = (wordsK n : Int) := by unfold wrdN wordsK; split <;> omega
/-- Unpack of what was packed and flipped. -/
theorem unp_rt (l : List UInt8) (z : List Int) (k : Nat) (hk : k ≤ wordsK l.length) (hz : k = wordsK l.length ∨ z.length ≤ k) : unpE (flL l z (wordsK l.length) k) (l.length : Int) = 0 ∧ unpV (flL l z (wordsK l.length) k) (l.length : Int) = l ∧ unpF (flL l z (wordsK l.length) k) (l.length : Int) = flN z k := by
  have hE : unpE (flL l z (wordsK l.length) k) (l.length : Int) = 0 := by
    unfold unpE
    rw [flL_len, wrdK, bad_fl l z _ k _ (Nat.le_refl _), if_neg (by omega)]
    rfl
  refine ⟨hE, ?_, ?_⟩
  · rw [unpV, if_pos hE, flL_len, Int.toNat_natCast, unp_back]
  · rw [unpF, if_pos hE, flL_len, fix_fl l z _ k (by omega) _ (Nat.le_refl _)]
    rcases hz with h | h
    · rw [h]
    · obtain ⟨j, hj⟩ : ∃ j, wordsK l.length = z.length + j := ⟨wordsK l.length - z.length, by omega⟩
      obtain ⟨j2, hj2⟩ : ∃ j, k = z.length + j := ⟨k - z.length, by omega⟩
      rw [hj, hj2, flN_stop, flN_stop]

set_option maxRecDepth 100000 in
set_option maxHeartbeats 1600000 in
theorem law_rt (l : List UInt8) (z : List Int) (v u : Value) (w : World) (hl : SL w w.heap.size v l) (hz : SI w w.heap.size u z) (hT : Tb w) :
    Calls Tryd.prog 8 #[v, u] w fun e w' => e = .returned (.bool true) ∧ Below w.heap.size w w' := by
  by_cases h4 : 3000 < l.length
  · have HE := Lib.hid (example_any w hT)
    obtain ⟨A, c, rfl, _, _, _⟩ := hl
    clear hT hz
    go_enter Tryd.func8, Tryd.ntmps8
    go_wp2_with fail
    refine HE.out.mono ?_
    rintro e w3 ⟨rfl, hb⟩
    go_wp2_with fail
    go_ret
    exact ⟨rfl, hb⟩
  · have HL := Lib.hid hl
    have HT := Lib.hid hT
    have H1 := Lib.hid (ppack_any l v w hl (by omega) hT)
    have H2 := fun W => rwords_any (l.length : Int) W (by omega) (by omega)
    have HR := Lib.hid (fun k => unp_rt l z k)
    have HP : Hid (packL l = flL l z (wordsK l.length) 0) := (flL_zero l z).symm
    have hKl : wordsK l.length ≤ 1001 := by unfold wordsK; omega
    rw [wrdK] at H2
    have H2 := Lib.hid H2
    have HYS := Lib.hid (flL_yes l z (wordsK l.length))
    have HNO := Lib.hid (flL_no l z (wordsK l.length))
    have HLN := Lib.hid (flL_len l z (wordsK l.length))
    have HAT := Lib.hid (flL_at l z (wordsK l.length))
    obtain ⟨A, c, rfl, _, _, _⟩ := hl
    obtain ⟨A2, c2, rfl, z1, z2, z3⟩ := hz
    unfold maxLen at z2
    have HZ := Lib.hid z3
    clear hT z3
    generalize wordsK l.length = K at *
    go_enter Tryd.func8, Tryd.ntmps8
    go_wp2_with fail
    refine H1.out.mono ?_
    rintro e w1 ⟨v1, rfl, hv1, hb1⟩
    rw [HP.out] at hv1
    obtain ⟨A1, c1, rfl⟩ := hv1.value
    rw [HLN.out 0] at hv1
    rw [HLN.out 0]
    have HV1 := Lib.hid hv1
    clear hv1
    go_wp2_with (go_at_call 15; refine (H2.out _).mono ?_; rintro e w' ⟨rfl, rfl⟩)
    go_loopw [6, 7] (fun n i wr => ∃ k : Nat, k ≤ K ∧ i = .int .i64 k ∧ n = .int .i64 (flN z k : Int) ∧ OW wr w.heap.size (.slice A1 K c1) (flL l z K k) ∧ Below w.heap.size w wr) (fun _ i _ => K - (intOf i).toNat)
    case atStart => exact ⟨0, Nat.zero_le _, rfl, rfl, HV1.out, hb1⟩
    case round =>
      obtain ⟨k, hk, rfl, rfl, hown, hbel⟩ := hrel
      have HOWN := Lib.hid hown
      by_cases h1 : k < K ∧ k < z.length
      · obtain ⟨h1, h2⟩ := h1
        obtain ⟨g, cap, ev, _, _⟩ := World.ownsRow.form hown (by rw [HLN.out]; omega)
        simp only [Value.slice.injEq] at ev
        obtain ⟨rfl, e0, rfl⟩ := ev
        clear e0
        have gc := hown.cellAt k (by rw [HLN.out]; exact h1)
        have gf := hown.frozenAt k
        have gb := hown.base_le
        rw [HAT.out k k h1, flW, if_neg (by omega)] at gc
        obtain ⟨b2, o2, rfl, hb2, hc2⟩ := HZ.out (by omega)
        have gz := (hbel.cell (p := ⟨b2, o2 + k, none⟩) hb2).trans (hc2 k h2)
        have HC2 := Lib.hid hc2
        have hcl := encW_lt (numJ l (3 * k) 3)
        have HYK := Lib.hid (HYS.out k h1)
        have HNK := Lib.hid (HNO.out k)
        have HFN : Hid (flN z (k + 1) = flN z k + if isFl z k then 1 else 0) := rfl
        have HIS : Hid (isFl z k = (decide (0 ≤ z.getD k 0 ∧ z.getD k 0 < 32) && decide (k < z.length))) := rfl
        clear hc2 hown
        have hfl : flN z k ≤ k := flN_le z k
        generalize encW (numJ l (3 * k) 3) = c at *
        generalize z.getD k 0 = zv at *
        by_cases hr : 0 ≤ zv ∧ zv < 32
        · have hy : isFl z k = true := by rw [HIS.out]; simp [hr, h2]
          obtain ⟨zn, rfl⟩ : ∃ n : Nat, zv = n := ⟨zv.toNat, by omega⟩
          obtain ⟨hr1, hr2⟩ := hr
          have HX := u32_flip c zn hcl (by omega)
          obtain ⟨y, ey⟩ : ∃ y, c ^^^ 2 ^ zn = y := ⟨_, rfl⟩
          rw [Int.toNat_natCast, ey] at HYK
          rw [ey] at HX
          have HY1 := Lib.hid (HYK.out hy)
          have HF1 : Hid (flN z (k + 1) = flN z k + 1) := by show _ = _; rw [HFN.out, hy]; rfl
          clear ey hy hcl h4 hKl
          go_wp2
          go_still_tail 13, (by kernel_rfl)
          change wpList _ _ _ _ _ wr.drew
          have d1 : wr.drew.cell? ⟨g, k, none⟩ = some (.int .u32 (c : Int)) := gc
          have d2 : wr.drew.frozen? ⟨g, k, none⟩ = false := gf
          have HOD : Hid (OW wr.drew w.heap.size (.slice (some ⟨g, 0, none⟩) K c1) (flL l z K k)) := HOWN.out
          have HBD := Lib.hid (below_drew hbel)
          generalize wr.drew = wd at *
          go_wp2
          go_roundw
          case rel => exact ⟨k + 1, by omega, by go_num, by rw [HF1.out]; go_num, by rw [HY1.out]; exact HOD.out.stored k y _ rfl, HBD.out.setCell (p := ⟨g, k, none⟩) gb _⟩
          case measure => simp [intOf]; omega
        · have hy : isFl z k = false := by rw [HIS.out]; simp [hr]
          have HY1 := Lib.hid (HNK.out hy)
          have HF1 : Hid (flN z (k + 1) = flN z k) := by show _ = _; rw [HFN.out, hy]; rfl
          have hr2 : zv < 0 ∨ (0 ≤ zv ∧ 32 ≤ zv) := by omega
          clear hy hr hcl h4 hKl
          rcases hr2 with h5 | ⟨h5, h6⟩
          all_goals
            go_wp2
            go_roundw
            case rel => exact ⟨k + 1, by omega, by go_num, by rw [HF1.out], by rw [HY1.out]; exact HOWN.out, hbel⟩
            case measure => simp [intOf]; omega
      · have hR := HR.out k hk (by omega)
        have hu := punp_any (flL l z K k) (l.length : Int) (.slice A1 (flL l z K k).length c1) wr (by rw [HLN.out]; exact hown.sl) (by
          intro x hx
          obtain ⟨i, _, rfl⟩ := List.mem_map.1 hx
          exact flW_lt l z k i) (by rw [HLN.out]; omega) (by omega) (HT.out.on hbel)
        unfold UnpR at hu
        rw [hR.1, hR.2.1, hR.2.2, HLN.out] at hu
        have HU := Lib.hid hu
        clear hown hR hu
        have hcs : k = K ∨ (k < K ∧ z.length ≤ k) := by omega
        clear h1
        generalize flN z k = nn at *
        rcases hcs with rfl | ⟨h5, h6⟩
        all_goals
          go_wp2_with fail
          refine HU.out.mono ?_
          rintro e w2 ⟨v2, rfl, hv2, hb2⟩
          have hw2 : Below w.heap.size w w2 := hbel.trans (hb2.mono hbel.size)
          have hs := HL.out.on hw2
          go_wp2_with fail
          refine (same_yes l _ _ w2 _ hs hv2).mono ?_
          rintro e w3 ⟨rfl, m, rfl⟩
          have hw3 := below_drewN hw2 m
          go_wp2_with fail
          refine (example_any _ (HT.out.on hw3)).mono ?_
          rintro e w4 ⟨rfl, hb4⟩
          go_wp2_with fail
          go_ret
          exact ⟨rfl, hw3.trans (hb4.mono hw3.size)⟩
end Go.Proofs.YtcojoohbhkhlnaaDoor
