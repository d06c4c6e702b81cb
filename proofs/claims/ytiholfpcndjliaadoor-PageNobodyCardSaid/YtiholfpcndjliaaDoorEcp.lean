
/-
  The walk of Unpack of the program.
-/
import Derived.Test.YtiholfpcndjliaaDoorEco
namespace Go.Proofs.YtiholfpcndjliaaDoor
set_option linter.unusedVariables false
set_option linter.unusedSimpArgs false
open Go.RowKit

theorem unp_take (w : List Nat) (k m : Nat) (h : 3 * k < m) : (unpK w (k + 1)).take m = (unpK w k).take m ++ (b3 (decD (w.getD k 0))).take (min 3 (m - 3 * k)) := by
  rw [unpK_succ, List.take_append, unpK_len w k]
  congr 1
  by_cases e : 3 ≤ m - 3 * k
  · rw [Nat.min_eq_left e, List.take_of_length_le (by simpa [b3] using e), List.take_of_length_le (by simp [b3])]
  · rw [Nat.min_eq_right (by omega)]

theorem b3_tl (d q : Nat) (h : q ≤ 3) : ((b3 d).take q).length = q := by rw [List.length_take]; show min q 3 = q; omega
theorem b3_tat (d q j : Nat) (hj : j < ((b3 d).take q).length) : ((b3 d).map bv).toArray[j]? = some (.int .u8 ((((b3 d).take q).getD j 0).toNat : Int)) := by
  rw [List.length_take] at hj
  have h3 : j < 3 := by have : (b3 d).length = 3 := rfl; omega
  rw [b3_at d j h3]
  congr 3
  simp [List.getD, show j < q by omega]

set_option maxRecDepth 100000 in
set_option maxHeartbeats 1600000 in
theorem punp_any (w : List Nat) (n : Int) (v : Value) (W : World) (hw : SW W W.heap.size v w) (hall : ∀ x ∈ w, x < 4294967296) (hl : w.length ≤ 1100) (hn : -9223372036854775808 ≤ n ∧ n ≤ 9223372036854775807) (hT : Tb W) :
    Calls Tryd.prog 83 #[v, .int .i64 n] W (UnpR w n W) := by
  obtain ⟨A1, c1, rfl, h11, h12, h13⟩ := hw
  unfold maxLen at h12
  by_cases hneg : n < 0
  · have HE := Lib.hid (unpR_bad (w := w) (n := n) (W := W) (x := 1) (by rw [unpE, if_pos (.inl hneg)]) (by omega) (Below.refl _ _))
    clear hn hT
    go_enter Tryd.func83, Tryd.ntmps83
    go_wp2
    refine bodyPost_ret (results_tmp3 rfl _ _ _) rfl ?_
    exact HE.out
  · have HW := Lib.hid (pwords_any n W hn.2 hn.1)
    have hneg0 : 0 ≤ n := by omega
    by_cases hne : (w.length : Int) = wrdN n
    · have hnk : n ≤ 3 * (w.length : Int) ∧ 3 * (w.length : Int) < n + 3 := by rw [hne]; unfold wrdN; split <;> omega
      obtain ⟨m, rfl⟩ : ∃ m : Nat, n = m := ⟨n.toNat, by omega⟩
      rw [← hne] at HW
      have HE1 : Hid (unpE w m = if badB w w.length = true then 9 else 0) := by
        show _ = _
        rw [unpE, if_neg]
        intro h
        rcases h with h | h
        · omega
        · exact h hne
      have H13 := Lib.hid h13
      have HALL := Lib.hid hall
      have HT := Lib.hid hT
      clear h13 hall hn hneg hne hT
      generalize hK : w.length = K at *
      go_enter Tryd.func83, Tryd.ntmps83
      go_wp2_with (first
        | (go_at_call 91; refine HW.out.mono ?_; rintro e w' ⟨rfl, rfl⟩)
        | (at_make; refine wpList_mk0 rfl _ _ rfl .i64 .i64 _ m rfl rfl rfl (by omega) ?_; intro w1 hown1 hb1))
      go_loopw [7, 8, 27] (fun out f i wr => ∃ k : Nat, k ≤ K ∧ i = .int .i64 k ∧ f = .int .i64 (fixK w k : Int) ∧ OB wr W.heap.size out ((unpK w k).take m) ∧ Below W.heap.size W wr ∧ badB w k = false) (fun _ _ i _ => K - (intOf i).toNat)
      case atStart => exact ⟨0, by omega, rfl, rfl, by simpa [unpK] using hown1, hb1, rfl⟩
      case round =>
        obtain ⟨k, hk, rfl, rfl, hown, hbel, hbad⟩ := hrel
        obtain ⟨A2, c2, rfl⟩ := hown.value
        have HBAD := Lib.hid hbad
        have hfl := fixK_le w k
        clear hbad
        by_cases h1 : k < K
        · obtain ⟨b1, o1, rfl, hb1', hc1⟩ := H13.out (by rw [hK]; omega)
          have g1 := (hbel.cell (p := ⟨b1, o1 + k, none⟩) hb1').trans (hc1 k (by rw [hK]; exact h1))
          have hx : w.getD k 0 < 4294967296 := by
            rw [List.getD_eq_getElem?_getD, List.getElem?_eq_getElem (by rw [hK]; exact h1)]
            exact HALL.out _ (List.getElem_mem _)
          have HD := pdec_any (w.getD k 0) wr hx (HT.out.on hbel)
          unfold PdecR at HD
          have HD : Calls Tryd.prog 89 #[.int .u32 (w.getD k 0 : Int)] wr fun e w' => e = .returned (.tuple #[.int .i64 (decD (w.getD k 0) : Int), .int .i64 (decH (w.getD k 0) : Int)]) ∧ Below wr.heap.size wr w' := HD.mono fun e w' ⟨h1, n, h2⟩ => ⟨h1, by rw [h2]; exact drewN_below _ _ _⟩
          have HU := Lib.hid (unp_take w k m (by omega))
          have HF : Hid (fixK w (k + 1) = fixK w k + if decH (w.getD k 0) = 1 then 1 else 0) := rfl
          have HB : Hid (badB w (k + 1) = (badB w k || decH (w.getD k 0) == 2)) := rfl
          have HBA := Lib.hid (fun h => badB_at w k K h1 h)
          have hc := decH_cases (w.getD k 0)
          have hd := decD_lt (w.getD k 0)
          have HC := Lib.hid hc1
          have hlen : ((unpK w k).take m).length = 3 * k := by rw [List.length_take, unpK_len w k]; omega
          have hk3 : 3 * k < m := by omega
          have HO : Hid (OB wr W.heap.size (.slice A2 (3 * k) c2) ((unpK w k).take m)) := by rw [hlen] at hown; exact hown
          have HL := Lib.hid hlen
          rw [hlen]
          clear hc1 hown hlen
          generalize decD (w.getD k 0) = d at *
          generalize decH (w.getD k 0) = hh at *
          generalize w.getD k 0 = x at *
          obtain ⟨i3, ei3⟩ : ∃ i3, 3 * k = i3 := ⟨_, rfl⟩
          rw [ei3] at HO HL HU hk3
          rw [ei3]
          have HI := Lib.hid ei3
          have hi3 : i3 ≤ 3300 := by omega
          clear ei3
          obtain ⟨q, eq⟩ : ∃ q, m - i3 = q := ⟨_, rfl⟩
          have hq : (m : Int) - (i3 : Int) = (q : Int) := by omega
          have hq1 : 1 ≤ q := by omega
          rw [eq] at HU
          clear eq
          rcases hc with rfl | rfl | rfl
          · have HF : Hid (fixK w (k + 1) = fixK w k) := HF
            have HB : Hid (badB w (k + 1) = badB w k) := by show _ = _; rw [HB.out]; simp
            have HD := Lib.hid HD
            have hq3 : q = 1 ∨ q = 2 ∨ 3 ≤ q := by omega
            rcases hq3 with rfl | rfl | h3
            · have hq : (m : Int) - (i3 : Int) = 1 := hq
              rw [show min 3 1 = 1 from rfl] at HU
              go_wp2_with fail
              refine HD.out.mono ?_
              rintro e w2 ⟨rfl, hb2⟩
              have hbel2 := hbel.trans (hb2.mono hbel.size)
              have HO2 := Lib.hid (HO.out.later hb2)
              go_wp2_with (at_builtin; refine wpList_appS rfl _ _ rfl w2 W.heap.size _ ((unpK w k).take m) ((b3 d).take 1) (some ⟨w2.heap.size, 0, none⟩) 3 rfl (by rw [b3_tl d 1 (by omega)]; rfl) (alloc_below w2 _) HO2.out (fun _ => ⟨w2.heap.size, 0, rfl, fun j hj => by rw [cell_of_row _ w2.heap.size _ _ 150 (0, 0) (heap_alloc_new w2 _), Nat.zero_add, ← b3_cells d hd, b3_tat d 1 j hj]⟩) (by rw [HL.out, b3_tl d 1 (by omega)]; omega) hbel2.size ?_; intro v2 w3 hown3 hb3)
              have hbel3 := hbel2.trans hb3
              go_roundw
              case rel => exact ⟨k + 1, by omega, by go_num, by rw [HF.out], by rw [HU.out]; exact hown3, hbel3, by rw [HB.out]; exact HBAD.out⟩
              case measure => simp [intOf]; omega
            · have hq : (m : Int) - (i3 : Int) = 2 := hq
              rw [show min 3 2 = 2 from rfl] at HU
              go_wp2_with fail
              refine HD.out.mono ?_
              rintro e w2 ⟨rfl, hb2⟩
              have hbel2 := hbel.trans (hb2.mono hbel.size)
              have HO2 := Lib.hid (HO.out.later hb2)
              go_wp2_with (at_builtin; refine wpList_appS rfl _ _ rfl w2 W.heap.size _ ((unpK w k).take m) ((b3 d).take 2) (some ⟨w2.heap.size, 0, none⟩) 3 rfl (by rw [b3_tl d 2 (by omega)]; rfl) (alloc_below w2 _) HO2.out (fun _ => ⟨w2.heap.size, 0, rfl, fun j hj => by rw [cell_of_row _ w2.heap.size _ _ 150 (0, 0) (heap_alloc_new w2 _), Nat.zero_add, ← b3_cells d hd, b3_tat d 2 j hj]⟩) (by rw [HL.out, b3_tl d 2 (by omega)]; omega) hbel2.size ?_; intro v2 w3 hown3 hb3)
              have hbel3 := hbel2.trans hb3
              go_roundw
              case rel => exact ⟨k + 1, by omega, by go_num, by rw [HF.out], by rw [HU.out]; exact hown3, hbel3, by rw [HB.out]; exact HBAD.out⟩
              case measure => simp [intOf]; omega
            · rw [Nat.min_eq_left (by omega)] at HU
              go_wp2_with fail
              refine HD.out.mono ?_
              rintro e w2 ⟨rfl, hb2⟩
              have hbel2 := hbel.trans (hb2.mono hbel.size)
              have HO2 := Lib.hid (HO.out.later hb2)
              go_wp2_with (at_builtin; refine wpList_appS rfl _ _ rfl w2 W.heap.size _ ((unpK w k).take m) ((b3 d).take 3) (some ⟨w2.heap.size, 0, none⟩) 3 rfl (by rw [b3_tl d 3 (by omega)]; rfl) (alloc_below w2 _) HO2.out (fun _ => ⟨w2.heap.size, 0, rfl, fun j hj => by rw [cell_of_row _ w2.heap.size _ _ 150 (0, 0) (heap_alloc_new w2 _), Nat.zero_add, ← b3_cells d hd, b3_tat d 3 j hj]⟩) (by rw [HL.out, b3_tl d 3 (by omega)]; omega) hbel2.size ?_; intro v2 w3 hown3 hb3)
              have hbel3 := hbel2.trans hb3
              go_roundw
              case rel => exact ⟨k + 1, by omega, by go_num, by rw [HF.out], by rw [HU.out]; exact hown3, hbel3, by rw [HB.out]; exact HBAD.out⟩
              case measure => simp [intOf]; omega
          · have HF : Hid (fixK w (k + 1) = fixK w k + 1) := HF
            have HB : Hid (badB w (k + 1) = badB w k) := by show _ = _; rw [HB.out]; simp
            have HD := Lib.hid HD
            have hq3 : q = 1 ∨ q = 2 ∨ 3 ≤ q := by omega
            rcases hq3 with rfl | rfl | h3
            · have hq : (m : Int) - (i3 : Int) = 1 := hq
              rw [show min 3 1 = 1 from rfl] at HU
              go_wp2_with fail
              refine HD.out.mono ?_
              rintro e w2 ⟨rfl, hb2⟩
              have hbel2 := hbel.trans (hb2.mono hbel.size)
              have HO2 := Lib.hid (HO.out.later hb2)
              go_wp2_with (at_builtin; refine wpList_appS rfl _ _ rfl w2 W.heap.size _ ((unpK w k).take m) ((b3 d).take 1) (some ⟨w2.heap.size, 0, none⟩) 3 rfl (by rw [b3_tl d 1 (by omega)]; rfl) (alloc_below w2 _) HO2.out (fun _ => ⟨w2.heap.size, 0, rfl, fun j hj => by rw [cell_of_row _ w2.heap.size _ _ 150 (0, 0) (heap_alloc_new w2 _), Nat.zero_add, ← b3_cells d hd, b3_tat d 1 j hj]⟩) (by rw [HL.out, b3_tl d 1 (by omega)]; omega) hbel2.size ?_; intro v2 w3 hown3 hb3)
              have hbel3 := hbel2.trans hb3
              go_roundw
              case rel => exact ⟨k + 1, by omega, by go_num, by rw [HF.out]; go_num, by rw [HU.out]; exact hown3, hbel3, by rw [HB.out]; exact HBAD.out⟩
              case measure => simp [intOf]; omega
            · have hq : (m : Int) - (i3 : Int) = 2 := hq
              rw [show min 3 2 = 2 from rfl] at HU
              go_wp2_with fail
              refine HD.out.mono ?_
              rintro e w2 ⟨rfl, hb2⟩
              have hbel2 := hbel.trans (hb2.mono hbel.size)
              have HO2 := Lib.hid (HO.out.later hb2)
              go_wp2_with (at_builtin; refine wpList_appS rfl _ _ rfl w2 W.heap.size _ ((unpK w k).take m) ((b3 d).take 2) (some ⟨w2.heap.size, 0, none⟩) 3 rfl (by rw [b3_tl d 2 (by omega)]; rfl) (alloc_below w2 _) HO2.out (fun _ => ⟨w2.heap.size, 0, rfl, fun j hj => by rw [cell_of_row _ w2.heap.size _ _ 150 (0, 0) (heap_alloc_new w2 _), Nat.zero_add, ← b3_cells d hd, b3_tat d 2 j hj]⟩) (by rw [HL.out, b3_tl d 2 (by omega)]; omega) hbel2.size ?_; intro v2 w3 hown3 hb3)
              have hbel3 := hbel2.trans hb3
              go_roundw
              case rel => exact ⟨k + 1, by omega, by go_num, by rw [HF.out]; go_num, by rw [HU.out]; exact hown3, hbel3, by rw [HB.out]; exact HBAD.out⟩
              case measure => simp [intOf]; omega
            · rw [Nat.min_eq_left (by omega)] at HU
              go_wp2_with fail
              refine HD.out.mono ?_
              rintro e w2 ⟨rfl, hb2⟩
              have hbel2 := hbel.trans (hb2.mono hbel.size)
              have HO2 := Lib.hid (HO.out.later hb2)
              go_wp2_with (at_builtin; refine wpList_appS rfl _ _ rfl w2 W.heap.size _ ((unpK w k).take m) ((b3 d).take 3) (some ⟨w2.heap.size, 0, none⟩) 3 rfl (by rw [b3_tl d 3 (by omega)]; rfl) (alloc_below w2 _) HO2.out (fun _ => ⟨w2.heap.size, 0, rfl, fun j hj => by rw [cell_of_row _ w2.heap.size _ _ 150 (0, 0) (heap_alloc_new w2 _), Nat.zero_add, ← b3_cells d hd, b3_tat d 3 j hj]⟩) (by rw [HL.out, b3_tl d 3 (by omega)]; omega) hbel2.size ?_; intro v2 w3 hown3 hb3)
              have hbel3 := hbel2.trans hb3
              go_roundw
              case rel => exact ⟨k + 1, by omega, by go_num, by rw [HF.out]; go_num, by rw [HU.out]; exact hown3, hbel3, by rw [HB.out]; exact HBAD.out⟩
              case measure => simp [intOf]; omega
          · have HD := Lib.hid HD
            have HE2 : Hid (∀ W', Below wr.heap.size wr W' → UnpR w m W (.returned (.tuple #[.slice none 0 0, .int .i64 0, .int .i64 9])) W') := fun W' hb => unpR_bad (w := w) (n := m) (W := W) (W' := W') (x := 9) (by rw [HE1.out, if_pos (HBA.out rfl)]) (by omega) (hbel.trans (hb.mono hbel.size))
            go_wp2_with fail
            refine HD.out.mono ?_
            rintro e w2 ⟨rfl, hb2⟩
            go_wp2
            refine bodyPost_ret (results_tmp3 rfl _ _ _) rfl ?_
            exact HE2.out _ hb2
        · obtain rfl : k = K := by omega
          have HGG : Hid (UnpR w m W (.returned (.tuple #[.slice A2 ((unpK w k).take m).length c2, .int .i64 (fixK w k : Int), .int .i64 0])) wr) := by
            have := unpR_good (n := m) (by rw [HE1.out, HBAD.out]; rfl) hbel (v := .slice A2 ((unpK w k).take m).length c2) (by rw [hK, Int.toNat_natCast]; exact hown)
            rw [hK] at this
            exact this
          clear hown HBAD
          generalize fixK w k = ff at *
          generalize ((unpK w k).take m).length = ul at *
          go_wp2
          refine bodyPost_ret (results_tmp3 rfl _ _ _) rfl ?_
          exact HGG.out
    · have HE := Lib.hid (unpR_bad (w := w) (n := n) (W := W) (x := 1) (by rw [unpE, if_pos (.inr hne)]) (by omega) (Below.refl _ _))
      have hne2 : ((w.length : Int) != wrdN n) = true := by rw [bne_iff_ne]; exact hne
      generalize wrdN n = y at *
      clear hn hne hT
      go_enter Tryd.func83, Tryd.ntmps83
      go_wp2_with (go_at_call 91; refine HW.out.mono ?_; rintro e w' ⟨rfl, rfl⟩)
      refine bodyPost_ret (results_tmp3 rfl _ _ _) rfl ?_
      exact HE.out
end Go.Proofs.YtiholfpcndjliaaDoor
