/-
  The walk of added.
-/
import Derived.Test.YtjkbfogjfgnhiaaDoorAdd
namespace Go.Proofs.YtjkbfogjfgnhiaaDoor
set_option linter.unusedVariables false
set_option linter.unusedSimpArgs false
open Go.RowKit

/-- All but the own block is kept; the new one is the elder one, or new. -/
def KQ (w : World) (v q : Value) (w' : World) : Prop := (∀ m, m < w.heap.size → v.ownBlock ≠ some m → w'.heap[m]? = w.heap[m]?) ∧ (q.ownBlock = v.ownBlock ∨ ∃ g, q.ownBlock = some g ∧ w.heap.size ≤ g) ∧ w.heap.size ≤ w'.heap.size
theorem KQ.refl (w : World) (v : Value) : KQ w v v w := ⟨fun _ _ _ => rfl, .inl rfl, Nat.le_refl _⟩
theorem KQ.later {w w' w2 : World} {v q : Value} (h : KQ w v q w') (hb : Below w'.heap.size w' w2) : KQ w v q w2 :=
  ⟨fun m hm hv => (hb.block m (Nat.lt_of_lt_of_le hm h.2.2)).trans (h.1 m hm hv), h.2.1, Nat.le_trans h.2.2 hb.size⟩
theorem KQ.grown {w w' w2 : World} {v q : Value} {g n c : Nat} (h : KQ w v q w') (hg : w'.grownBy w2 q.ownBlock) (hgg : q.ownBlock = some g ∨ g = w'.heap.size) : KQ w v (.slice (some ⟨g, 0, none⟩) n c) w2 := by
  refine ⟨fun m hm hv => ?_, ?_, Nat.le_trans h.2.2 hg.size⟩
  · have hlt : m < w'.heap.size := Nat.lt_of_lt_of_le hm h.2.2
    have hq : q.ownBlock ≠ some m := fun e => by
      rcases h.2.1 with h1 | ⟨g', h1, h2⟩
      · exact hv (h1.symm.trans e)
      · have := Option.some.inj (h1.symm.trans e); omega
    have e := app_box hg hq (Array.getElem?_eq_getElem hlt)
    rw [e, ← Array.getElem?_eq_getElem hlt]
    exact h.1 m hm hv
  · rcases hgg with e | e
    · rcases h.2.1 with h1 | ⟨g', h1, h2⟩
      · exact .inl (show some g = _ from e.symm.trans h1)
      · have := Option.some.inj (h1.symm.trans e); exact .inr ⟨g, rfl, by omega⟩
    · exact .inr ⟨g, rfl, by have := h.2.2; omega⟩

set_option maxRecDepth 100000 in
set_option maxHeartbeats 6400000 in
theorem padd_any (l more : List Sc) (v u : Value) (base : Nat) (w : World) (hown : OSc w base v l) (hm : ML w w.heap.size u more) (hne : 0 < more.length → u.ownBlock ≠ v.ownBlock) (hbase : base ≤ w.heap.size) (hlen : l.length + more.length ≤ 100000) :
    Calls Tryd.prog 75 #[v, u] w fun e w' => ∃ v', e = .returned v' ∧ OSc w' base v' (addL l more) ∧ Below base w w' ∧ KQ w v v' w' := by
  obtain ⟨A, c, rfl, h1, h2, h3⟩ := id hm
  unfold maxLen at h2
  obtain ⟨A0, c0, rfl⟩ := hown.value
  have HO0 := Lib.hid hown
  have HM0 : Hid (ML w w.heap.size (.slice A more.length c) more ∧ (0 < more.length → (Value.slice A more.length c).ownBlock ≠ (Value.slice A0 l.length c0).ownBlock)) := ⟨hm, hne⟩
  have HLN : Hid (∀ k, (addL l (more.take k)).length ≤ 100000) := fun k => by
    have := addL_len (more.take k) l
    have : (more.take k).length ≤ more.length := by rw [List.length_take]; omega
    omega
  clear hown hm hne h3
  go_enter Tryd.func75, Tryd.ntmps75
  go_wp2_with fail
  go_loopw [0, 9] (fun q i wr => ∃ k : Nat, k ≤ more.length ∧ i = .int .i64 k ∧ Hid (OSc wr base q (addL l (more.take k))) ∧ Hid (ML wr wr.heap.size (.slice A more.length c) more ∧ (0 < more.length → (Value.slice A more.length c).ownBlock ≠ q.ownBlock)) ∧ Hid (Below base w wr) ∧ Hid (KQ w (.slice A0 l.length c0) q wr)) (fun _ i _ => more.length - (intOf i).toNat)
  case atStart => exact ⟨0, Nat.zero_le _, rfl, by show OSc _ _ _ _; rw [List.take_zero]; exact HO0.out, HM0, Below.refl _ _, KQ.refl _ _⟩
  case round =>
    obtain ⟨k, hk, rfl, HO, HM, HB, HK⟩ := hrel
    obtain ⟨A6, c6, hq6⟩ := HO.out.value
    by_cases hlt : k < more.length
    · obtain ⟨A', c', hv', h1', h2', h3'⟩ := HM.out.1
      obtain ⟨rfl, rfl⟩ : A = A' ∧ c = c' := by simpa using hv'
      obtain ⟨b, o, rfl, hb, hts⟩ := h3'.out (by omega)
      have hta := hts k hlt
      have hak := addL_take l more k hlt
      have hll := HLN.out k
      have hbw := HB.out.size
      obtain ⟨s, hs⟩ : ∃ s, s = more[k] := ⟨_, rfl⟩
      rw [← hs] at hta hak
      obtain ⟨g0, g1, g2, g3⟩ := hta
      have hba := alloc_below wr s.row
      have hn0 := heap_alloc_new wr s.row
      have hz0 := alloc_size wr s.row
      obtain ⟨LK, hLK⟩ : ∃ L, L = addL l (more.take k) := ⟨_, rfl⟩
      rw [← hLK] at hak hll HO hq6
      have HQ := Lib.hid (pcon_any LK s _ _ (HO.out.ml.on hba))
      have hae : addS LK s = if (LK.any fun t => s.eqB t) then LK else LK ++ [s] := rfl
      have HAK : Hid (addL l (more.take (k + 1)) = if (LK.any fun t => s.eqB t) then LK else LK ++ [s]) := hak.trans hae
      have HBA := Lib.hid hba
      have HN0 := Lib.hid hn0
      have HZ0 := Lib.hid hz0
      have HLL := Lib.hid (show LK.length ≤ 1000000 by omega)
      have HBW := Lib.hid (show base ≤ wr.heap.size by omega)
      clear hts hs hak hae hba hn0 hz0 hLK h3' hv' hll
      generalize (LK.any fun t => s.eqB t) = X at *
      subst hq6
      go_wp2_with fail
      refine HQ.out.mono ?_
      rintro e w2 ⟨rfl, hb2⟩
      have hb02 := HBA.out.trans (hb2.mono HBA.out.size)
      have kk := (hb2.block wr.heap.size (by rw [HZ0.out]; omega)).trans HN0.out
      have r0 := cell_of_row _ _ 0 _ _ _ kk
      have r1 := cell_of_row _ _ 1 _ _ _ kk
      have r2 := cell_of_row _ _ 2 _ _ _ kk
      have r3 := cell_of_row _ _ 3 _ _ _ kk
      have HO2 := Lib.hid (HO.out.later hb02)
      have HM2 := Lib.hid (show ML w2 w2.heap.size _ more ∧ _ from ⟨HM.out.1.on hb02, HM.out.2⟩)
      have HB2 := Lib.hid (HB.out.trans (hb02.mono HBW.out))
      have hs2 := hb02.size
      have HK2 := Lib.hid (HK.out.later hb02)
      have HBS := Lib.hid (show base ≤ (w2.alloc s.row).heap.size by rw [alloc_size]; have := HBW.out; omega)
      clear hb2 hb02 kk
      cases X with
      | true =>
        go_wp2_with fail
        go_roundw
        case rel => exact ⟨k + 1, by omega, by go_num, by show OSc _ _ _ _; rw [HAK.out, if_pos trivial]; exact HO2.out, HM2, HB2, HK2⟩
        case measure => simp [intOf]; omega
      | false =>
        have hba2 := alloc_below w2 s.row
        have HO3 := Lib.hid (HO2.out.later hba2)
        have HM3 := Lib.hid (show ML (w2.alloc s.row) (w2.alloc s.row).heap.size _ more ∧ _ from ⟨HM2.out.1.on hba2, HM2.out.2⟩)
        have HB3 := Lib.hid (HB2.out.trans (hba2.mono (by have := HBW.out; omega)))
        have HK3 := Lib.hid (HK2.out.later hba2)
        have HLT := Lib.hid (show 0 < more.length → b < w2.heap.size from fun _ => by omega)
        clear hba2
        go_wp2_with (at_builtin; refine wpList_appMs rfl (.tmp 17) (.tmp 19) rfl base _ LK s w2.heap.size rfl rfl HO3.out (heap_alloc_new w2 s.row) HLL.out HBS.out ?_; intro g cap w6 hos hg hgg; have HO6 := Lib.hid hos; have HK6 := Lib.hid (HK3.out.grown (n := LK.length + 1) (c := cap) hg hgg); have HB6 := Lib.hid (HB3.out.grown hg HBS.out (fun k hk => (HO3.out.ltB k hk).1)); have HM6 := Lib.hid (HM3.out.1.grown HM3.out.2 hg); have HNE6 := Lib.hid (show 0 < more.length → (Value.slice (some ⟨b, o, none⟩) more.length c).ownBlock ≠ (Value.slice (some ⟨g, 0, none⟩) (LK.length + 1) cap).ownBlock from fun hp e => (by have e1 : b = g := Option.some.inj e; rcases hgg with h | h; exact HM3.out.2 hp (e.trans h.symm); have := HLT.out hp; rw [alloc_size] at h; omega)); clear hos hg hgg)
        go_roundw
        case rel => exact ⟨k + 1, by omega, by go_num, by show OSc _ _ _ _; rw [HAK.out, if_neg (by first | exact not_false | simp)]; exact HO6.out, ⟨HM6.out, HNE6.out⟩, HB6, HK6⟩
        case measure => simp [intOf]; omega
    · have hkk : k = more.length := by omega
      have hos := HO.out
      rw [hkk, List.take_length] at hos hq6
      subst hq6
      have HOS := Lib.hid hos
      clear hos hkk
      go_wp2_with fail
      go_ret
      exact ⟨_, rfl, HOS.out, HB.out, HK.out⟩
end Go.Proofs.YtjkbfogjfgnhiaaDoor
