/-
  The walks of Unpad, of the program and of the reference, and bytes.Clone.
-/
import Derived.Test.YtahnmnbjgbfeaaaCmpb
namespace Go.Proofs.Ytahnmnbjgbfeaaa
set_option linter.unusedVariables false
set_option linter.unusedSimpArgs false
open Go.RowKit

theorem clone_any (l : List UInt8) (v : Value) (w : World) (hl : SL w w.heap.size v l) (hs : l.length ≤ 100000000) :
    Calls Try.prog 66 #[v] w fun e w' => ∃ v', e = .returned v' ∧ SL w' w'.heap.size v' l ∧ Below w.heap.size w w' := by
  obtain ⟨A1, c1, rfl, h11, h12, h13⟩ := hl
  rcases A1 with _ | a
  · have h0 : l = [] := by
      rcases Nat.eq_zero_or_pos l.length with h | h
      · exact List.eq_nil_of_length_eq_zero h
      · obtain ⟨b, o, hA, _⟩ := h13 h
        cases hA
    subst h0
    exact (Try.bytes_Clone_nil 0 c1 w).mono fun e w' ⟨he, hw⟩ => ⟨_, he, SL.nil _ _ _ _ (Nat.zero_le _), by rw [hw]; exact Below.refl _ _⟩
  · refine (Try.bytes_Clone_at a l.length c1 (l.map fun x => (x.toNat : Int)) w (by simp) (by omega) (fun i hi => ?_)).mono fun e w' ⟨v', he, ho, _, hb⟩ => ⟨v', he, ?_, hb⟩
    · obtain ⟨b, o, hA, _, hc⟩ := h13 (by omega)
      simp only [Option.some.injEq] at hA
      subst hA
      rw [addr_add, hc i hi, map_nat_getD]
    · have e2 : (l.map fun x => (x.toNat : Int)).map (Value.int .u8) = l.map bv := by rw [List.map_map]; rfl
      rw [e2] at ho
      exact OB.sl (base := w.heap.size) ho

set_option maxRecDepth 100000 in
set_option maxHeartbeats 800000 in
theorem punpad_any (l : List UInt8) (v : Value) (w : World) (hl : SL w w.heap.size v l) (hs : l.length ≤ 200000) (P : Ending → World → Prop)
    (hok : ∀ m, unpadL l = some m → ∀ v' w', SL w' w'.heap.size v' m → Below w.heap.size w w' → P (.returned (.tuple #[v', .int .i64 0])) w')
    (hno : unpadL l = none → P (.returned (.tuple #[.slice none 0 0, .int .i64 4])) w) :
    Calls Try.prog 33 #[v] w P := by
  have HOK := Lib.hid hok
  have HNO := Lib.hid hno
  clear hok hno
  have HSL := hl
  obtain ⟨A1, c1, rfl, h11, h12, h13⟩ := hl
  unfold maxLen at h12
  go_enter Try.func33, Try.ntmps33
  go_wp2_with fail
  go_loop [4] (fun i => ∃ t : Nat, t ≤ l.length ∧ i = .int .i64 ((t : Int) - 1) ∧ Hid (unpadL l = unp l t)) (fun i => (intOf i + 1).toNat)
  case atStart => exact ⟨l.length, Nat.le_refl _, rfl, rfl⟩
  case round =>
    obtain ⟨t, ht, rfl, hu⟩ := hrel
    rcases t with _ | s
    · go_wp2_with fail
      exact HNO.out (by rw [hu.out]; rfl)
    · obtain ⟨b1, o1, rfl, hb1, hc1⟩ := h13 (by omega)
      have g1 := hc1 s (by omega)
      have hp : s < l.length := by omega
      have es : ((s + 1 : Nat) : Int) - 1 = (s : Int) := by omega
      rw [es]
      clear es
      by_cases h0 : l.getD s 0 = 0
      · have ht : (((l[s]'hp).toNat : Int) == 0) = true := by rw [gd hp, h0]; rfl
        have hu' := Lib.hid (show unp l (s + 1) = unp l s from by rw [unp, if_pos h0])
        clear h0
        go_wp2_with fail
        go_round
        case rel => exact ⟨s, by omega, by go_num, hu.out.trans hu'.out⟩
        case measure => simp [intOf]
      · have ht : (((l[s]'hp).toNat : Int) == 0) = false := by
          rw [gd hp, beq_eq_false_iff_ne]
          intro e
          exact h0 (UInt8.toNat_inj.1 (by simpa using e))
        by_cases h8 : l.getD s 0 = 128
        · have ht8 : (((l[s]'hp).toNat : Int) != 128) = false := by rw [gd hp, h8]; rfl
          have hu' := Lib.hid (show unp l (s + 1) = some (l.take s) from by rw [unp, if_neg h0, if_pos h8])
          clear h0 h8
          have hc := fun (x : Nat) (hx : x ≤ l.length) => clone_any (l.take x) (.slice (some ⟨b1, o1, none⟩) x c1) w (HSL.take hx) (by simp; omega)
          have HC := Lib.hid (hc s (by omega))
          clear hc
          go_wp2_with (go_at_call 66; refine HC.out.mono ?_; rintro e w' ⟨v', rfl, hv', hb'⟩)
          exact HOK.out _ (hu.out.trans hu'.out) _ _ hv' hb'
        · have ht8 : (((l[s]'hp).toNat : Int) != 128) = true := by
            rw [gd hp, bne_iff_ne]
            intro e
            have e' : (l.getD s 0).toNat = 128 := by omega
            exact h8 (UInt8.toNat_inj.1 e')
          have hu' := Lib.hid (show unp l (s + 1) = none from by rw [unp, if_neg h0, if_neg h8])
          clear h0 h8
          go_wp2_with fail
          exact HNO.out (hu.out.trans hu'.out)
set_option maxRecDepth 100000 in
set_option maxHeartbeats 800000 in
theorem runpad_any (l : List UInt8) (v : Value) (w : World) (hl : SL w w.heap.size v l) (hs : l.length ≤ 200000) (P : Ending → World → Prop)
    (hok : ∀ m, unpadL l = some m → ∀ v' w', SL w' w'.heap.size v' m → Below w.heap.size w w' → P (.returned (.tuple #[v', .int .i64 0])) w')
    (hno : unpadL l = none → P (.returned (.tuple #[.slice none 0 0, .int .i64 4])) w) :
    Calls Try.prog 34 #[v] w P := by
  have HOK := Lib.hid hok
  have HNO := Lib.hid hno
  clear hok hno
  have HSL := hl
  obtain ⟨A1, c1, rfl, h11, h12, h13⟩ := hl
  unfold maxLen at h12
  go_enter Try.func34, Try.ntmps34
  go_wp2_with fail
  go_loop [4] (fun i => ∃ t : Nat, t ≤ l.length ∧ i = .int .i64 ((t : Int) - 1) ∧ Hid (unpadL l = unp l t)) (fun i => (intOf i + 1).toNat)
  case atStart => exact ⟨l.length, Nat.le_refl _, rfl, rfl⟩
  case round =>
    obtain ⟨t, ht, rfl, hu⟩ := hrel
    rcases t with _ | s
    · go_wp2_with fail
      exact HNO.out (by rw [hu.out]; rfl)
    · obtain ⟨b1, o1, rfl, hb1, hc1⟩ := h13 (by omega)
      have g1 := hc1 s (by omega)
      have hp : s < l.length := by omega
      have es : ((s + 1 : Nat) : Int) - 1 = (s : Int) := by omega
      rw [es]
      clear es
      by_cases h0 : l.getD s 0 = 0
      · have ht : (((l[s]'hp).toNat : Int) == 0) = true := by rw [gd hp, h0]; rfl
        have hu' := Lib.hid (show unp l (s + 1) = unp l s from by rw [unp, if_pos h0])
        clear h0
        go_wp2_with fail
        go_round
        case rel => exact ⟨s, by omega, by go_num, hu.out.trans hu'.out⟩
        case measure => simp [intOf]
      · have ht : (((l[s]'hp).toNat : Int) == 0) = false := by
          rw [gd hp, beq_eq_false_iff_ne]
          intro e
          exact h0 (UInt8.toNat_inj.1 (by simpa using e))
        by_cases h8 : l.getD s 0 = 128
        · have ht8 : (((l[s]'hp).toNat : Int) != 128) = false := by rw [gd hp, h8]; rfl
          have hu' := Lib.hid (show unp l (s + 1) = some (l.take s) from by rw [unp, if_neg h0, if_pos h8])
          clear h0 h8
          have HR := Lib.hid (Rd.take h13 s)
          have hts : (l.take s).length = s := by simp; omega
          have HT := Lib.hid hts
          clear hts
          go_wp2_with (at_builtin; refine wpList_appS rfl (.tmp 28) (.tmp 31) rfl (w.alloc (.cells #[] 5)) w.heap.size _ [] (l.take s) (some ⟨b1, o1, none⟩) c1 rfl (by rw [HT.out]; rfl) (Below.refl _ _) (OB.made w) (fun hp => by obtain ⟨b, o, hA, hb, hc⟩ := HR.out hp; exact ⟨b, o, hA, fun k hk => (((Below.refl _ w).alloc (Nat.le_refl _) _).cell (p := ⟨b, o + k, none⟩) hb).trans (hc k hk)⟩) (by simp; omega) (by simp) ?_; intro v' w' hown' hb')
          have hv' := hown'.sl
          simp only [List.nil_append] at hv'
          exact HOK.out _ (hu.out.trans hu'.out) _ _ hv' (((Below.refl _ w).alloc (Nat.le_refl _) _).trans hb')
        · have ht8 : (((l[s]'hp).toNat : Int) != 128) = true := by
            rw [gd hp, bne_iff_ne]
            intro e
            have e' : (l.getD s 0).toNat = 128 := by omega
            exact h8 (UInt8.toNat_inj.1 e')
          have hu' := Lib.hid (show unp l (s + 1) = none from by rw [unp, if_neg h0, if_neg h8])
          clear h0 h8
          go_wp2_with fail
          exact HNO.out (hu.out.trans hu'.out)
end Go.Proofs.Ytahnmnbjgbfeaaa
