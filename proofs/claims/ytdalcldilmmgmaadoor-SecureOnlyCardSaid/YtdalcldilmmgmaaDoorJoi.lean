
/-
  Join, of the program (through the library's) and of the reference.
-/
import Derived.Test.YtdalcldilmmgmaaDoorLol
import Derived.Test.YtdalcldilmmgmaaDoorSh
namespace Go.Proofs.YtdalcldilmmgmaaDoor
set_option linter.unusedVariables false
set_option linter.unusedSimpArgs false
open Go.RowKit

theorem LL.on {w w' : World} {v : Value} {ls : List (List UInt8)} (h : LL w w.heap.size v ls) (hb : Below w.heap.size w w') : LL w' w'.heap.size v ls := by
  obtain ⟨A, c, vs, rfl, h1, h2, h3, h4, h5⟩ := h
  refine ⟨A, c, vs, rfl, h1, h2, h3, fun hp => ?_, fun k hk => (h5.out k hk).on hb⟩
  obtain ⟨b, o, hA, hbb, hc⟩ := h4.out hp
  exact ⟨b, o, hA, Nat.lt_of_lt_of_le hbb hb.size, fun k hk => (hb.cell (p := ⟨b, o + k, none⟩) hbb).trans (hc k hk)⟩
theorem fresh_sl {w : World} {B : Nat} {v : Value} {l : List UInt8} (h : Lib.FreshBytes B w v l) : SL w w.heap.size v l := by
  obtain ⟨g, cap, zs, rfl, hg, h1, h2, hz, hr, hb, hc, _⟩ := h
  refine ⟨_, cap, rfl, h1, h2, fun hp => ⟨g, 0, rfl, ?_, fun k hk => ?_⟩⟩
  · exact World.block_lt_of_cell? w _ (hc 0 (by omega))
  · rw [Nat.zero_add, hc k (by omega)]
    have hkz : k < zs.length := by omega
    have hx := hr zs[k] (List.getElem_mem hkz)
    have e1 : zs.getD k 0 = zs[k] := by simp [List.getD, List.getElem?_eq_getElem hkz]
    have e2 : l.getD k 0 = UInt8.ofNat zs[k].toNat := by
      rw [← hb]
      simp [Lib.bytesOf, List.getD, hk, List.getElem?_eq_getElem hkz]
    rw [e1, e2]
    congr 2
    simp
    omega

theorem join_nosep (ls : List (List UInt8)) : Lib.join ls [] = ls.flatten := by
  cases ls with
  | nil => rfl
  | cons x r =>
    rw [Lib.join_cons, List.flatten_cons]
    congr 1
    simp [Lib.joinTail]
theorem sl_holds {w : World} {B : Nat} {v : Value} {l : List UInt8} (h : SL w B v l) : Lib.HoldsBytes w v l := by
  obtain ⟨A, c, rfl, _, _, h3⟩ := h
  refine ⟨A, c, rfl, fun hA => ?_, fun a hA i x hx => ?_⟩
  · rcases Nat.eq_zero_or_pos l.length with h0 | h0
    · exact List.eq_nil_of_length_eq_zero h0
    · obtain ⟨b, o, hA', _⟩ := h3 h0
      rw [hA] at hA'
      cases hA'
  · have hi : i < l.length := (List.getElem?_eq_some_iff.1 hx).1
    obtain ⟨b, o, hA', _, hc⟩ := h3 (by omega)
    rw [hA] at hA'
    cases hA'
    rw [addr_add, hc i hi]
    congr 2
    rw [List.getD, hx]
    rfl

/-- bytes.Join without a separator. -/
theorem bjoin_any (ls : List (List UInt8)) (v : Value) (w : World) (h : LL w w.heap.size v ls) (hn : ls.length ≤ 1000000) (hs : Lib.lens ls ≤ 10000000) :
    Calls Tryd.prog 57 #[v, .slice none 0 0] w fun e w' => ∃ v', e = .returned v' ∧ SL w' w'.heap.size v' ls.flatten ∧ Below w.heap.size w w' := by
  obtain ⟨A, c, vs, rfl, h1, h2, h3, h4, h5⟩ := h
  match ls, h1, h3, h4, h5, hn, hs with
  | [], h1, h3, h4, h5, hn, hs =>
    exact (Tryd.bytes_Join_none A c (.slice none 0 0) w).mono fun e w' ⟨he, hw⟩ => ⟨_, he, SL.nil _ _ _ _ (Nat.zero_le _), by rw [hw]; exact (Below.refl _ _).alloc (Nat.le_refl _) _⟩
  | [l0], h1, h3, h4, h5, hn, hs =>
    obtain ⟨b, o, rfl, hb, hc⟩ := h4.out (by simp)
    have hc0 : w.cell? ⟨b, o, none⟩ = some (vs.getD 0 (.slice none 0 0)) := hc 0 (by simp)
    have hs0 : SL w w.heap.size (vs.getD 0 (.slice none 0 0)) l0 := h5.out 0 (by simp)
    obtain ⟨A0, c0, e0, k1, k2, k3⟩ := hs0
    rw [e0] at hc0
    have hf : [l0].flatten = l0 := by simp
    rw [hf]
    rcases Nat.eq_zero_or_pos l0.length with h0 | h0
    · have hl : l0 = [] := List.eq_nil_of_length_eq_zero h0
      subst hl
      exact (Tryd.bytes_Join_one_empty b o c A0 c0 (.slice none 0 0) w hc0).mono fun e w' ⟨he, hw⟩ => ⟨_, he, SL.nil _ _ _ _ (Nat.zero_le _), by rw [hw]; exact Below.refl _ _⟩
    · obtain ⟨b0, o0, rfl, hb0, hcc⟩ := k3 h0
      refine (Tryd.bytes_Join_one b o c ⟨b0, o0, none⟩ c0 l0 (.slice none 0 0) w hc0 (fun i x hx => ?_) h0 ?_).mono fun e w' ⟨v', he, hf, hbl⟩ => ⟨v', he, fresh_sl hf, hbl⟩
      · have hi : i < l0.length := (List.getElem?_eq_some_iff.1 hx).1
        rw [addr_add, hcc i hi]
        congr 2
        rw [List.getD, hx]
        rfl
      · have : Lib.lens [l0] = l0.length := by simp [Lib.lens]
        omega
  | l0 :: l1 :: r, h1, h3, h4, h5, hn, hs =>
    obtain ⟨b, o, rfl, hb, hc⟩ := h4.out (by simp)
    have hP : Lib.PartsAt w ⟨b, o, none⟩ vs (l0 :: l1 :: r) := by
      refine ⟨h3, fun i u hu => ?_, fun i u l hu hl => ?_⟩
      · have hi : i < vs.length := (List.getElem?_eq_some_iff.1 hu).1
        rw [addr_add, hc i (by omega), List.getD, hu]
        rfl
      · have hi : i < vs.length := (List.getElem?_eq_some_iff.1 hu).1
        have := h5.out i (by omega)
        rw [List.getD, hu, List.getD, hl] at this
        exact sl_holds this
    have hS : Lib.HoldsBytes w (.slice none 0 0) [] := sl_holds (SL.nil w 0 0 none (Nat.zero_le _))
    refine (Tryd.bytes_Join_many b o _ c vs (l0 :: l1 :: r) (.slice none 0 0) [] w rfl (by simp) hP h1 hS (by omega) (by simp; omega)).mono fun e w' ⟨v', he, hf, hbl⟩ => ⟨v', he, ?_, hbl⟩
    rw [join_nosep] at hf
    exact fresh_sl hf

set_option maxRecDepth 100000 in
theorem pjoin_any (ls : List (List UInt8)) (v : Value) (w : World) (h : LL w w.heap.size v ls) (hn : ls.length ≤ 1000000) (hs : Lib.lens ls ≤ 10000000) :
    Calls Tryd.prog 42 #[v] w fun e w' => ∃ v', e = .returned v' ∧ SL w' w'.heap.size v' ls.flatten ∧ Below w.heap.size w w' := by
  have HC := Lib.hid (bjoin_any ls v w h hn hs)
  clear h
  go_enter Tryd.func42, Tryd.ntmps42
  go_wp2_with (go_at_call 57; refine HC.out.mono ?_; rintro e w' ⟨v', rfl, hv', hb'⟩)
  go_ret
  exact ⟨_, rfl, hv', hb'⟩
end Go.Proofs.YtdalcldilmmgmaaDoor
