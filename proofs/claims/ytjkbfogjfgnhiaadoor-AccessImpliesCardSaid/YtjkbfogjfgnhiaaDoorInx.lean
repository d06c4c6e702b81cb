/-
  slices.Index and Contains of security statuses.
-/
import Derived.Test.YtjkbfogjfgnhiaaDoorRtm
import Derived.Laws.StructEq
import Derived.ChangeKeysEq
namespace Go.Proofs.YtjkbfogjfgnhiaaDoor
set_option linter.unusedVariables false
set_option linter.unusedSimpArgs false
open Go.RowKit

theorem eqF_cons {P : Program} {w : World} {d : Nat} {xs ys : Array Value} {f : Field} {fs : List Field} {a b : Int} (hn : f.name ≠ "_") (hp : P.plainKey f.type = true) (hu : P.underlying f.type = some (.int .i64))
    (hx : xs[f.offset]? = some (.int .i64 a)) (hy : ys[f.offset]? = some (.int .i64 b)) : (Op.eqFields (d + 1) xs ys (f :: fs)).run P w = if a = b then (Op.eqFields (d + 1) xs ys fs).run P w else .ok false w := by
  simp only [Op.eqFields, if_pos hn, Sem.run_bind, run_part_plain w hp hx, run_part_plain w hp hy, Result.andThen_ok, run_equalIn_int w d f.type _ _ a b hu]
  by_cases h : a = b
  · subst h; simp
  · have : (a == b) = false := by simpa using h
    simp [h]
theorem eqG31 : Tryd.prog.eqGuardType Tryd.prog.depth 31 = false := by kernel_rfl
theorem sih31 : Tryd.prog.stoodInHeld 31 = false := by kernel_rfl
theorem pk3 : Tryd.prog.plainKey 3 = true := by kernel_rfl
theorem f31 : Tryd.prog.fieldsOf 31 = #[{ name := "Pins", type := 3, offset := 0, embedded := false, tag := "", pkgPath := "", byteOffset := 0 },
          { name := "Keys", type := 3, offset := 1, embedded := false, tag := "", pkgPath := "", byteOffset := 8 },
          { name := "State", type := 3, offset := 2, embedded := false, tag := "", pkgPath := "", byteOffset := 16 },
          { name := "Level", type := 3, offset := 3, embedded := false, tag := "", pkgPath := "", byteOffset := 24 }] := by
  unfold Program.fieldsOf
  rw [Tryd.underlying31]
set_option maxRecDepth 100000 in
theorem eq31_run (a b c d a' b' c' d' : Int) (W : World) : Sem.run Tryd.prog (binOp .eql 31 (.agg #[.int .i64 a, .int .i64 b, .int .i64 c, .int .i64 d]) (.agg #[.int .i64 a', .int .i64 b', .int .i64 c', .int .i64 d'])) W = .ok (.bool (decide (a = a') && decide (b = b') && decide (c = c') && decide (d = d'))) W := by
  have u31 := Tryd.underlying31
  rw [← f31] at u31
  have e := run_equalIn_agg W 9999 31 #[.int .i64 a, .int .i64 b, .int .i64 c, .int .i64 d] #[.int .i64 a', .int .i64 b', .int .i64 c', .int .i64 d'] u31 sih31
  have e0 : ∀ (P : Program) (w : World) (n : Nat) (xs ys : Array Value), (Op.eqFields n xs ys []).run P w = .ok true w := fun _ _ _ _ _ => rfl
  rw [f31] at e
  have u3 := Tryd.underlying3
  have e2 := e.trans (eqF_cons (d := 9998) (a := a) (b := a') (by decide) pk3 u3 rfl rfl)
  rw [eqF_cons (d := 9998) (a := b) (b := b') (by decide) pk3 u3 rfl rfl, eqF_cons (d := 9998) (a := c) (b := c') (by decide) pk3 u3 rfl rfl, eqF_cons (d := 9998) (a := d) (b := d') (by decide) pk3 u3 rfl rfl, e0] at e2
  rw [run_eql_struct, e2]
  by_cases h1 : a = a'
  · by_cases h2 : b = b'
    · by_cases h3 : c = c'
      · by_cases h4 : d = d'
        · rw [if_pos h1, if_pos h2, if_pos h3, if_pos h4, decide_eq_true h1, decide_eq_true h2, decide_eq_true h3, decide_eq_true h4]; rfl
        · rw [if_pos h1, if_pos h2, if_pos h3, if_neg h4, decide_eq_true h1, decide_eq_true h2, decide_eq_true h3, decide_eq_false h4]; rfl
      · rw [if_pos h1, if_pos h2, if_neg h3, decide_eq_true h1, decide_eq_true h2, decide_eq_false h3]; rfl
    · rw [if_pos h1, if_neg h2, decide_eq_true h1, decide_eq_false h2]; rfl
  · rw [if_neg h1, decide_eq_false h1]; rfl

def Sc.eqB (s t : Sc) : Bool := decide (s.pins = t.pins) && decide (s.keys = t.keys) && decide (s.state = t.state) && decide (s.level = t.level)
theorem Sc.eqB_iff (s t : Sc) : s.eqB t = true ↔ s = t := by
  obtain ⟨a, b, c, d⟩ := s
  obtain ⟨a', b', c', d'⟩ := t
  simp only [Sc.eqB, Bool.and_eq_true, decide_eq_true_eq, Sc.mk.injEq]
  constructor
  · rintro ⟨⟨⟨h1, h2⟩, h3⟩, h4⟩; exact ⟨h1, h2, h3, h4⟩
  · rintro ⟨h1, h2, h3, h4⟩; exact ⟨⟨⟨h1, h2⟩, h3⟩, h4⟩

set_option maxRecDepth 100000 in
set_option maxHeartbeats 1600000 in
theorem pinx_any (l : List Sc) (s : Sc) (v : Value) (w : World) (h : ML w w.heap.size v l) :
    Calls Tryd.prog 105 #[v, .agg #[.int .i64 s.pins, .int .i64 s.keys, .int .i64 s.state, .int .i64 s.level]] w fun e w' => e = .returned (.int .i64 (idxM (fun t => s.eqB t) l)) ∧ Below w.heap.size w w' := by
  have ha := alloc_below w s.row
  have z1 := eqG31
  have HN0 := Lib.hid (heap_alloc_new w s.row)
  have HA := Lib.hid ha
  obtain ⟨A, c, rfl, h1, h2, h3⟩ := h
  unfold maxLen at h2
  clear ha
  go_enter Tryd.func105, Tryd.ntmps105
  go_wp2
  go_loopw [8, 5] (fun i _ wr => ∃ k : Nat, k ≤ l.length ∧ i = .int .i64 k ∧ Hid (∀ j, j < k → (fun t => s.eqB t) (l.getD j Sc.zero) = false) ∧ Hid (Below (w.alloc s.row).heap.size (w.alloc s.row) wr)) (fun i _ _ => l.length - (intOf i).toNat)
  case atStart => exact ⟨0, Nat.zero_le _, rfl, fun j hj => absurd hj (by omega), Below.refl _ _⟩
  case round =>
    obtain ⟨k, hk, rfl, HE, HB⟩ := hrel
    have HBW := Lib.hid (after_alloc HB.out)
    by_cases hlt : k < l.length
    · obtain ⟨b, o, rfl, hb, hts⟩ := h3.out (by omega)
      have hta := (hts k hlt).keep hb (fun p hp => HBW.out.cell hp)
      have HAT := Lib.hid (idxM_at (fun t => s.eqB t) l k hlt)
      have HSN := Lib.hid (@no_snocM (fun t => s.eqB t) l k hlt HE.out)
      have kk := (HB.out.block w.heap.size (by rw [alloc_size]; omega)).trans HN0.out
      have q0 := cell_of_row _ _ 0 _ _ _ kk
      have q1 := cell_of_row _ _ 1 _ _ _ kk
      have q2 := cell_of_row _ _ 2 _ _ _ kk
      have q3 := cell_of_row _ _ 3 _ _ _ kk
      have i1 : (0 : Int) ≤ (k : Int) := by omega
      have i2 : (k : Int) < (l.length : Int) := by omega
      generalize l[k] = t at *
      obtain ⟨g0, g1, g2, g3⟩ := hta
      clear hts kk
      have hEQ : ∀ W : World, Sem.run Tryd.prog (binOp .eql 31 (.agg #[.int .i64 s.pins, .int .i64 s.keys, .int .i64 s.state, .int .i64 s.level]) (.agg #[.int .i64 t.pins, .int .i64 t.keys, .int .i64 t.state, .int .i64 t.level])) W = .ok (.bool (s.eqB t)) W := fun W => eq31_run _ _ _ _ _ _ _ _ W
      generalize s.eqB t = X at *
      cases X with
      | true =>
        go_wp2_with fail
        go_quiet (fail)
        go_wp2_with fail
        go_ret
        exact ⟨ret_int (HAT.out (by first | exact trivial | rfl) HE.out).symm, below_drewN HBW.out _⟩
      | false =>
        go_wp2_with fail
        go_quiet (fail)
        go_wp2_with fail
        go_roundw
        case rel => exact ⟨k + 1, by omega, by go_num, HSN.out (by first | exact trivial | rfl), below_drewN HB.out _⟩
        case measure => simp [intOf]; omega
    · have hkk : k = l.length := by omega
      subst hkk
      go_wp2
      go_ret
      exact ⟨ret_int (idxM_no (fun t => s.eqB t) l HE.out).symm, HBW.out⟩

set_option maxRecDepth 100000 in
set_option maxHeartbeats 1600000 in
theorem pcon_any (l : List Sc) (s : Sc) (v : Value) (w : World) (h : ML w w.heap.size v l) :
    Calls Tryd.prog 90 #[v, .agg #[.int .i64 s.pins, .int .i64 s.keys, .int .i64 s.state, .int .i64 s.level]] w fun e w' => e = .returned (.bool (l.any fun t => s.eqB t)) ∧ Below w.heap.size w w' := by
  have ha := alloc_below w s.row
  have HX := Lib.hid (pinx_any l s v _ (h.on ha))
  have HE := Lib.hid (idxM_any (fun t => s.eqB t) l)
  have HA := Lib.hid ha
  obtain ⟨A, c, rfl, h1, h2, h3⟩ := h
  clear ha
  generalize idxM (fun t => s.eqB t) l = i at *
  go_enter Tryd.func90, Tryd.ntmps90
  go_wp2_with fail
  refine HX.out.mono ?_
  rintro e w1 ⟨rfl, hb1⟩
  go_wp2_with fail
  go_ret
  exact ⟨ret_bool HE.out, HA.out.trans (hb1.mono HA.out.size)⟩
end Go.Proofs.YtjkbfogjfgnhiaaDoor
