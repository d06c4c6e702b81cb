
/-
  A memory that New has made: the walks of put, Write, Flip.
-/
import Derived.Test.YtiholfpcndjliaaDoorCed
import Derived.Laws.BitsAllLaws
import Derived.StillTailTactics
namespace Go.Proofs.YtiholfpcndjliaaDoor
set_option linter.unusedVariables false
set_option linter.unusedSimpArgs false
open Go.RowKit

/-- What numbers a state holds: counts up to N, the rest as wide as its type. -/
structure Fine (s : St) (N : Nat) : Prop where
  wr : s.wr ≤ N
  cu : s.cu ≤ N
  we : ∀ a, s.wear.getD a 0 ≤ N
  en : s.en < 9223372036854775808
  cut : ∀ k, s.cut = some k → k < 9223372036854775808
  ws : ∀ a, s.ws.getD a 0 < 4294967296

/-- A word written. -/
def putV (s : St) (a v : Nat) : Nat := if s.en < s.wear.getD a 0 + 1 then v ^^^ 2 ^ (a % 32) else v
def putS (s : St) (a v : Nat) : St := { s with wr := s.wr + 1, wear := s.wear.set a (s.wear.getD a 0 + 1), ws := s.ws.set a (putV s a v) }

theorem fail_any {w : World} {b g lf : Nat} {s : St} (h : MA w b g s lf) (hN : s.cu < 1000000) :
    Calls Tryd.prog 95 #[.pointer (some ⟨b, 0, none⟩)] w fun e w' => e = .returned (.tuple #[]) ∧ MA w' b g { s with on := false, cu := s.cu + 1 } lf ∧ Kp b g w w' := by
  have HH := Lib.hid h
  have c3 := cell_of_row _ _ 3 _ _ _ h.row
  have c4 := cell_of_row _ _ 4 _ _ _ h.row
  have f3 := frozen_of_row _ _ 3 _ _ h.row
  have f4 := frozen_of_row _ _ 4 _ _ h.row
  clear h
  unfold mrow at c3 c4
  go_enter Tryd.func95, Tryd.ntmps95
  go_wp2
  go_end0
  have h := HH.out
  have k1 := heap_set_row (i := 4) (u := .bool false) h.row
  have k2 := heap_set_row (i := 3) (u := .int .i64 ((s.cu : Int) + 1)) k1
  exact ⟨rfl, h.upd (by rw [k2]; rfl) (by rw [set_blk (Ne.symm h.ne), set_blk (Ne.symm h.ne)]) (by simp [World.setCell]) rfl rfl h.lfc, ((Kp.refl b g _).set _ _ (.inl rfl)).set _ _ (.inl rfl)⟩

theorem put_any {w : World} {b g lf N : Nat} {s : St} (h : MA w b g s lf) (hF : Fine s N) (hN : N < 1000000) (a v : Nat) (ha : a < s.ws.length) (hv : v < 4294967296) :
    Calls Tryd.prog 96 #[.pointer (some ⟨b, 0, none⟩), .int .i64 (a : Int), .int .u32 (v : Int)] w fun e w' => e = .returned (.tuple #[]) ∧ MA w' b g (putS s a v) lf ∧ Kp b g w w' := by
  have HH := Lib.hid h
  have c0 := cell_of_row _ _ 0 _ _ _ h.row
  have c1 := cell_of_row _ _ 1 _ _ _ h.row
  have c2 := cell_of_row _ _ 2 _ _ _ h.row
  have f2 := frozen_of_row _ _ 2 _ _ h.row
  have v0 := h.val a ha
  have v1 := h.wea a ha
  have z0 := h.fz (a * 2)
  have z1 := h.fz (a * 2 + 1)
  have b1 := h.ne
  have b2 := Ne.symm h.ne
  have b3 := h.n2
  have b4 := hF.wr
  have b5 := hF.we a
  have b6 := hF.en
  have HX := u32_flip v (a % 32) hv (by omega)
  have HP : Hid (putS s a v = { s with wr := s.wr + 1, wear := s.wear.set a (s.wear.getD a 0 + 1), ws := s.ws.set a (if s.en < s.wear.getD a 0 + 1 then v ^^^ 2 ^ (a % 32) else v) }) := rfl
  clear h hF
  unfold mrow at c0 c1 c2
  generalize putS s a v = t at *
  generalize s.ws.getD a 0 = x at *
  obtain ⟨r, hr⟩ : ∃ r, s.wear.getD a 0 = r := ⟨_, rfl⟩
  rw [hr] at HP v1 b5
  clear hr
  go_enter Tryd.func96, Tryd.ntmps96
  go_wp2
  go_quiet (fail)
  go_wp2
  all_goals (
    go_end0
    have h := HH.out
    have k1 := heap_set_row (i := 2) (u := .int .i64 ((s.wr : Int) + 1)) h.row
    have m1 : MA (w.setCell ⟨b, 2, none⟩ (.int .i64 ((s.wr : Int) + 1))) b g { s with wr := s.wr + 1 } lf := h.upd (by rw [k1]; rfl) (by rw [set_blk (Ne.symm h.ne)]) (by simp [World.setCell]) rfl rfl h.lfc
    have m2 := (m1.setr (a := a) (r + 1) ((r : Int) + 1) (by simp)).drewN nq
    have hk : Kp b g w (((w.setCell ⟨b, 2, none⟩ (.int .i64 ((s.wr : Int) + 1))).setCell ⟨g, a * 2 + 1, none⟩ (.int .i64 ((r : Int) + 1))).drewN nq) := (((Kp.refl b g _).set _ _ (.inl rfl)).set _ _ (.inr rfl)).trans (Kp.drewN ..)
    refine ⟨rfl, ?_, hk.set _ _ (.inr rfl)⟩
    rw [HP.out])
  · have h5 : s.en < r + 1 := by omega
    rw [if_pos h5]
    exact m2.setw (v ^^^ 2 ^ (a % 32)) _ rfl
  · have h5 : ¬ s.en < r + 1 := by omega
    rw [if_neg h5]
    exact m2.setw v _ rfl

/-- The error of a write, and the state behind it. -/
def wrE (s : St) (a : Int) : Int := if accE s a = 0 then (if s.cut = some 0 then 7 else 0) else accE s a
def wrS (s : St) (a : Int) (v : Nat) : St :=
  if accE s a = 0 then
    match s.cut with
    | some 0 => { s with on := false, cu := s.cu + 1 }
    | some (k + 1) => putS { s with cut := some k } a.toNat v
    | none => putS s a.toNat v
  else s
theorem acc_in {s : St} {a : Int} (hz : accE s a = 0) : s.on = true ∧ 0 ≤ a ∧ a < (s.ws.length : Int) := by
  unfold accE at hz
  by_cases h1 : s.on = false
  · rw [if_pos h1] at hz; omega
  · by_cases h2 : 0 ≤ a ∧ a < (s.ws.length : Int)
    · exact ⟨by simpa using h1, h2⟩
    · rw [if_neg h1, if_neg h2] at hz; omega

theorem write_any {w : World} {b g lf N : Nat} {s : St} (h : MA w b g s lf) (hF : Fine s N) (hN : N < 1000000) (a : Int) (v : Nat) (ha : -9223372036854775808 ≤ a ∧ a < 9223372036854775808) (hv : v < 4294967296) :
    Calls Tryd.prog 80 #[.pointer (some ⟨b, 0, none⟩), .int .i64 a, .int .u32 (v : Int)] w fun e w' => e = .returned (.int .i64 (wrE s a)) ∧ (∃ lf', MA w' b g (wrS s a v) lf') ∧ Kp b g w w' := by
  have HA := access_any h a ha
  have HH := Lib.hid h
  have c5 := cell_of_row _ _ 5 _ _ _ h.row
  have c6 := cell_of_row _ _ 6 _ _ _ h.row
  have f6 := frozen_of_row _ _ 6 _ _ h.row
  unfold mrow at c5 c6
  by_cases hz : accE s a = 0
  · obtain ⟨h1, h2, h3⟩ := acc_in hz
    obtain ⟨k, rfl⟩ : ∃ k : Nat, a = (k : Int) := ⟨a.toNat, by omega⟩
    have HE : Hid (wrE s (k : Int) = if s.cut = some 0 then 7 else 0) := if_pos hz
    have HS : Hid (wrS s (k : Int) v = match s.cut with
        | some 0 => { s with on := false, cu := s.cu + 1 }
        | some (j + 1) => putS { s with cut := some j } k v
        | none => putS s k v) := by
      show _ = _
      unfold wrS
      rw [if_pos hz, Int.toNat_natCast]
    rw [hz] at HA
    have HA := Lib.hid HA
    have hk : k < s.ws.length := by omega
    have HFA := fail_any h (by have := hF.cu; omega)
    have HPN := Lib.hid (put_any h hF hN k v hk hv)
    have HFI := Lib.hid hF
    clear ha h1 h2 h3
    rcases hc : s.cut with _ | j
    · rw [hc] at HE HS c5
      have HE : Hid (wrE s (k : Int) = 0) := HE
      have HS : Hid (wrS s (k : Int) v = putS s k v) := HS
      clear h hF HFA hz
      generalize wrE s (k : Int) = q at *
      generalize wrS s (k : Int) v = t at *
      generalize putS s k v = u at *
      go_enter Tryd.func80, Tryd.ntmps80
      go_wp2_with (first | (go_at_call 94; refine HA.out.mono ?_; rintro e w' ⟨rfl, rfl⟩) | (go_at_call 96; refine HPN.out.mono ?_; rintro e w2 ⟨rfl, hm2, hk2⟩))
      go_ret
      exact ⟨by rw [HE.out]; rfl, ⟨lf, by rw [HS.out]; exact hm2⟩, hk2⟩
    · have hlf := h.lfc j hc
      subst hlf
      have hl := hF.cut _ hc
      rcases lf with _ | j
      · have HE : Hid (wrE s (k : Int) = 7) := by show _ = _; rw [HE.out, hc]; rfl
        have HS : Hid (wrS s (k : Int) v = { s with on := false, cu := s.cu + 1 }) := by show _ = _; rw [HS.out, hc]
        rw [hc] at c5
        have HFA := Lib.hid HFA
        clear h hF hz hl
        generalize wrE s (k : Int) = q at *
        generalize wrS s (k : Int) v = t at *
        go_enter Tryd.func80, Tryd.ntmps80
        go_wp2_with (first | (go_at_call 94; refine HA.out.mono ?_; rintro e w' ⟨rfl, rfl⟩) | (go_at_call 95; refine HFA.out.mono ?_; rintro e w2 ⟨rfl, hm2, hk2⟩))
        go_ret
        exact ⟨by rw [HE.out]; rfl, ⟨0, by rw [HS.out]; exact hm2⟩, hk2⟩
      · have HE : Hid (wrE s (k : Int) = 0) := by show _ = _; rw [HE.out, hc]; simp
        have HS : Hid (wrS s (k : Int) v = putS { s with cut := some j } k v) := by show _ = _; rw [HS.out, hc]
        rw [hc] at c5
        have k1 := heap_set_row (i := 6) (u := .int .i64 (((j + 1 : Nat) : Int) - 1)) h.row
        have m1 : MA (w.setCell ⟨b, 6, none⟩ (.int .i64 (((j + 1 : Nat) : Int) - 1))) b g { s with cut := some j } j :=
          h.upd (by rw [k1]; simp [mrow, hc]) (by rw [set_blk (Ne.symm h.ne)]) (by simp [World.setCell]) rfl rfl (fun i e => by cases e; rfl)
        have hF' : Fine { s with cut := some j } N := ⟨hF.wr, hF.cu, hF.we, hF.en, fun i e => by cases e; omega, hF.ws⟩
        have HP2 := Lib.hid (put_any m1 hF' hN k v hk hv)
        clear h hF hz HPN m1 hF' HFA
        generalize wrE s (k : Int) = q at *
        generalize wrS s (k : Int) v = t at *
        generalize putS { s with cut := some j } k v = u at *
        go_enter Tryd.func80, Tryd.ntmps80
        go_wp2_with (first | (go_at_call 94; refine HA.out.mono ?_; rintro e w' ⟨rfl, rfl⟩) | (go_at_call 96; refine (show Calls _ _ _ _ _ from by simpa using HP2.out).mono ?_; rintro e w2 ⟨rfl, hm2, hk2⟩))
        go_ret
        exact ⟨by rw [HE.out]; rfl, ⟨j, by rw [HS.out]; exact hm2⟩, ((Kp.refl b g _).set _ _ (.inl rfl)).trans hk2⟩
  · have HE : Hid (wrE s a = accE s a) := if_neg hz
    have HS : Hid (wrS s a v = s) := if_neg hz
    have HA := Lib.hid HA
    clear h hF
    generalize accE s a = q at *
    generalize wrE s a = r at *
    generalize wrS s a v = t at *
    go_enter Tryd.func80, Tryd.ntmps80
    go_wp2_with (go_at_call 94; refine HA.out.mono ?_; rintro e w' ⟨rfl, rfl⟩)
    go_ret
    exact ⟨by rw [HE.out]; rfl, ⟨lf, by rw [HS.out]; exact HH.out⟩, Kp.refl ..⟩
end Go.Proofs.YtiholfpcndjliaaDoor
