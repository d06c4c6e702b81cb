/-
  The walk of seen.
-/
import Derived.Test.YtcojoohbhkhlnaaCeu
namespace Go.Proofs.Ytcojoohbhkhlnaa
set_option linter.unusedVariables false
set_option linter.unusedSimpArgs false
open Go.RowKit

set_option maxRecDepth 100000 in
set_option maxHeartbeats 3200000 in
theorem seen_any {w : World} {X : Nat → Prop} {b g lf : Nat} {s : St} {v1 v2 : Value} (hm : MA w b g s lf) (h : RV w X s v1 v2) :
    Calls Try.prog 11 #[.pointer (some ⟨b, 0, none⟩), .agg (rrow v1 v2 s)] w fun e w' => e = .returned (.bool true) ∧ Below w.heap.size w w' := by
  obtain ⟨g1, c1, rfl, h11, h12, _, h13, h14⟩ := h.ws
  obtain ⟨g2, c2, rfl, h21, h22, _, h23, h24⟩ := h.we
  unfold maxLen at h12 h22
  have n2 := hm.n2
  have hwl : Hid (s.wear.length = s.ws.length) := hm.wl
  have hw1 : 0 ≤ s.ws.length := Nat.zero_le _
  have HB1 := Lib.hid (alloc_below w (.cells #[.slice (some ⟨g1, 0, none⟩) s.ws.length c1, .slice (some ⟨g2, 0, none⟩) s.wear.length c2, .int .i64 (s.en : Int), .int .i64 (s.wr : Int), .int .i64 (s.cu : Int), .bool s.on, .int .i64 (cutI s)] 29))
  have RA := Lib.hid (heap_alloc_new w (.cells #[.slice (some ⟨g1, 0, none⟩) s.ws.length c1, .slice (some ⟨g2, 0, none⟩) s.wear.length c2, .int .i64 (s.en : Int), .int .i64 (s.wr : Int), .int .i64 (s.cu : Int), .bool s.on, .int .i64 (cutI s)] 29))
  have HM := Lib.hid hm
  have H14 := Lib.hid h14
  have H24 := Lib.hid h24
  clear h hm h14 h24
  unfold rrow
  go_enter Try.func11, Try.ntmps11
  go_wp2_with fail
  generalize w.alloc (.cells #[.slice (some ⟨g1, 0, none⟩) s.ws.length c1, .slice (some ⟨g2, 0, none⟩) s.wear.length c2, .int .i64 (s.en : Int), .int .i64 (s.wr : Int), .int .i64 (s.cu : Int), .bool s.on, .int .i64 (cutI s)] 29) = w1 at *
  have hltA : w.heap.size < w1.heap.size := (Array.getElem?_eq_some_iff.1 RA.out).1
  refine (image_any (HM.out.on HB1.out)).mono ?_
  rintro e w2 ⟨ga, rfl, how, hb2⟩
  have HM2 := Lib.hid ((HM.out.on HB1.out).on hb2)
  have HB2 := Lib.hid (HB1.out.trans (hb2.mono HB1.out.size))
  have HOW := Lib.hid (fun k hk => how.cellAt k hk)
  have ra := (hb2.block w.heap.size hltA).trans RA.out
  have x0 := cell_of_row _ _ 0 _ _ _ ra
  have x1 := cell_of_row _ _ 1 _ _ _ ra
  have x2 := cell_of_row _ _ 2 _ _ _ ra
  have x3 := cell_of_row _ _ 3 _ _ _ ra
  have x4 := cell_of_row _ _ 4 _ _ _ ra
  have x5 := cell_of_row _ _ 5 _ _ _ ra
  have x6 := cell_of_row _ _ 6 _ _ _ ra
  have HQ1 : Hid (∀ k, Calls Try.prog 24 #[.pointer (some ⟨b, 0, none⟩)] (w2.drewN k) fun e w' => e = .returned (.int .i64 (s.ws.length : Int)) ∧ w' = w2.drewN k) := fun k => words_any (HM2.out.drewN k)
  have HQ2 : Hid (∀ k, Calls Try.prog 16 #[.pointer (some ⟨b, 0, none⟩)] (w2.drewN k) fun e w' => e = .returned (.bool s.on) ∧ w' = w2.drewN k) := fun k => power_any (HM2.out.drewN k)
  have HQ3 : Hid (∀ k, Calls Try.prog 17 #[.pointer (some ⟨b, 0, none⟩)] (w2.drewN k) fun e w' => e = .returned (.int .i64 (s.wr : Int)) ∧ w' = w2.drewN k) := fun k => writes_any (HM2.out.drewN k)
  have HQ4 : Hid (∀ k, Calls Try.prog 18 #[.pointer (some ⟨b, 0, none⟩)] (w2.drewN k) fun e w' => e = .returned (.int .i64 (s.cu : Int)) ∧ w' = w2.drewN k) := fun k => cuts_any (HM2.out.drewN k)
  clear how hb2 ra
  go_wp2_with fail
  go_quiet ((first
    | (go_at_call 24; exact Calls.quiet_of_same (HQ1.out _))
    | (go_at_call 16; exact Calls.quiet_of_same (HQ2.out _))
    | (go_at_call 17; exact Calls.quiet_of_same (HQ3.out _))
    | (go_at_call 18; exact Calls.quiet_of_same (HQ4.out _))))
  rename_i nq
  go_wp2_with fail
  go_loopw [6] (fun i wx => ∃ k : Nat, k ≤ s.ws.length ∧ i = .int .i64 k ∧ ∃ m, wx = w2.drewN m) (fun i _ => s.ws.length - (intOf i).toNat)
  case atStart => exact ⟨0, Nat.zero_le _, rfl, nq, by first | rfl | trivial⟩
  case round =>
    obtain ⟨k, hk, rfl, m, rfl⟩ := hrel
    by_cases h3 : k < s.ws.length
    · have a0 := HOW.out k h3
      have a1 := (HB2.out.cell (p := ⟨g1, k, none⟩) h13).trans (H14.out k h3)
      have hk2 : k < s.wear.length := by rw [hwl.out]; exact h3
      have a2 := (HB2.out.cell (p := ⟨g2, k, none⟩) h23).trans (H24.out k hk2)
      have i1 : (k : Int) < (s.ws.length : Int) := by omega
      have i2 : (k : Int) < (s.wear.length : Int) := by omega
      have i3 : (0 : Int) ≤ (k : Int) := by omega
      have HE : Hid (∀ j, Calls Try.prog 22 #[.pointer (some ⟨b, 0, none⟩), .int .i64 (k : Int)] ((w2.drewN m).drewN j) fun e w' => e = .returned (.int .i64 ((s.wear.getD k 0 : Nat) : Int)) ∧ w' = (w2.drewN m).drewN j) := fun j => by
        have := wear_any ((HM2.out.drewN m).drewN j) (k : Int) (by omega)
        have e : weV s (k : Int) = ((s.wear.getD k 0 : Nat) : Int) := by unfold weV; rw [if_pos ⟨i3, i1⟩, Int.toNat_natCast]
        rw [e] at this
        exact this
      generalize s.ws.getD k 0 = x at *
      generalize s.wear.getD k 0 = y at *
      have a0 : (w2.drewN m).cell? ⟨ga, k, none⟩ = some (.int .u32 (x : Int)) := a0
      have a1 : (w2.drewN m).cell? ⟨g1, k, none⟩ = some (.int .u32 (x : Int)) := a1
      have a2 : (w2.drewN m).cell? ⟨g2, k, none⟩ = some (.int .i64 (y : Int)) := a2
      have z0 : (w2.drewN m).cell? ⟨w.heap.size, 0, none⟩ = some (.slice (some ⟨g1, 0, none⟩) s.ws.length c1) := x0
      have z1 : (w2.drewN m).cell? ⟨w.heap.size, 1, none⟩ = some (.slice (some ⟨g2, 0, none⟩) s.wear.length c2) := x1
      obtain ⟨wx, hwx⟩ : ∃ wx, w2.drewN m = wx := ⟨_, rfl⟩
      have HWX := Lib.hid hwx
      rw [hwx] at a0 a1 a2 z0 z1 HE ⊢
      clear hwx
      go_wp2_with fail
      go_quiet ((go_at_call 22; exact Calls.quiet_of_same (HE.out _)))
      go_wp2_with fail
      go_roundw
      case rel => exact ⟨k + 1, by omega, by go_num, by rw [← HWX.out]; first | exact ⟨_, rfl⟩ | (simp only [World.drewN_drewN]; exact ⟨_, rfl⟩)⟩
      case measure => simp [intOf]; omega
    · obtain rfl : k = s.ws.length := by omega
      have HE1 : Hid (Calls Try.prog 22 #[.pointer (some ⟨b, 0, none⟩), .int .i64 (-1)] (w2.drewN m) fun e w' => e = .returned (.int .i64 0) ∧ w' = w2.drewN m) := by
        have := wear_any (HM2.out.drewN m) (-1) (by omega)
        have e : weV s (-1) = 0 := by unfold weV; rw [if_neg (by omega)]
        rw [e] at this
        exact this
      have HE2 : Hid (Calls Try.prog 22 #[.pointer (some ⟨b, 0, none⟩), .int .i64 (s.ws.length : Int)] (w2.drewN m) fun e w' => e = .returned (.int .i64 0) ∧ w' = w2.drewN m) := by
        have := wear_any (HM2.out.drewN m) (s.ws.length : Int) (by omega)
        have e : weV s (s.ws.length : Int) = 0 := by unfold weV; rw [if_neg (by omega)]
        rw [e] at this
        exact this
      go_wp2_with fail
      refine HE1.out.mono ?_
      rintro e w3 ⟨rfl, e⟩
      have e := e.symm
      subst e
      go_wp2_with fail
      refine HE2.out.mono ?_
      rintro e w3 ⟨rfl, e⟩
      have e := e.symm
      subst e
      go_wp2_with fail
      go_ret
      exact ⟨rfl, below_drewN HB2.out m⟩
end Go.Proofs.Ytcojoohbhkhlnaa
