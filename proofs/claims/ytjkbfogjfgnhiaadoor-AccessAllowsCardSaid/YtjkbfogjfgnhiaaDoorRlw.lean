/-
  The walk of the reference's Allowed, and of the law AccessAllows.
-/
import Derived.Test.YtjkbfogjfgnhiaaDoorAlw
namespace Go.Proofs.YtjkbfogjfgnhiaaDoor
set_option linter.unusedVariables false
set_option linter.unusedSimpArgs false
open Go.RowKit

/-- Whether op is one of the first j bits. -/
def onesU : Nat → Int → Bool
  | 0, _ => false
  | j + 1, op => onesU j op || decide (op = 2 ^ j)
theorem ones_all (op : Int) : onesU 8 op = oneB op := by
  simp only [onesU, oneB]
  rfl
theorem any_drop (f : Rl → Bool) (rs : List Rl) (k : Nat) (h : k < rs.length) : (rs.drop k).any f = (f rs[k] || (rs.drop (k + 1)).any f) := by rw [List.drop_eq_getElem_cons h]; rfl
theorem pow_step (j : Nat) (h : j ≤ 8) : ∃ P : Int, (2 : Int) ^ j = P ∧ (2 : Int) ^ (j + 1) = 2 * P ∧ 1 ≤ P ∧ P ≤ 256 ∧ (j < 8 → P ≤ 128) ∧ (8 ≤ j → 128 < P) := by
  match j, h with
  | 0, _ | 1, _ | 2, _ | 3, _ | 4, _ | 5, _ | 6, _ | 7, _ | 8, _ => exact ⟨_, rfl, rfl, by decide, by decide, by decide, by decide⟩
  | n + 9, h => exact absurd h (by omega)

set_option maxRecDepth 100000 in
set_option maxHeartbeats 6400000 in
theorem ralw_any (rs : List Rl) (op : Int) (s : Sc) (v : Value) (w : World) (hk : RL w w.heap.size v rs) (hc : ∀ (k : Nat) (h : k < rs.length), rs[k].cond.cnt ≤ 400) :
    Calls Tryd.prog 25 #[v, .int .i64 op, .agg #[.int .i64 s.pins, .int .i64 s.keys, .int .i64 s.state, .int .i64 s.level]] w fun e w' => e = .returned (.bool (alwB rs op s)) ∧ Below w.heap.size w w' := by
  have ha := alloc_below w s.row
  have HN0 := Lib.hid (heap_alloc_new w s.row)
  have HS0 := Lib.hid (alloc_size w s.row)
  have HQ := Lib.hid (rchr_any rs v _ (hk.on ha) hc)
  have HB0 : Hid (alwB rs op s = (oneB op && decide (chkR rs = 0) && rs.any (alwF op s))) := rfl
  have HG := Lib.hid (@chkR_get rs)
  have HA := Lib.hid ha
  obtain ⟨A, cap, rfl, h1, h2, h3⟩ := id hk
  unfold maxLen at h2
  clear ha hk hc
  go_enter Tryd.func25, Tryd.ntmps25
  go_wp2_with fail
  go_loop [7, 8] (fun sg b => ∃ j : Nat, j ≤ 8 ∧ b = .int .i64 (2 ^ j) ∧ sg = .bool (onesU j op)) (fun _ b => (256 - intOf b).toNat)
  case atStart => exact ⟨0, by omega, rfl, rfl⟩
  case round =>
    obtain ⟨j, hj, rfl, rfl⟩ := hrel
    obtain ⟨P, hP, hP2, h1P, h2P, h3P, h4P⟩ := pow_step j hj
    have HP := Lib.hid hP
    have HP2 := Lib.hid hP2
    by_cases hj8 : j < 8
    · have hle := h3P hj8
      have hon : onesU (j + 1) op = (onesU j op || decide (op = 2 ^ j)) := rfl
      rw [hP] at hon ⊢
      have HON := Lib.hid hon
      clear hP hP2 h3P h4P hon
      generalize onesU j op = X at *
      cases X with
      | true =>
        go_wp2_with fail
        go_round
        case rel => exact ⟨j + 1, by omega, by rw [HP2.out], by rw [HON.out, Bool.true_or]⟩
        case measure => simp [intOf]; omega
      | false =>
        by_cases he : op = P
        · subst he
          go_wp2_with fail
          go_round
          case rel => exact ⟨j + 1, by omega, by rw [HP2.out], by rw [HON.out]; simp⟩
          case measure => simp [intOf]; omega
        · have he1 : (op == P) = false := by simpa using he
          have he2 : decide (op = P) = false := decide_eq_false he
          go_wp2_with fail
          go_round
          case rel => exact ⟨j + 1, by omega, by rw [HP2.out], by rw [HON.out, he2]; rfl⟩
          case measure => simp [intOf]; omega
    · have hgt := h4P (by omega)
      have hon : onesU j op = oneB op := by rw [show j = 8 by omega]; exact ones_all op
      rw [hP, hon]
      clear hP hP2 h3P h4P hon HP HP2
      have hOB := @one_range op
      have HBIT := Lib.hid hOB
      clear hOB
      generalize hO : oneB op = O at *
      have HO := Lib.hid hO
      clear hO
      cases O with
      | false =>
        have HR : Hid (alwB rs op s = false) := by show _ = _; rw [HB0.out, Bool.false_and, Bool.false_and]
        go_wp2_with fail
        go_ret
        exact ⟨ret_bool HR.out.symm, HA.out⟩
      | true =>
        generalize hE : chkR rs = E at *
        have HEE := Lib.hid hE
        clear hE
        by_cases h0 : E = 0
        · subst h0
          have HR : Hid (alwB rs op s = rs.any (alwF op s)) := by show _ = _; rw [HB0.out]; simp
          have HOK := Lib.hid (HG.out (by first | exact trivial | rfl))
          go_wp2_with fail
          refine HQ.out.mono ?_
          rintro e w1 ⟨rfl, hb1⟩
          have HB1 := Lib.hid hb1
          have k0 := (hb1.block w.heap.size (by rw [HS0.out]; omega)).trans HN0.out
          have K0 := Lib.hid k0
          have hl1 : w.heap.size < w1.heap.size := by have := hb1.size; rw [HS0.out] at this; omega
          clear hb1 k0
          go_wp2_with fail
          go_loopw [9] (fun i wr => ∃ (k : Nat), k ≤ rs.length ∧ i = .int .i64 k ∧ Hid (rs.any (alwF op s) = (rs.drop k).any (alwF op s)) ∧ Hid (Below w1.heap.size w1 wr)) (fun i _ => rs.length - (intOf i).toNat)
          case atStart => exact ⟨0, Nat.zero_le _, rfl, rfl, Below.refl _ _⟩
          case round =>
            obtain ⟨k, hkl, rfl, HS, HB⟩ := hrel
            have HBW := Lib.hid (HA.out.trans (HB1.out.trans (HB.out.mono HB1.out.size) |>.mono HA.out.size))
            by_cases hlt : k < rs.length
            · obtain ⟨b1, o1, rfl, hb1, hts⟩ := h3.out (by omega)
              have hra := (hts k hlt).keep hb1 HBW.out.size (fun p hp => HBW.out.cell hp)
              have hdr := any_drop (alwF op s) rs k hlt
              have hok := HOK.out k hlt
              obtain ⟨r, hr⟩ : ∃ r, r = rs[k] := ⟨_, rfl⟩
              rw [← hr] at hra hdr hok
              clear hts hr
              obtain ⟨ops, c⟩ := r
              obtain ⟨g0, hca⟩ := hra
              obtain ⟨A2, c2, g1, g2, g3, hu⟩ := hca.cells
              simp only at g0 g1 g2 g3 hu hdr hok
              have kk := (HB.out.block w.heap.size hl1).trans K0.out
              have s0 := cell_of_row _ _ 0 _ _ _ kk
              have s1 := cell_of_row _ _ 1 _ _ _ kk
              have s2 := cell_of_row _ _ 2 _ _ _ kk
              have s3 := cell_of_row _ _ 3 _ _ _ kk
              have hsr := HB.out.size
              have HHS := Lib.hid fun W => has_any ops op W
              have HHQ : Hid (∀ W, Calls Tryd.prog 47 #[.int .i64 ops, .int .i64 op] W fun e w' => e = .returned (.bool (lvB ops op)) ∧ w' = W) := fun W => (has_any ops op W).mono fun _ _ ⟨h1, h2⟩ => ⟨h1, h2.symm⟩
              have HV : Hid (∀ W, Below wr.heap.size wr W → Calls Tryd.prog 44 #[.agg #[.int .i64 c.op, .int .i64 c.n, .slice A2 c.kids.length c2], .agg #[.int .i64 s.pins, .int .i64 s.keys, .int .i64 s.state, .int .i64 s.level]] W fun e w' => e = .returned (.bool (c.sat s)) ∧ Below W.heap.size W w') := fun W hW => rs_any (c.dep + 1) c (by omega) s _ W hok (hu.on hW)
              have hbd := Lib.hid ((Below.refl wr.heap.size wr).drew)
              have HDR : Hid ((rs.drop k).any (alwF op s) = (lvB ops op && c.sat s || (rs.drop (k + 1)).any (alwF op s))) := hdr
              have i1 : (0 : Int) ≤ (k : Int) := by omega
              have i2 : (k : Int) < (rs.length : Int) := by omega
              have hbb : b1 < wr.heap.size := Nat.lt_of_lt_of_le hb1 HBW.out.size
              have hll : w.heap.size < wr.heap.size := by omega
              clear hca hu hdr hok kk
              generalize lvB ops op = Y at *
              generalize c.sat s = Z at *
              cases Y with
              | false =>
                go_wp2_with fail
                go_quiet ((go_at_call 47; exact Calls.quiet_of_same (HHQ.out _)))
                go_wp2_with fail
                go_roundw
                case rel => exact ⟨k + 1, by omega, by go_num, by show _ = _; rw [HS.out, HDR.out, Bool.false_and, Bool.false_or], below_drewN HB.out _⟩
                case measure => simp [intOf]; omega
              | true =>
                cases Z with
                | false =>
                  go_wp2_with fail
                  go_region_held3 (fun w' => w'.cell? ⟨b1, o1 + k * 4, none⟩ = some (.int .i64 ops) ∧ w'.cell? ⟨b1, o1 + k * 4 + 1, none⟩ = some (.int .i64 c.op) ∧ w'.cell? ⟨b1, o1 + k * 4 + 1 + 1, none⟩ = some (.int .i64 c.n) ∧ w'.cell? ⟨b1, o1 + k * 4 + 1 + 2, none⟩ = some (.slice A2 c.kids.length c2) ∧ w'.cell? ⟨w.heap.size, 0, none⟩ = some (.int .i64 s.pins) ∧ w'.cell? ⟨w.heap.size, 1, none⟩ = some (.int .i64 s.keys) ∧ w'.cell? ⟨w.heap.size, 2, none⟩ = some (.int .i64 s.state) ∧ w'.cell? ⟨w.heap.size, 3, none⟩ = some (.int .i64 s.level))
                    (first
                    | (go_keep; done)
                    | exact ⟨(hbx.cell (p := ⟨b1, o1 + k * 4, none⟩) hbb).trans g0, (hbx.cell (p := ⟨b1, o1 + k * 4 + 1, none⟩) hbb).trans g1, (hbx.cell (p := ⟨b1, o1 + k * 4 + 1 + 1, none⟩) hbb).trans g2, (hbx.cell (p := ⟨b1, o1 + k * 4 + 1 + 2, none⟩) hbb).trans g3, (hbx.cell (p := ⟨w.heap.size, 0, none⟩) hll).trans s0, (hbx.cell (p := ⟨w.heap.size, 1, none⟩) hll).trans s1, (hbx.cell (p := ⟨w.heap.size, 2, none⟩) hll).trans s2, (hbx.cell (p := ⟨w.heap.size, 3, none⟩) hll).trans s3⟩)
                    (first
                    | (go_at_call 47; (with_reducible refine (HHS.out _).mono ?_); rintro e wx ⟨rfl, rfl⟩)
                    | (go_at_call 44; (with_reducible refine (HV.out _ hbd.out).mono ?_); rintro e wx ⟨rfl, hbx⟩))
                  go_wp2_with fail
                  go_roundw
                  case rel => exact ⟨k + 1, by omega, by go_num, by show _ = _; rw [HS.out, HDR.out, Bool.true_and, Bool.false_or], HB.out.trans ((hbd.out.trans hbx).mono hsr)⟩
                  case measure => simp [intOf]; omega
                | true =>
                  go_wp2_with fail
                  go_region_held3 (fun w' => w'.cell? ⟨b1, o1 + k * 4, none⟩ = some (.int .i64 ops) ∧ w'.cell? ⟨b1, o1 + k * 4 + 1, none⟩ = some (.int .i64 c.op) ∧ w'.cell? ⟨b1, o1 + k * 4 + 1 + 1, none⟩ = some (.int .i64 c.n) ∧ w'.cell? ⟨b1, o1 + k * 4 + 1 + 2, none⟩ = some (.slice A2 c.kids.length c2) ∧ w'.cell? ⟨w.heap.size, 0, none⟩ = some (.int .i64 s.pins) ∧ w'.cell? ⟨w.heap.size, 1, none⟩ = some (.int .i64 s.keys) ∧ w'.cell? ⟨w.heap.size, 2, none⟩ = some (.int .i64 s.state) ∧ w'.cell? ⟨w.heap.size, 3, none⟩ = some (.int .i64 s.level))
                    (first
                    | (go_keep; done)
                    | exact ⟨(hbx.cell (p := ⟨b1, o1 + k * 4, none⟩) hbb).trans g0, (hbx.cell (p := ⟨b1, o1 + k * 4 + 1, none⟩) hbb).trans g1, (hbx.cell (p := ⟨b1, o1 + k * 4 + 1 + 1, none⟩) hbb).trans g2, (hbx.cell (p := ⟨b1, o1 + k * 4 + 1 + 2, none⟩) hbb).trans g3, (hbx.cell (p := ⟨w.heap.size, 0, none⟩) hll).trans s0, (hbx.cell (p := ⟨w.heap.size, 1, none⟩) hll).trans s1, (hbx.cell (p := ⟨w.heap.size, 2, none⟩) hll).trans s2, (hbx.cell (p := ⟨w.heap.size, 3, none⟩) hll).trans s3⟩)
                    (first
                    | (go_at_call 47; (with_reducible refine (HHS.out _).mono ?_); rintro e wx ⟨rfl, rfl⟩)
                    | (go_at_call 44; (with_reducible refine (HV.out _ hbd.out).mono ?_); rintro e wx ⟨rfl, hbx⟩))
                  go_wp2_with fail
                  go_ret
                  exact ⟨ret_bool (by rw [HR.out, HS.out, HDR.out, Bool.true_and, Bool.true_or]), HBW.out.trans ((hbd.out.trans hbx).mono HBW.out.size)⟩
            · have HR2 : Hid (alwB rs op s = false) := by show _ = _; rw [HR.out, HS.out, show k = rs.length by omega, List.drop_length]; rfl
              go_wp2_with fail
              go_ret
              exact ⟨ret_bool HR2.out.symm, HBW.out⟩
        · have HR : Hid (alwB rs op s = false) := by show _ = _; rw [HB0.out]; simp [h0]
          have he1 : (E != 0) = true := by simpa using h0
          have he2 : (E == 0) = false := by simpa using h0
          have he3 : decide (E = 0) = false := decide_eq_false h0
          go_wp2_with fail
          refine HQ.out.mono ?_
          rintro e w1 ⟨rfl, hb1⟩
          go_wp2_with fail
          go_ret
          exact ⟨ret_bool HR.out.symm, HA.out.trans (hb1.mono HA.out.size)⟩
end Go.Proofs.YtjkbfogjfgnhiaaDoor
