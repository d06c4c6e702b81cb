/-
  Writes in a row, some of them left out where the word is there already; the walk of reserve.
-/
import Derived.Test.YtiholfpcndjliaaDoorPgf
namespace Go.Proofs.YtiholfpcndjliaaDoor
set_option linter.unusedVariables false
set_option linter.unusedSimpArgs false
open Go.RowKit

/-- A write, left out (c) where the word is v already. -/
structure Wr where
  c : Bool
  a : Nat
  v : Nat
def stepC (s : St) (x : Wr) : St × Int := if x.c = true ∧ s.ws.getD x.a 0 = x.v then (s, 0) else (wrS s (x.a : Int) x.v, wrE s (x.a : Int))
/-- Writes in a row, up to the first that fails. -/
def runC (s : St) : List Wr → St × Int
  | [] => (s, 0)
  | x :: l => if (stepC s x).2 = 0 then runC (stepC s x).1 l else stepC s x
theorem runC_append (s : St) (l m : List Wr) : runC s (l ++ m) = if (runC s l).2 = 0 then runC (runC s l).1 m else runC s l := by
  induction l generalizing s with
  | nil => simp [runC]
  | cons x l ih =>
    simp only [List.cons_append, runC]
    split
    · exact ih _
    · rename_i h; first | rfl | rw [if_neg h]
theorem runC_snoc (s : St) (l : List Wr) (x : Wr) (h : (runC s l).2 = 0) : runC s (l ++ [x]) = if (stepC (runC s l).1 x).2 = 0 then ((stepC (runC s l).1 x).1, 0) else stepC (runC s l).1 x := by
  rw [runC_append, if_pos h]; rfl
theorem runC_next (s : St) (l : List Wr) (x : Wr) (h : (runC s l).2 = 0) (h2 : (stepC (runC s l).1 x).2 = 0) : (runC s (l ++ [x])).1 = (stepC (runC s l).1 x).1 ∧ (runC s (l ++ [x])).2 = 0 := by
  rw [runC_snoc _ _ _ h, if_pos h2]; exact ⟨rfl, rfl⟩
theorem runC_halt (s : St) (l m : List Wr) (x : Wr) (h : (runC s l).2 = 0) (h2 : (stepC (runC s l).1 x).2 ≠ 0) : runC s (l ++ x :: m) = stepC (runC s l).1 x := by
  rw [runC_append, if_pos h]; show (if (stepC _ x).2 = 0 then _ else _) = _; rw [if_neg h2]
theorem wrS_len (s : St) (a : Int) (v : Nat) : (wrS s a v).ws.length = s.ws.length := by
  unfold wrS
  split
  · rcases s.cut with _ | k
    · simp [putS]
    · rcases k with _ | k <;> simp [putS]
  · rfl
theorem wrS_on (s : St) (a : Int) (v : Nat) (h : wrE s a = 0) : (wrS s a v).on = s.on := by
  unfold wrE at h
  unfold wrS
  split
  · rename_i h0
    rw [if_pos h0] at h
    rcases hc : s.cut with _ | k
    · rfl
    · rcases k with _ | k
      · rw [hc, if_pos rfl] at h; omega
      · rfl
  · rfl
theorem stepC_len (s : St) (x : Wr) : (stepC s x).1.ws.length = s.ws.length := by
  unfold stepC; split
  · rfl
  · exact wrS_len ..
theorem stepC_on (s : St) (x : Wr) (h : (stepC s x).2 = 0) : (stepC s x).1.on = s.on := by
  unfold stepC at h ⊢; split
  · rfl
  · rename_i h0; rw [if_neg h0] at h; exact wrS_on _ _ _ h
theorem runC_len (s : St) (l : List Wr) : (runC s l).1.ws.length = s.ws.length := by
  induction l generalizing s with
  | nil => rfl
  | cons x l ih => unfold runC; split; rw [ih, stepC_len]; exact stepC_len ..
theorem runC_on (s : St) (l : List Wr) (h : (runC s l).2 = 0) : (runC s l).1.on = s.on := by
  induction l generalizing s with
  | nil => rfl
  | cons x l ih =>
    unfold runC at h ⊢
    split
    · rename_i h0; rw [if_pos h0] at h; rw [ih _ h, stepC_on _ _ h0]
    · rename_i h0; rw [if_neg h0] at h; exact absurd h h0
theorem Fine.stepC {s : St} {N : Nat} (h : Fine s N) (x : Wr) (hx : x.v < 4294967296) : Fine (stepC s x).1 (N + 1) := by
  unfold YtiholfpcndjliaaDoor.stepC; split
  · exact h.more (by omega)
  · exact h.write _ _ hx
theorem Fine.runC {s : St} {N : Nat} (h : Fine s N) (l : List Wr) (hl : ∀ x ∈ l, x.v < 4294967296) : Fine (runC s l).1 (N + l.length) := by
  induction l generalizing s N with
  | nil => exact h
  | cons x l ih =>
    unfold YtiholfpcndjliaaDoor.runC
    split
    · have := ih (h.stepC x (hl x (by simp))) (fun y hy => hl y (by simp [hy]))
      exact this.more (by simp; omega)
    · exact (h.stepC x (hl x (by simp))).more (by simp)

/-- The three writes of reserve. -/
def resD (t k : Nat) : Nat := if k = 2 then t else 0
def resL (f t k : Nat) : List Wr := (List.range k).map fun j => ⟨true, f * 19 + j, encW (resD t j)⟩
theorem resL_succ (f t k : Nat) : resL f t (k + 1) = resL f t k ++ [⟨true, f * 19 + k, encW (resD t k)⟩] := by simp [resL, List.range_succ]
theorem resL_split (f t k : Nat) (hk : k < 3) : ∃ m, resL f t 3 = resL f t k ++ ⟨true, f * 19 + k, encW (resD t k)⟩ :: m := by
  have h3 : k = 0 ∨ k = 1 ∨ k = 2 := by omega
  rcases h3 with rfl | rfl | rfl
  · exact ⟨_, rfl⟩
  · exact ⟨_, rfl⟩
  · exact ⟨_, rfl⟩
theorem resL_lt (f t k : Nat) : ∀ x ∈ resL f t k, x.v < 4294967296 := by
  intro x hx
  obtain ⟨j, _, rfl⟩ := List.mem_map.1 hx
  exact encW_lt _
theorem resL_len (f t k : Nat) : (resL f t k).length = k := by simp [resL]
theorem resD_lt (t k : Nat) (ht : t < 16777216) : resD t k < 16777216 := by unfold resD; split <;> omega
set_option maxRecDepth 1000000 in
theorem idx_res (t k : Nat) (hk : k < 3) (w : World) : (Instr.index 144 (.agg #[.int .i64 0, .int .i64 0, .int .i64 (t : Int)]) (.int .i64 (k : Int))).run Tryd.prog w = .ok (.int .i64 (resD t k : Int)) w := by
  match k, hk with
  | 0, _ | 1, _ | 2, _ => rfl
  | n + 3, h => exact absurd h (by omega)

section
variable {w w' : World} {X : Nat → Prop} {pb b g gf gh lf : Nat} {s : St} {d : PD} {fx : Int}
/-- What a call that writes leaves. -/
def RunR (X : Nat → Prop) (pb b g gf gh : Nat) (d : PD) (fx : Int) (r : St × Int) (w : World) (e : Ending) (w' : World) : Prop :=
  ∃ lf', e = .returned (.int .i64 r.2) ∧ PM w' X pb b g gf gh r.1 lf' d fx ∧ KX X w w'
set_option maxRecDepth 100000 in
set_option maxHeartbeats 1600000 in
theorem reserve_any {N : Nat} (h : PM w X pb b g gf gh s lf d fx) (hF : Fine s N) (hN : N + 3 < 1000000) (hon : s.on = true) (f t : Nat) (hf : f * 19 + 19 ≤ s.ws.length) (ht : t < 16777216) :
    Calls Tryd.prog 78 #[.pointer (some ⟨pb, 0, none⟩), .int .i64 (f : Int), .int .i64 (t : Int)] w (RunR X pb b g gf gh d fx (runC s (resL f t 3)) w) := by
  have hlen := h.ma.n2
  have HF := Lib.hid hF
  have HON := Lib.hid hon
  have HPM0 := Lib.hid h
  have q1 : (t : Int) / 16777216 = 0 := by omega
  have q2 : (t : Int) % 16777216 = (t : Int) := by omega
  clear h hF hon
  go_enter Tryd.func78, Tryd.ntmps78
  go_wp2_with fail
  clear q1 q2
  go_loopw [18] (fun i wr => ∃ (k lf' : Nat), k ≤ 3 ∧ i = .int .i64 (k : Int) ∧ (runC s (resL f t k)).2 = 0 ∧ PM wr X pb b g gf gh (runC s (resL f t k)).1 lf' d fx ∧ KX X w wr) (fun i _ => 3 - (intOf i).toNat)
  case atStart => exact ⟨0, lf, by omega, rfl, rfl, HPM0.out, KX.refl ..⟩
  case round =>
    obtain ⟨k, lf', hk, rfl, hz, hpm, hkx⟩ := hrel
    by_cases h3 : k < 3
    · have hix := idx_res t k h3
      have hd := resD_lt t k ht
      have HNX := Lib.hid (runC_next s (resL f t k) ⟨true, f * 19 + k, encW (resD t k)⟩ hz)
      have HHT := Lib.hid (fun m => runC_halt s (resL f t k) m ⟨true, f * 19 + k, encW (resD t k)⟩ hz)
      have HSP := Lib.hid (resL_split f t k h3)
      have hfine := HF.out.runC (resL f t k) (resL_lt f t k)
      rw [resL_len] at hfine
      have hlk : (runC s (resL f t k)).1.ws.length = s.ws.length := runC_len ..
      have honk : (runC s (resL f t k)).1.on = true := by rw [runC_on _ _ hz, HON.out]
      have HSU := Lib.hid (resL_succ f t k)
      rw [← HSU.out] at HNX
      obtain ⟨u, hu⟩ : ∃ u, (runC s (resL f t k)).1 = u := ⟨_, rfl⟩
      rw [hu] at HNX HHT hpm hfine hlk honk
      have HSC : Hid (stepC u ⟨true, f * 19 + k, encW (resD t k)⟩ = if u.ws.getD (f * 19 + k) 0 = encW (resD t k) then (u, 0) else (wrS u ((f * 19 + k : Nat) : Int) (encW (resD t k)), wrE u ((f * 19 + k : Nat) : Int))) := by
        show _ = _
        unfold stepC
        simp only [true_and]
      have HCW := Lib.hid (pcode_any (resD t k) wr hd hpm.tb)
      have he := encW_lt (resD t k)
      have he : encW (resD t k) < 4294967296 := he
      have HRD := Lib.hid (fun n z hz => read_in (hpm.drewN n).ma honk z (f * 19 + k) hz (by omega))
      have HWR := Lib.hid (fun n => write_any (hpm.drewN n).ma hfine (by omega) ((f * 19 + k : Nat) : Int) (encW (resD t k)) (by omega) he)
      have c0 := cell_of_row _ _ 0 _ _ _ hpm.pg.row
      unfold prow at c0
      have HPM := Lib.hid hpm
      have HKX := Lib.hid hkx
      have HU := Lib.hid hu
      have HZ := Lib.hid hz
      have hxx := hfine.ws (f * 19 + k)
      clear hz hpm hkx hu hfine hlk honk
      generalize encW (resD t k) = v at *
      obtain ⟨x, hx⟩ : ∃ x, u.ws.getD (f * 19 + k) 0 = x := ⟨_, rfl⟩
      rw [hx] at HRD HSC hxx
      clear hx
      generalize resD t k = dd at *
      by_cases hxv : x = v
      · subst hxv
        have HS2 : Hid (stepC u ⟨true, f * 19 + k, x⟩ = (u, 0)) := by show _ = _; rw [HSC.out]; simp
        clear HSC
        go_wp2_with (first
          | (go_at_call 81; refine HCW.out.mono ?_; rintro e _ ⟨rfl, n, rfl⟩)
          | (go_at_call 82; refine (HRD.out _ _ (by omega)).mono ?_; rintro e _ ⟨rfl, rfl⟩))
        go_roundw
        case rel =>
          have h1 := HNX.out (by rw [HS2.out])
          rw [HS2.out] at h1
          exact ⟨k + 1, lf', by omega, by go_num, h1.2, by rw [h1.1]; exact HPM.out.drewN _, HKX.out.trans (KX.drewN _ _)⟩
        case measure => simp [intOf]; omega
      · have HS2 : Hid (stepC u ⟨true, f * 19 + k, v⟩ = (wrS u ((f * 19 + k : Nat) : Int) v, wrE u ((f * 19 + k : Nat) : Int))) := by show _ = _; rw [HSC.out, if_neg hxv]
        clear HSC
        have hb1 : ((x : Int) != (v : Int)) = true := by rw [bne_iff_ne]; omega
        have hb2 : ((x : Int) == (v : Int)) = false := by rw [beq_eq_false_iff_ne]; omega
        clear hxv
        obtain ⟨q, hq⟩ : ∃ q, wrE u ((f * 19 + k : Nat) : Int) = q := ⟨_, rfl⟩
        obtain ⟨y, hy⟩ : ∃ y, wrS u ((f * 19 + k : Nat) : Int) v = y := ⟨_, rfl⟩
        rw [hq, hy] at HWR HS2
        clear hq hy
        have HWR : Hid (∀ n (z : Int), z = ((f * 19 + k : Nat) : Int) → Calls Tryd.prog 80 #[.pointer (some ⟨b, 0, none⟩), .int .i64 z, .int .u32 (v : Int)] (wr.drewN n) fun e w' => e = .returned (.int .i64 q) ∧ (∃ lf', MA w' b g y lf') ∧ Kp b g (wr.drewN n) w') := fun n z hz => by subst hz; exact HWR.out n
        by_cases hq0 : q = 0
        · subst hq0
          go_wp2_with (first
            | (go_at_call 81; refine HCW.out.mono ?_; rintro e _ ⟨rfl, n, rfl⟩)
            | (go_at_call 82; refine (HRD.out _ _ (by omega)).mono ?_; rintro e _ ⟨rfl, rfl⟩)
            | (go_at_call 80; refine (HWR.out _ _ (by omega)).mono ?_; rintro e w2 ⟨rfl, hm2, hk2⟩))
          obtain ⟨lf2, hm2⟩ := hm2
          go_roundw
          case rel =>
            have h1 := HNX.out (by rw [HS2.out])
            rw [HS2.out] at h1
            exact ⟨k + 1, lf2, by omega, by go_num, h1.2, by rw [h1.1]; exact (HPM.out.drewN n).mem hm2 hk2, (HKX.out.trans (KX.drewN _ n)).trans (KX.of_kp hk2 HPM.out.x2 HPM.out.x3)⟩
          case measure => simp [intOf]; omega
        · have hqb : (q != 0) = true := by rw [bne_iff_ne]; exact hq0
          have hqe : (q == 0) = false := by rw [beq_eq_false_iff_ne]; exact hq0
          have HQ0 := Lib.hid hq0
          clear hq0
          go_wp2_with (first
            | (go_at_call 81; refine HCW.out.mono ?_; rintro e _ ⟨rfl, n, rfl⟩)
            | (go_at_call 82; refine (HRD.out _ _ (by omega)).mono ?_; rintro e _ ⟨rfl, rfl⟩)
            | (go_at_call 80; refine (HWR.out _ _ (by omega)).mono ?_; rintro e w2 ⟨rfl, hm2, hk2⟩))
          obtain ⟨lf2, hm2⟩ := hm2
          go_ret
          obtain ⟨m, hm⟩ := HSP.out
          have h1 := HHT.out m (by rw [HS2.out]; exact HQ0.out)
          rw [← hm, HS2.out] at h1
          exact ⟨lf2, by rw [h1]; rfl, by rw [h1]; exact (HPM.out.drewN n).mem hm2 hk2, (HKX.out.trans (KX.drewN _ n)).trans (KX.of_kp hk2 HPM.out.x2 HPM.out.x3)⟩
    · obtain rfl : k = 3 := by omega
      go_wp2
      go_ret
      exact ⟨lf', by rw [hz]; rfl, hpm, hkx⟩
end
end Go.Proofs.YtiholfpcndjliaaDoor
