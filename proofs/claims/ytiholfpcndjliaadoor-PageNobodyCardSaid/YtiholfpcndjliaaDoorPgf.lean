/-
  The walk of earliest, handed what visit returns.
-/
import Derived.Test.YtiholfpcndjliaaDoorPge
namespace Go.Proofs.YtiholfpcndjliaaDoor
set_option linter.unusedVariables false
set_option linter.unusedSimpArgs false
open Go.RowKit

attribute [local go_sem] Oper.semAt_some

/-- The first of the earliest turn among frames, in order. -/
def firstS (fm : Nat → Fr) (a : Int) (f : Nat) : Int := if a = -1 ∨ (fm f).tn < (fm a.toNat).tn then (f : Int) else a
def firstL (fm : Nat → Fr) (l : List Nat) : Int := l.foldl (firstS fm) (-1)
theorem firstL_snoc (fm : Nat → Fr) (l : List Nat) (f : Nat) : firstL fm (l ++ [f]) = firstS fm (firstL fm l) f := by simp [firstL, List.foldl_append]
theorem firstL_filter (sel : Nat → Bool) (fm : Nat → Fr) : ∀ k, firstL fm ((List.range k).filter sel) = firstR sel fm k
  | 0 => rfl
  | k + 1 => by
    rw [List.range_succ, List.filter_append, List.filter_cons]
    cases hs : sel k
    · have e : firstR sel fm (k + 1) = firstR sel fm k := by
        show (if sel k = true ∧ _ then _ else _) = _
        rw [hs, if_neg (by simp)]
      rw [e, ← firstL_filter sel fm k]
      simp
    · have e : firstR sel fm (k + 1) = firstS fm (firstR sel fm k) k := by
        show (if sel k = true ∧ _ then _ else _) = (if _ then _ else _)
        rw [hs]
        simp
      rw [e, ← firstL_filter sel fm k]
      simp only [if_true, List.filter_nil]
      exact firstL_snoc ..
theorem firstL_range (fm : Nat → Fr) (F : Nat) : ∀ l : List Nat, (∀ x ∈ l, x < F) → firstL fm l = -1 ∨ ∃ m : Nat, m < F ∧ firstL fm l = m := by
  intro l
  have key : ∀ (l : List Nat) (a : Int), (∀ x ∈ l, x < F) → (a = -1 ∨ ∃ m : Nat, m < F ∧ a = m) → (l.foldl (firstS fm) a = -1 ∨ ∃ m : Nat, m < F ∧ l.foldl (firstS fm) a = m) := by
    intro l
    induction l with
    | nil => intro a _ h; exact h
    | cons x l ih =>
      intro a hl ha
      refine ih _ (fun y hy => hl y (by simp [hy])) ?_
      unfold firstS
      split
      · exact .inr ⟨x, hl x (by simp), rfl⟩
      · exact ha
  exact fun h => key l (-1) h (.inl rfl)

/-- A region that draws its order and only reads, in a round at the wide fence. -/
theorem region_quiet_in {P : Program} {n lk id : Nat} {Q : Exit → Act → World → Prop} {a : Act} {w : World} {l : List Oper} (hm : P.follows .mixedOrders = true) (hB : Region.lexB .any l.toArray = true)
    (hd : ∀ (j : Nat) (o : Oper), l.toArray[j]? = some o → ∀ c, o.op ≠ .defer c) (hL : ¬ LetsOut Q)
    (h : wpQuiet P l.toArray (fun w' => ∃ n, w' = w.drewN n) (fun a' => ∀ w', (∃ n, w' = w.drewN n) → Q .normal a' w') l a) : (Code.region id l.toArray true).wpIn (Fence.wide.inRound lk) n P Q a w := by
  simp only [Region.lexB, Bool.and_eq_true] at hB
  refine wpIn_region_any hm (wpAny_in hd hL _ _ _ _ (wpAny_of_quiet (C := fun w' => ∃ n, w' = w.drewN n) (Q := fun a' => ∀ w', (∃ n, w' = w.drewN n) → Q .normal a' w') (fun _ w' hw' h => h w' hw') _ _ _ _ ⟨1, rfl⟩ ?_))
  have := wpAnyQ_lex (C := fun w' => ∃ n, w' = w.drewN n) (md := .any) hB.1 l.toArray.toList 0 (Array.replicate l.toArray.size false) a (by simp) (by simpa using hB.2) (by simpa using h)
  simpa using this

theorem ko_drewk {W W' : World} (h : KeepsOthers W W') (n : Nat) : KeepsOthers W (W'.drewN n) := ⟨h.size, fun k o hk ho => h.same k o hk ho⟩
theorem kf_setk {B : Nat} {W W' : World} (h : KeepsFrom B W W') (p : Addr) (u : Value) : KeepsFrom B W (W'.setCell p u) := h.trans ((KeepsOthers.setCell _ _ _).from _)
section
variable {w w' : World} {pb b gf gh : Nat} {d : PD} {fx : Int}
def EarR (d : PD) (fr : Bool) (w : World) (e : Ending) (w' : World) : Prop := e = .returned (.int .i64 (firstR (selB d fr) d.fm d.F)) ∧ Below w.heap.size w w'
set_option maxRecDepth 100000 in
set_option maxHeartbeats 1600000 in
theorem earliest_any (Bp Bf : Nat) (fr : Bool) (hV : PV w.heap.size w pb b gf gh d fx) (hBp : Bp < w.heap.size ∧ w.cell? ⟨Bp, 0, none⟩ = some (.pointer (some ⟨pb, 0, none⟩))) (hBf : Bf < w.heap.size ∧ w.cell? ⟨Bf, 0, none⟩ = some (.bool fr)) :
    Calls Tryd.prog 76 #[.pointer (some ⟨pb, 0, none⟩), .func (.func 90) #[] #[.pointer (some ⟨Bp, 0, none⟩), .pointer (some ⟨Bf, 0, none⟩)]] w (EarR d fr w) := by
  refine (callsIn_wide (n := 9)).1 ?_
  refine callsIn_of_wp_marks Tryd.func76 rfl trivial ?_ rfl
  simp only [Tryd.ntmps76, List.size_toArray, List.length_cons, List.length_nil, Nat.reduceAdd, Nat.reduceSub, Array.replicate_succ, Array.replicate_zero, List.push_toArray, List.append_toArray, List.nil_append, List.cons_append]
  refine wpIn_wide.2 ?_
  have HV := Lib.hid hV
  have HBP := Lib.hid hBp
  have HBF := Lib.hid hBf
  clear hV hBp hBf
  go_wp2_with fail
  obtain ⟨B, hBs⟩ : ∃ B, w.heap.size = B := ⟨_, rfl⟩
  obtain ⟨W0, hW0⟩ : ∃ W0, ((w.alloc (.cells #[.pointer (some ⟨pb, 0, none⟩)] 31)).alloc (.cells #[.int .i64 (-1)] 3)) = W0 := ⟨_, rfl⟩
  have q1 : Boxed W0 B 31 (.pointer (some ⟨pb, 0, none⟩)) := by rw [← hW0, ← hBs]; exact (Boxed.new w 31 _).alloc _
  have q2 : Boxed W0 (B + 1) 3 (.int .i64 (firstL d.fm (([] : List (Fin d.F)).map Fin.val))) := by
    have := Boxed.new (w.alloc (.cells #[.pointer (some ⟨pb, 0, none⟩)] 31)) 3 (.int .i64 (-1))
    rw [alloc_size, hW0, hBs] at this
    exact this
  have q7 : Below B w W0 := by rw [← hW0, ← hBs]; exact ((alloc_below _ _).alloc (by simp) _)
  have q5 : B ≤ W0.heap.size := Nat.le_trans (Nat.le_of_eq hBs.symm) q7.size
  have hV0 : PV B W0 pb b gf gh d fx := by have := HV.out; rw [hBs] at this; exact this.below q7
  have hP0 : Bp < B ∧ W0.cell? ⟨Bp, 0, none⟩ = some (.pointer (some ⟨pb, 0, none⟩)) := by have := HBP.out; rw [hBs] at this; exact ⟨this.1, (q7.cell (p := ⟨Bp, 0, none⟩) this.1).trans this.2⟩
  have hF0 : Bf < B ∧ W0.cell? ⟨Bf, 0, none⟩ = some (.bool fr) := by have := HBF.out; rw [hBs] at this; exact ⟨this.1, (q7.cell (p := ⟨Bf, 0, none⟩) this.1).trans this.2⟩
  rw [hW0, hBs]
  have HBS := Lib.hid hBs
  have HVB : Hid (PV B w pb b gf gh d fx) := by have := HV.out; rw [hBs] at this; exact this
  clear hW0 hBs HV
  refine wpIn_wide.1 (wpIn_rangeFunc_ownG (F := Fence.wide) (n := 9) rfl (by omega) (gf := 90) (lb := #[.pointer (some ⟨Bp, 0, none⟩), .pointer (some ⟨Bf, 0, none⟩)]) rfl trivial (enters_of Tryd.func90 (by kernel_rfl) rfl)
    (visit_stops 7 Bp Bf fr W0 hV0 q5 hP0 hF0) belowK_t (belowK_b q5) (Below.refl _ _) (fun _ => rfl)
    (fun pre W => (Boxed W B 31 (.pointer (some ⟨pb, 0, none⟩)) ∧ Boxed W (B + 1) 3 (.int .i64 (firstL d.fm (pre.map Fin.val)))) ∧ Below B w W) (fun _ _ _ => False)
    (OwnFrom.and (OwnFrom.and (Own.from (boxed_own B 31 (fun (_ : List (Fin d.F)) => .pointer (some ⟨pb, 0, none⟩))) _) (Own.from (boxed_own (B + 1) 3 (fun (pre : List (Fin d.F)) => .int .i64 (firstL d.fm (pre.map Fin.val)))) _)) (ownFrom_below (by rw [HBS.out]; exact Nat.le_refl _) q5))
    (fun _ _ _ _ _ hs _ _ => hs)
    ⟨⟨q1, q2⟩, q7⟩
    (fun x => { tmps := #[.pointer (some ⟨pb, 0, none⟩), .func (.func 90) #[] #[.pointer (some ⟨Bp, 0, none⟩), .pointer (some ⟨Bf, 0, none⟩)], .pointer (some ⟨B, 0, none⟩), undef, .int .i64 0, .pointer (some ⟨B + 1, 0, none⟩), .int .i64 ((x.1 : Nat) : Int),
      .func (.func 90) #[] #[.pointer (some ⟨Bp, 0, none⟩), .pointer (some ⟨Bf, 0, none⟩)], .int .i64 ((x.1 : Nat) : Int), undef, undef, undef, undef, undef, undef, undef, undef, undef, undef, undef, undef, undef, undef, undef, undef, undef, undef, undef, undef, undef, undef, undef], defers := [] }) ?assign ?body ?done ?stop)
  case assign =>
    intro l x W K hK
    gi_wp2
    exact hK
  case body =>
    rintro lk pre x W ⟨⟨v1, v2⟩, hB⟩ _
    have c1 := v1.cell
    have c2 := v2.cell
    have z2 := v2.frozen
    have HFL := Lib.hid (firstL_snoc d.fm (pre.map Fin.val) x.1)
    have HMP : Hid ((pre ++ [x]).map Fin.val = pre.map Fin.val ++ [x.1]) := by show _ = _; simp
    have hr := firstL_range d.fm d.F (pre.map Fin.val) (fun y hy => by obtain ⟨z, _, rfl⟩ := List.mem_map.1 hy; exact z.2)
    have hvv := HVB.out.below hB
    have r3 := cell_of_row _ _ 3 _ _ _ hvv.pg.row
    unfold prow at r3
    have HTN := Lib.hid hvv.pg.tn
    have hx1 := x.2
    have hxi : ((x.1 : Nat) : Int) < (d.F : Int) := by omega
    have hf1 := hvv.pg.f1
    have HB := Lib.hid hB
    have HV1 := Lib.hid v1
    have HV2 := Lib.hid v2
    have t1 := hvv.pg.tn x.1 hx1
    clear hB v1 v2 hvv
    generalize firstL d.fm (pre.map Fin.val) = a at *
    obtain ⟨f, hf⟩ : ∃ f, x.1 = f := ⟨_, rfl⟩
    rw [hf] at HFL HMP t1 hxi hx1
    simp only [hf]
    clear hf
    rcases hr with rfl | ⟨m, hm, rfl⟩
    · have HA : Hid (firstL d.fm (pre.map Fin.val ++ [f]) = (f : Int)) := by show _ = _; rw [HFL.out]; unfold firstS; rw [if_pos (.inl rfl)]
      gi_wp2
      refine region_quiet_in ?h1 ?h2 ?h3 ?hL ?_
      case h1 => kernel_rfl
      case h2 => kernel_rfl
      case h3 => exact noDefer_of (by kernel_rfl)
      case hL => rintro ⟨_, _, h⟩; exact h
      repeat (go_big_quiet_step (fail))
      refine wpQuiet_nil ?_
      intro _ hw'
      obtain ⟨nq, hw''⟩ := hw'
      subst hw''
      gi_wp2
      refine ⟨kf_setk ((ko_drewk (KeepsOthers.refl W) _).from _) _ _, (below_drewN (Below.refl B W) nq).setCell (p := ⟨B + 1, 0, none⟩) (Nat.le_succ B) _, ⟨?_, ?_⟩, (below_drewN HB.out nq).setCell (p := ⟨B + 1, 0, none⟩) (Nat.le_succ B) _⟩
      · exact Boxed.other (show Boxed (World.drewN _ _) _ _ _ from HV1.out) (by omega) _
      · rw [HMP.out, HA.out]
        exact Boxed.set _ (show Boxed (World.drewN _ _) _ _ _ from HV2.out)
    · have t2 := HTN.out m hm
      have hmi : (m : Int) < (d.F : Int) := by omega
      have hm1 : ((m : Int) == -1) = false := by rw [beq_eq_false_iff_ne]; omega
      have hm2 : decide ((m : Int) = -1) = false := decide_eq_false (by omega)
      obtain ⟨tf, htf⟩ : ∃ tf, (d.fm f).tn = tf := ⟨_, rfl⟩
      obtain ⟨tm, htm⟩ : ∃ tm, (d.fm m).tn = tm := ⟨_, rfl⟩
      rw [htf] at t1
      rw [htm] at t2
      have HTF := Lib.hid htf
      have HTM := Lib.hid htm
      clear htf htm
      by_cases hlt : tf < tm
      · gi_wp2
        refine region_quiet_in ?h1 ?h2 ?h3 ?hL ?_
        case h1 => kernel_rfl
        case h2 => kernel_rfl
        case h3 => exact noDefer_of (by kernel_rfl)
        case hL => rintro ⟨_, _, h⟩; exact h
        repeat (go_big_quiet_step (fail))
        refine wpQuiet_nil ?_
        intro _ hw'
        obtain ⟨nq, hw''⟩ := hw'
        subst hw''
        gi_wp2
        have HA : Hid (firstL d.fm (pre.map Fin.val ++ [f]) = (f : Int)) := by show _ = _; rw [HFL.out]; unfold firstS; rw [Int.toNat_natCast, HTF.out, HTM.out, if_pos (.inr hlt)]
        refine ⟨kf_setk ((ko_drewk (KeepsOthers.refl W) _).from _) _ _, (below_drewN (Below.refl B W) nq).setCell (p := ⟨B + 1, 0, none⟩) (Nat.le_succ B) _, ⟨?_, ?_⟩, (below_drewN HB.out nq).setCell (p := ⟨B + 1, 0, none⟩) (Nat.le_succ B) _⟩
        · exact Boxed.other (show Boxed (World.drewN _ _) _ _ _ from HV1.out) (by omega) _
        · rw [HMP.out, HA.out]
          exact Boxed.set _ (show Boxed (World.drewN _ _) _ _ _ from HV2.out)
      · gi_wp2
        refine region_quiet_in ?h1 ?h2 ?h3 ?hL ?_
        case h1 => kernel_rfl
        case h2 => kernel_rfl
        case h3 => exact noDefer_of (by kernel_rfl)
        case hL => rintro ⟨_, _, h⟩; exact h
        repeat (go_big_quiet_step (fail))
        refine wpQuiet_nil ?_
        intro _ hw'
        obtain ⟨nq, hw''⟩ := hw'
        subst hw''
        gi_wp2
        have HA : Hid (firstL d.fm (pre.map Fin.val ++ [f]) = (m : Int)) := by show _ = _; rw [HFL.out]; unfold firstS; rw [Int.toNat_natCast, HTF.out, HTM.out, if_neg (by omega)]
        refine ⟨(ko_drewk (KeepsOthers.refl W) _).from _, below_drewN (Below.refl B W) nq, ⟨HV1.out, ?_⟩, below_drewN HB.out nq⟩
        rw [HMP.out, HA.out]
        exact HV2.out
  case done =>
    rintro D ys W hD hys ⟨⟨v1, v2⟩, hB⟩ hKD
    have c2 := v2.cell
    have HY : Hid (firstL d.fm (ys.map Fin.val) = firstR (selB d fr) d.fm d.F) := by
      show _ = _
      rw [show ys.map Fin.val = (List.range d.F).filter (selB d fr) from hys, firstL_filter]
    go_wp2
    refine ⟨by simp, .inl ⟨_, _, rfl, run_takeDeferred hKD, ?_⟩⟩
    refine ⟨_, results_tmp rfl _ _ _, ?_, ?_⟩
    · exact ret_i HY.out
    · have hb := hB.trans (belowK_b (n₀ := B) (w := W0) q5 W D _ (.deferred none) hD hKD rfl rfl)
      rw [HBS.out]
      exact hb
  case stop =>
    rintro D c pre W _ _ h _
    exact h.elim
end
end Go.Proofs.YtiholfpcndjliaaDoor
