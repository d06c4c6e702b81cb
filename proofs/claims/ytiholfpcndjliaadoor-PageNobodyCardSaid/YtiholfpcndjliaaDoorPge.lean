/-
  The walks of visit and of its iterator.
-/
import Derived.Test.YtiholfpcndjliaaDoorPgd
namespace Go.Proofs.YtiholfpcndjliaaDoor
set_option linter.unusedVariables false
set_option linter.unusedSimpArgs false
open Go.RowKit

attribute [local go_sem] Oper.semAt_some

theorem visit_in (n pb : Nat) (fr : Bool) (w : World) :
    CallsIn Fence.wide n Tryd.prog 77 #[.pointer (some ⟨pb, 0, none⟩), .bool fr] w fun e w' => e = .returned (.func (.func 90) #[] #[.pointer (some ⟨w.heap.size, 0, none⟩), .pointer (some ⟨w.heap.size + 1, 0, none⟩)]) ∧ w' = (w.alloc (.cells #[.pointer (some ⟨pb, 0, none⟩)] 31)).alloc (.cells #[.bool fr] 4) := by
  refine callsIn_of_wp Tryd.func77 rfl trivial ?_ rfl
  simp only [Tryd.ntmps77, List.size_toArray, List.length_cons, List.length_nil, Nat.reduceAdd, Nat.reduceSub, Array.replicate_succ, Array.replicate_zero, List.push_toArray, List.append_toArray, List.nil_append, List.cons_append]
  gi_wp2
  go_ret
  exact ⟨rfl, rfl⟩

/-- What of the pages the iterator reads, in blocks below n₀. -/
structure PV (n₀ : Nat) (w : World) (pb b gf gh : Nat) (d : PD) (fx : Int) : Prop where
  pg : PG w pb b gf gh d fx
  b1 : pb < n₀
  b2 : gf < n₀
  b3 : gh < n₀
  n : n₀ ≤ w.heap.size
  q : ∀ f, f < d.F → -1 ≤ (d.fm f).pg ∧ (d.fm f).pg < (d.P : Int)
section
variable {n₀ : Nat} {w w' : World} {pb b gf gh : Nat} {d : PD} {fx : Int}
theorem PV.below (h : PV n₀ w pb b gf gh d fx) (hb : Below n₀ w w') : PV n₀ w' pb b gf gh d fx :=
  ⟨h.pg.keep (hb.block _ h.b1) (hb.block _ h.b2) (hb.block _ h.b3) hb.size, h.b1, h.b2, h.b3, Nat.le_trans h.n hb.size, h.q⟩
theorem PV.drewN (h : PV n₀ w pb b gf gh d fx) (n : Nat) : PV n₀ (w.drewN n) pb b gf gh d fx := h.below (drewN_below _ _ _)
def selB (d : PD) (fr : Bool) (f : Nat) : Bool := freeB d.fm d.hm f == fr
def Vis (d : PD) (fr : Bool) (k : Nat) (pre : List (Fin d.F)) : Prop := pre.map Fin.val = (List.range k).filter (selB d fr)
theorem Vis.nil (d : PD) (fr : Bool) : Vis d fr 0 [] := rfl
theorem Vis.skip {d : PD} {fr : Bool} {k : Nat} {pre : List (Fin d.F)} (h : Vis d fr k pre) (hs : selB d fr k = false) : Vis d fr (k + 1) pre := by
  unfold Vis at *
  rw [h, List.range_succ, List.filter_append, List.filter_cons, hs]
  simp
theorem Vis.take {d : PD} {fr : Bool} {k : Nat} {pre : List (Fin d.F)} (h : Vis d fr k pre) (hk : k < d.F) (hs : selB d fr k = true) : Vis d fr (k + 1) (pre ++ [⟨k, hk⟩]) := by
  unfold Vis at *
  rw [List.map_append, h, List.range_succ, List.filter_append, List.filter_cons, hs]
  simp
theorem Vis.len {d : PD} {fr : Bool} {k : Nat} {pre : List (Fin d.F)} (h : Vis d fr k pre) : pre.length ≤ k := by
  have := congrArg List.length h
  rw [List.length_map] at this
  rw [this]
  exact Nat.le_trans (List.length_filter_le _ _) (by simp)
theorem freeB_at {d : PD} {k j : Nat} (h : (d.fm k).pg = (j : Int)) : freeB d.fm d.hm k = !decide (d.hm j = (k : Int)) := by
  unfold freeB
  rw [h, Int.toNat_natCast]
  have : decide ((j : Int) = -1) = false := decide_eq_false (by omega)
  rw [this]
  simp
theorem freeB_no {d : PD} {k : Nat} (h : (d.fm k).pg = -1) : freeB d.fm d.hm k = true := by
  unfold freeB; rw [h]; rfl

set_option maxRecDepth 100000 in
set_option maxHeartbeats 3200000 in
theorem visit1_in (n lk Bp Bf : Nat) (fr : Bool) (J Jx : List (Fin d.F) → World → Prop)
    (hJd : ∀ s W n, J s W → J s (W.drewN n)) (hJa : ∀ s W o, J s W → J s (W.alloc o))
    (hY : ∀ pre x W, J pre W → pre.length < d.F → YieldAt Fence.wide n Tryd.prog lk #[.int .i64 ((x.1 : Nat) : Int)] W fun e W' =>
      (e = .returned (.bool true) ∧ J (pre ++ [x]) W' ∧ Below n₀ W W') ∨ (e = .returned (.bool false) ∧ Jx (pre ++ [x]) W'))
    (W : World) (hV : PV n₀ W pb b gf gh d fx) (hBp : Bp < n₀ ∧ W.cell? ⟨Bp, 0, none⟩ = some (.pointer (some ⟨pb, 0, none⟩))) (hBf : Bf < n₀ ∧ W.cell? ⟨Bf, 0, none⟩ = some (.bool fr)) (h0 : J [] W) :
    CallsIn Fence.wide (n + 1) Tryd.prog 90 #[.func (.yield lk) #[] #[], .pointer (some ⟨Bp, 0, none⟩), .pointer (some ⟨Bf, 0, none⟩)] W fun e W' => (∃ v, e = .returned v) ∧
      ((∃ ys, Vis d fr d.F ys ∧ J ys W') ∨ (∃ pre, True ∧ Jx pre W')) := by
  have c1 := hBp.2
  have q3 := cell_of_row _ _ 3 _ _ _ hV.pg.row
  unfold prow at q3
  have hf1 := hV.pg.f1
  have HJD := Lib.hid hJd
  have HJA := Lib.hid hJa
  have HYY := Lib.hid hY
  have HV := Lib.hid hV
  have HBP := Lib.hid hBp
  have HBF := Lib.hid hBf
  have H0 := Lib.hid h0
  clear hJd hJa hY hV hBp hBf h0
  refine callsIn_of_wp Tryd.func90 rfl trivial ?_ rfl
  simp only [Tryd.ntmps90, List.size_toArray, List.length_cons, List.length_nil, Nat.reduceAdd, Nat.reduceSub, Array.replicate_succ, Array.replicate_zero, List.push_toArray, List.append_toArray, List.nil_append, List.cons_append]
  gi_wp2
  gi_loopw [12] (fun i wr => ∃ (k : Nat) (pre : List (Fin d.F)), k ≤ d.F ∧ i = .int .i64 (k : Int) ∧ Vis d fr k pre ∧ J pre wr ∧ Below n₀ W wr) (fun i _ => d.F - (intOf i).toNat)
  case atStart => exact ⟨0, [], Nat.zero_le _, rfl, Vis.nil d fr, H0.out, Below.refl _ _⟩
  case round =>
    obtain ⟨k, pre, hk, rfl, hvis, hJs, hbel⟩ := hrel
    by_cases hlt : k < d.F
    · have hv := HV.out.below hbel
      have p0 := hv.pg.pg k hlt
      have p1 := hv.pg.tn k hlt
      have e1 := (hbel.cell (p := ⟨Bp, 0, none⟩) HBP.out.1).trans HBP.out.2
      have e2 := (hbel.cell (p := ⟨Bf, 0, none⟩) HBF.out.1).trans HBF.out.2
      have e4 := cell_of_row _ _ 4 _ _ _ hv.pg.row
      unfold prow at e4
      have hq := hv.q k hlt
      have HVIS := Lib.hid hvis
      have HJS := Lib.hid hJs
      have HB := Lib.hid hbel
      have HVV := Lib.hid hv
      have hki : (k : Int) < (d.F : Int) := by omega
      have hsz := hbel.size
      have hn0 := hv.n
      have hgh : gh < wr.heap.size := hv.pg.l3
      have hpb : pb < wr.heap.size := hv.pg.l1
      have HHO := Lib.hid hv.pg.ho
      have HLEN := Lib.hid (Nat.lt_of_le_of_lt hvis.len hlt)
      have HYL := Lib.hid (fun W h => HYY.out pre ⟨k, hlt⟩ W h HLEN.out)
      have hP := hv.pg.p2
      have hBp := HBP.out.1
      have hBf := HBF.out.1
      clear hvis hJs hbel hv
      gi_wp2
      obtain ⟨W2, hW2⟩ : ∃ W2, wr.alloc (.cells #[.int .i64 (d.fm k).pg, .int .i64 ((d.fm k).tn : Int)] 123) = W2 := ⟨_, rfl⟩
      have hb2 : Below wr.heap.size wr W2 := by rw [← hW2]; exact alloc_below _ _
      have r2 : W2.heap[wr.heap.size]? = some (.cells #[.int .i64 (d.fm k).pg, .int .i64 ((d.fm k).tn : Int)] 123 (0, 0)) := by rw [← hW2]; exact heap_alloc_new _ _
      have HJ2 : Hid (J pre W2) := by show J pre W2; rw [← hW2]; exact HJA.out _ _ _ HJS.out
      have HB2 : Hid (Below n₀ W W2) := HB.out.trans (hb2.mono hn0)
      have x0 := cell_of_row _ _ 0 _ _ _ r2
      have g1 := (hb2.cell (p := ⟨Bp, 0, none⟩) (by show Bp < _; omega)).trans e1
      have g2 := (hb2.cell (p := ⟨Bf, 0, none⟩) (by show Bf < _; omega)).trans e2
      have g4 := (hb2.cell (p := ⟨pb, 4, none⟩) hpb).trans e4
      have HGO : Hid (∀ j, j < d.P → W2.cell? ⟨gh, j, none⟩ = some (.int .i64 (d.hm j))) := fun j hj => (hb2.cell (p := ⟨gh, j, none⟩) hgh).trans (HHO.out j hj)
      rw [hW2]
      clear hW2 hb2 r2 e1 e2 e4 p0 p1
      by_cases hm1 : (d.fm k).pg = -1
      · have HFB := Lib.hid (freeB_no hm1)
        rw [hm1] at x0
        clear hm1 hq
        refine wpIn_wide.2 ?_
        go_quiet (fail)
        cases fr
        · gi_wp2
          refine ⟨fun _ h => (by cases h), ?_⟩
          gi_wp2
          go_roundw
          case rel => exact ⟨k + 1, pre, by omega, by go_num, HVIS.out.skip (by show (_ == _) = false; rw [HFB.out]; rfl), HJD.out _ _ _ HJ2.out, HB2.out.trans (below_drewN (Below.refl _ _) _)⟩
          case measure => simp [intOf]; omega
        · obtain ⟨fn, tmps, assign, body, hy, hR⟩ := HYL.out (W2.drewN nq) (HJD.out _ _ _ HJ2.out)
          try dsimp only at hy
          gi_wp2
          refine hR.mono ?_
          rintro e W3 (⟨rfl, hJ3, hk3⟩ | ⟨rfl, hJx3⟩)
          · gi_wp2
            go_roundw
            case rel => exact ⟨k + 1, pre ++ [⟨k, hlt⟩], by omega, by go_num, HVIS.out.take hlt (by show (_ == _) = true; rw [HFB.out]; rfl), hJ3, (HB2.out.trans (below_drewN (Below.refl _ _) _)).trans hk3⟩
            case measure => simp [intOf]; omega
          · gi_wp2
            refine bodyPost_ret (results_none rfl _ _ _) rfl ?_
            exact ⟨⟨_, rfl⟩, .inr ⟨_, trivial, hJx3⟩⟩
      · obtain ⟨j, hj⟩ : ∃ j : Nat, (d.fm k).pg = (j : Int) := ⟨(d.fm k).pg.toNat, by omega⟩
        have hjP : j < d.P := by omega
        have hjI : (j : Int) < (d.P : Int) := by omega
        have HFB := Lib.hid (freeB_at hj)
        have x4 := HGO.out j hjP
        rw [hj] at x0
        clear hm1 hq hj
        by_cases hh : d.hm j = (k : Int)
        · have hh2 : (d.hm j != (k : Int)) = false := by rw [hh]; simp
          have HFB : Hid (freeB d.fm d.hm k = false) := by show _ = _; rw [HFB.out, hh]; simp
          rw [hh] at x4
          clear hh hh2
          refine wpIn_wide.2 ?_
          go_quiet (fail)
          cases fr
          · obtain ⟨fn, tmps, assign, body, hy, hR⟩ := HYL.out (W2.drewN nq) (HJD.out _ _ _ HJ2.out)
            try dsimp only at hy
            gi_wp2
            refine hR.mono ?_
            rintro e W3 (⟨rfl, hJ3, hk3⟩ | ⟨rfl, hJx3⟩)
            · gi_wp2
              go_roundw
              case rel => exact ⟨k + 1, pre ++ [⟨k, hlt⟩], by omega, by go_num, HVIS.out.take hlt (by show (_ == _) = true; rw [HFB.out]; rfl), hJ3, (HB2.out.trans (below_drewN (Below.refl _ _) _)).trans hk3⟩
              case measure => simp [intOf]; omega
            · gi_wp2
              refine bodyPost_ret (results_none rfl _ _ _) rfl ?_
              exact ⟨⟨_, rfl⟩, .inr ⟨_, trivial, hJx3⟩⟩
          · gi_wp2
            refine ⟨fun _ h => (by cases h), ?_⟩
            gi_wp2
            go_roundw
            case rel => exact ⟨k + 1, pre, by omega, by go_num, HVIS.out.skip (by show (_ == _) = false; rw [HFB.out]; rfl), HJD.out _ _ _ HJ2.out, HB2.out.trans (below_drewN (Below.refl _ _) _)⟩
            case measure => simp [intOf]; omega
        · have hh2 : (d.hm j != (k : Int)) = true := by simpa using hh
          have HFC : Hid (freeB d.fm d.hm k = true) := by show _ = _; rw [HFB.out]; simpa using hh
          clear HFB
          generalize d.hm j = z at *
          refine wpIn_wide.2 ?_
          go_quiet (fail)
          cases fr
          · gi_wp2
            refine ⟨fun _ h => (by cases h), ?_⟩
            gi_wp2
            go_roundw
            case rel => exact ⟨k + 1, pre, by omega, by go_num, HVIS.out.skip (by show (_ == _) = false; rw [HFC.out]; rfl), HJD.out _ _ _ HJ2.out, HB2.out.trans (below_drewN (Below.refl _ _) _)⟩
            case measure => simp [intOf]; omega
          · obtain ⟨fn, tmps, assign, body, hy, hR⟩ := HYL.out (W2.drewN nq) (HJD.out _ _ _ HJ2.out)
            try dsimp only at hy
            gi_wp2
            refine hR.mono ?_
            rintro e W3 (⟨rfl, hJ3, hk3⟩ | ⟨rfl, hJx3⟩)
            · gi_wp2
              go_roundw
              case rel => exact ⟨k + 1, pre ++ [⟨k, hlt⟩], by omega, by go_num, HVIS.out.take hlt (by show (_ == _) = true; rw [HFC.out]; rfl), hJ3, (HB2.out.trans (below_drewN (Below.refl _ _) _)).trans hk3⟩
              case measure => simp [intOf]; omega
            · gi_wp2
              refine bodyPost_ret (results_none rfl _ _ _) rfl ?_
              exact ⟨⟨_, rfl⟩, .inr ⟨_, trivial, hJx3⟩⟩
    · obtain rfl : k = d.F := by omega
      gi_wp2
      go_end0
      exact ⟨⟨_, rfl⟩, .inl ⟨pre, hvis, hJs⟩⟩
theorem visit_stops (n Bp Bf : Nat) (fr : Bool) (w : World) (hV : PV n₀ w pb b gf gh d fx) (hn : n₀ ≤ w.heap.size) (hBp : Bp < n₀ ∧ w.cell? ⟨Bp, 0, none⟩ = some (.pointer (some ⟨pb, 0, none⟩))) (hBf : Bf < n₀ ∧ w.cell? ⟨Bf, 0, none⟩ = some (.bool fr)) :
    SeqStopsK Fence.wide (n + 1) Tryd.prog 90 #[.pointer (some ⟨Bp, 0, none⟩), .pointer (some ⟨Bf, 0, none⟩)] (fun x : Fin d.F => #[.int .i64 ((x.1 : Nat) : Int)]) (Below n₀) (Vis d fr d.F) (fun _ => True) d.F w := fun l J Jx W hW hJ hJx hY h0 =>
  visit1_in n l Bp Bf fr J Jx (fun s W1 m hs => by
    exact hJ s W1 (W1.drewN m) none hs ⟨rfl, rfl, rfl, Nat.le_refl _, fun _ _ _ => rfl⟩ (fun r e => by cases e)) (fun s W1 o hs => by
    exact hJ s W1 (W1.alloc o) none hs (World.grownBy_alloc W1 o none) (fun r e => by cases e)) hY W (hV.below (hW.mono hn)) ⟨hBp.1, (hW.cell (p := ⟨Bp, 0, none⟩) (by show Bp < _; omega)).trans hBp.2⟩ ⟨hBf.1, (hW.cell (p := ⟨Bf, 0, none⟩) (by show Bf < _; omega)).trans hBf.2⟩ h0
end
end Go.Proofs.YtiholfpcndjliaaDoor
