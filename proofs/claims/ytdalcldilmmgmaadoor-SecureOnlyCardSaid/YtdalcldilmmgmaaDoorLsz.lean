/-
  The law of the sizes of protected commands.
-/
import Derived.Test.YtdalcldilmmgmaaDoorMge
namespace Go.Proofs.YtdalcldilmmgmaaDoor
set_option linter.unusedVariables false
set_option linter.unusedSimpArgs false
open Go.RowKit

section
variable {P : Program} {ops : Array Oper} {md : Region.Mode} {Q : Exit → Act → World → Prop}
/-- An operation taken first, its guard decided. -/
theorem wpAnyH_takeG {S : World → Prop} (i d : Nat) (v : Value) {oi : Oper} {fuel : Nat} {listed : Array Bool} {T : Array Value} {ds : List Deferred} {w : World} (hi : ops[i]? = some oi) (hdst : oi.dst = some d)
    (hs : Region.noSelect ops = true) (hf : Region.free md ops listed i = true) (hr : (Region.ready md ops listed).contains i = true)
    (hQ : ∀ c a w, Q (.panic c) (Act.put a oi.dst v) w → Q (.panic c) a w) (hg : Region.wanted oi (yielded ops T) = true) (hy : ∀ w, S w → (execOp ({ tmps := T, defers := ds } : Act).eval oi).run P w = .ok (.value v) w) (hS : S w)
    (h : wpAnyH P md ops Q S fuel (listed.setIfInBounds i true) { tmps := T.setIfInBounds d v, defers := ds } w) : wpAnyH P md ops Q S (fuel + 1) listed { tmps := T, defers := ds } w := by
  refine wpAnyH_take (v := v) hi hs hf hr (fun c a w => hQ c a w) (.inl ⟨hg, hy⟩) hS ?_
  rw [hdst]
  exact h
/-- The one operation that may come up, its guard decided. -/
theorem wpAnyH_oneG {S : World → Prop} {i fuel : Nat} {o : Oper} {listed : Array Bool} {a : Act} {w : World} (hr : Region.ready md ops listed = [i]) (hi : ops[i]? = some o) (hg : Region.wanted o (yielded ops a.tmps) = true)
    (h : ∀ K : Act → World → Prop, (∀ a' w', S w' → wpAnyH P md ops Q S fuel (listed.setIfInBounds i true) a' w' → K a' w') → o.wp P a w K Q) : wpAnyH P md ops Q S (fuel + 1) listed a w := by
  refine wpAnyH_all hr (by simp) fun j hj => ?_
  obtain rfl : j = i := by simpa using hj
  unfold wpOp
  simp only [hi, hg, if_true]
  exact .inl (h _ fun a' w' h1 h2 => ⟨h1, h2⟩)
/-- An operation taken first that its guard does not want. -/
theorem wpAnyH_takeU {S : World → Prop} (i d : Nat) {oi : Oper} {fuel : Nat} {listed : Array Bool} {T : Array Value} {ds : List Deferred} {w : World} (hi : ops[i]? = some oi) (hdst : oi.dst = some d)
    (hs : Region.noSelect ops = true) (hf : Region.free md ops listed i = true) (hr : (Region.ready md ops listed).contains i = true)
    (hQ : ∀ c a w, Q (.panic c) (Act.put a oi.dst undef) w → Q (.panic c) a w) (hg : Region.wanted oi (yielded ops T) = false) (hS : S w)
    (h : wpAnyH P md ops Q S fuel (listed.setIfInBounds i true) { tmps := T.setIfInBounds d undef, defers := ds } w) : wpAnyH P md ops Q S (fuel + 1) listed { tmps := T, defers := ds } w := by
  refine wpAnyH_take (v := undef) hi hs hf hr (fun c a w => hQ c a w) (.inr ⟨hg, rfl⟩) hS ?_
  rw [hdst]
  exact h
end
/-- Two boxed arguments, and what was there before. -/
structure Rw (w W : World) (X Y : Obj) : Prop where
  r1 : W.heap[w.heap.size]? = some X
  r2 : W.heap[w.heap.size + 1]? = some Y
  b : Below w.heap.size w W
theorem Rw.on {w W W2 : World} {X Y : Obj} (h : Rw w W X Y) (hb : Below W.heap.size W W2) : Rw w W2 X Y :=
  ⟨(hb.block _ (blk_lt h.r1)).trans h.r1, (hb.block _ (blk_lt h.r2)).trans h.r2, h.b.trans (hb.mono h.b.size)⟩
theorem Rw.kb {w W W2 : World} {X Y : Obj} {g : Nat} (h : Rw w W X Y) (hk : Kb g W W2) (hg : w.heap.size + 1 < g) : Rw w W2 X Y :=
  ⟨(hk.block _ (blk_lt h.r1) (by omega)).trans h.r1, (hk.block _ (blk_lt h.r2) (by omega)).trans h.r2, h.b.trans (hk.below (by omega) h.b.size)⟩
theorem Rw.dr {w W : World} {X Y : Obj} (h : Rw w W X Y) : Rw w W.drew X Y := ⟨h.r1, h.r2, h.b.drew⟩
theorem Rw.drn {w W : World} {X Y : Obj} (h : Rw w W X Y) (n : Nat) : Rw w (W.drewN n) X Y := ⟨h.r1, h.r2, below_drewN h.b n⟩
theorem Rw.al {w W : World} {X Y : Obj} (h : Rw w W X Y) (o : Obj) : Rw w (W.alloc o) X Y := h.on (alloc_below W o)
theorem Rw.lt {w W : World} {X Y : Obj} (h : Rw w W X Y) : w.heap.size + 1 < W.heap.size := blk_lt h.r2
theorem lvl_has {n : Int} (h : lvlB n = true) (h0 : (n != 0) = true) : hasB n 1 = true := by
  unfold lvlB at h
  simp only [Bool.or_eq_true, beq_iff_eq] at h
  rw [bne_iff_ne] at h0
  rcases h with ((((h | h) | h) | h) | h) | h
  · exact absurd h h0
  all_goals (subst h; decide)
theorem pa_ok {s : Ss} {m : List UInt8} (h : paB s m = true) : Okc (Ch.new s m) 0 ∧ hasB s.lvl 1 = true := by
  unfold paB Ss.ok keyB at h
  simp only [Bool.and_eq_true, decide_eq_true_eq] at h
  obtain ⟨⟨⟨⟨⟨⟨h1, h2⟩, h3⟩, h4⟩, h5⟩, h6⟩, h7⟩ := h
  exact ⟨⟨h1, h2, h3, h4, h6, rfl, rfl⟩, lvl_has h5 h7⟩
/-- Wrap of a command that cannot be protected. -/
theorem pWrap_no (g : Nat) (s : Ch) (x : Cm) (A : Option Addr) (k n : Nat) (w : World) (h : CH w g s) (ht : ET w) (o : Okc s n) (hle : -9223372036854775808 ≤ x.le ∧ x.le ≤ 9223372036854775807) (hE : wrE s x ≠ 0) :
    Calls Tryd.prog 10 #[.pointer (some ⟨g, 0, none⟩), x.val (.slice A x.data.length k)] w fun e w' => e = .returned (.tuple #[Cm.zero.val (.slice none 0 0), .int .i64 (wrE s x)]) ∧ Below w.heap.size w w' :=
  pWrap_bad g s x (wrE s x) A x.data.length k w h o.cv ht hE (fun W hW => pwrap_bad g s x A k W (h.below hW) hle hE)
set_option maxRecDepth 100000 in
set_option maxHeartbeats 3200000 in
theorem law_sizes1 (s : Ss) (m : List UInt8) (x : Cm) (v0 v1 v2 v3 vm : Value) (A : Option Addr) (k : Nat) (w : World) (h0 : SL w w.heap.size v0 s.enc) (h1 : SL w w.heap.size v1 s.mac) (h2 : SL w w.heap.size v2 s.rmac) (h3 : SL w w.heap.size v3 s.dat) (hm : SL w w.heap.size vm m) (hx : SL w w.heap.size (.slice A x.data.length k) x.data)
    (ht : ET w) (hle : -9223372036854775808 ≤ x.le ∧ x.le ≤ 9223372036854775807) :
    Calls Tryd.prog 6 #[s.val v0 v1 v2 v3, vm, x.val (.slice A x.data.length k)] w fun e w' => e = .returned (.bool true) ∧ Below w.heap.size w w' := by
  obtain ⟨A0, c0, rfl, _, _, _⟩ := id h0
  obtain ⟨A1, c1, rfl, _, _, _⟩ := id h1
  obtain ⟨A2, c2, rfl, _, _, _⟩ := id h2
  obtain ⟨A3, c3, rfl, _, _, _⟩ := id h3
  obtain ⟨Am, cm, rfl, hml, _, _⟩ := id hm
  have HPR := Lib.hid fun W (hW : Below w.heap.size w W) => pair_any s m _ _ _ _ _ W (h0.on hW) (h1.on hW) (h2.on hW) (h3.on hW) (hm.on hW)
  have HX := Lib.hid hx
  have HET := Lib.hid ht
  have HLE := Lib.hid hle
  unfold Ss.val at *
  simp only [Cm.val]
  have HRW : Hid (Rw w ((w.alloc (Obj.cells #[.slice A0 s.enc.length c0, .slice A1 s.mac.length c1, .slice A2 s.rmac.length c2, .slice A3 s.dat.length c3, .int .i64 s.lvl] 24)).alloc (Obj.cells #[.int .i64 x.cla, .int .i64 x.ins, .int .i64 x.p1, .int .i64 x.p2, .slice A x.data.length k, .int .i64 x.le, .bool x.long] 30)) (Obj.cells #[.slice A0 s.enc.length c0, .slice A1 s.mac.length c1, .slice A2 s.rmac.length c2, .slice A3 s.dat.length c3, .int .i64 s.lvl] 24) (Obj.cells #[.int .i64 x.cla, .int .i64 x.ins, .int .i64 x.p1, .int .i64 x.p2, .slice A x.data.length k, .int .i64 x.le, .bool x.long] 30)) := ⟨heap_alloc2_old w (Obj.cells #[.slice A0 s.enc.length c0, .slice A1 s.mac.length c1, .slice A2 s.rmac.length c2, .slice A3 s.dat.length c3, .int .i64 s.lvl] 24) (Obj.cells #[.int .i64 x.cla, .int .i64 x.ins, .int .i64 x.p1, .int .i64 x.p2, .slice A x.data.length k, .int .i64 x.le, .bool x.long] 30), heap2_new w (Obj.cells #[.slice A0 s.enc.length c0, .slice A1 s.mac.length c1, .slice A2 s.rmac.length c2, .slice A3 s.dat.length c3, .int .i64 s.lvl] 24) (Obj.cells #[.int .i64 x.cla, .int .i64 x.ins, .int .i64 x.p1, .int .i64 x.p2, .slice A x.data.length k, .int .i64 x.le, .bool x.long] 30), alloc2_below w (Obj.cells #[.slice A0 s.enc.length c0, .slice A1 s.mac.length c1, .slice A2 s.rmac.length c2, .slice A3 s.dat.length c3, .int .i64 s.lvl] 24) (Obj.cells #[.int .i64 x.cla, .int .i64 x.ins, .int .i64 x.p1, .int .i64 x.p2, .slice A x.data.length k, .int .i64 x.le, .bool x.long] 30)⟩
  have HB := Lib.hid (alloc2_below w (Obj.cells #[.slice A0 s.enc.length c0, .slice A1 s.mac.length c1, .slice A2 s.rmac.length c2, .slice A3 s.dat.length c3, .int .i64 s.lvl] 24) (Obj.cells #[.int .i64 x.cla, .int .i64 x.ins, .int .i64 x.p1, .int .i64 x.p2, .slice A x.data.length k, .int .i64 x.le, .bool x.long] 30))
  clear h0 h1 h2 h3 hm hx ht hle
  by_cases hl6 : 600 < x.data.length
  · have hi : (600 : Int) < (x.data.length : Int) := by omega
    go_enter Tryd.func6, Tryd.ntmps6
    go_wp2_with fail
    go_ret
    exact ⟨rfl, HB.out⟩
  have hi : ¬ (600 : Int) < (x.data.length : Int) := by omega
  by_cases hm1 : 100 < m.length
  · have hj : (100 : Int) < (m.length : Int) := by omega
    go_enter Tryd.func6, Tryd.ntmps6
    go_wp2_with fail
    go_ret
    exact ⟨rfl, HB.out⟩
  have hj : ¬ (100 : Int) < (m.length : Int) := by omega
  go_enter Tryd.func6, Tryd.ntmps6
  go_wp2_with fail
  refine (HPR.out _ HB.out).mono ?_
  rintro e w3 ⟨hb3, ⟨_, rfl⟩ | ⟨hpa, g1, g2, hg1, hg2, hne, rfl, hc1, hc2⟩⟩
  · have HRW3 := Lib.hid (HRW.out.on hb3)
    clear hb3
    go_wp2_with fail
    go_ret
    exact ⟨rfl, HRW3.out.b⟩
  have HRW3 := Lib.hid (HRW.out.on hb3)
  have HC1 := Lib.hid hc1
  have HG1 : Hid (w.heap.size + 1 < g1) := Nat.lt_of_lt_of_le HRW.out.lt hg1
  have HOK := Lib.hid (pa_ok hpa)
  obtain ⟨⟨q0, q1, q2, q3, q4, q5, q6⟩, ⟨f0, f1, f2, f3, f4, f5, f6⟩⟩ := cells7 HRW3.out.r2
  obtain ⟨t0, t1, t2, t3, t4⟩ := row5 HRW3.out.r1
  clear hb3 hc1 hc2 hg1 hg2 hne hpa
  by_cases hE : wrE (Ch.new s m) x ≠ 0
  · have hw := pWrap_no g1 (Ch.new s m) x A k 0 w3 HC1.out (ET.on HET.out HRW3.out.b) HOK.out.1 HLE.out hE
    have HE := Lib.hid hE
    have hnz : (wrE (Ch.new s m) x != 0) = true := by rw [bne_iff_ne]; exact hE
    simp only [Cm.val, Cm.zero] at hw
    have HW := Lib.hid hw
    clear hw hE
    go_wp2_with fail
    refine HW.out.mono ?_
    rintro e w4 ⟨rfl, hb4⟩
    have HRW4 := Lib.hid (HRW3.out.on hb4)
    clear hb4
    go_wp2_with fail
    refine (awake_any _).mono ?_
    rintro e w5 ⟨rfl, hb5⟩
    have HRW5 := Lib.hid ((HRW4.out.al _).on hb5)
    clear hb5
    go_wp2_with fail
    go_ret
    exact ⟨rfl, HRW5.out.b⟩
  have hE0 : wrE (Ch.new s m) x = 0 := by simpa using hE
  clear hE
  have hrt := rt_any (Ch.new s m) (Ch.new s m) x 0 HOK.out.1.enc HOK.out.1.cls hE0 (by omega)
  have hw := pWrap_mac g1 (Ch.new s m) x A k 0 w3 HC1.out HOK.out.1 (by omega) HOK.out.2 hE0 (HX.out.on HRW3.out.b) (by omega)
  have hcb := isB_yes (by have := (clE_zero (wrE_zero hE0).1).2.2.1; unfold clsB at this; simp only [Bool.and_eq_true] at this; exact this.1.1.1 : isB x.cla = true)
  have hy : wrY (Ch.new s m) x 0 = ⟨x.cla + 4, x.ins, x.p1, x.p2, wrD (Ch.new s m) x 0, x.le, x.long || decide ((255 : Int) < ((wrD (Ch.new s m) x 0).length : Int))⟩ := by
    have e1 : wrY (Ch.new s m) x 0 = ⟨(wrY (Ch.new s m) x 0).cla, x.ins, x.p1, x.p2, wrD (Ch.new s m) x 0, x.le, x.long || decide ((255 : Int) < ((wrD (Ch.new s m) x 0).length : Int))⟩ := rfl
    rw [e1, hrt.cla]
  have hdl := wrD_len (Ch.new s m) x 0
  have hdt := wrD_take (Ch.new s m) x 0
  rw [hy] at hw
  have hB : wrB (Ch.new s m) x 0 = if hasB s.lvl 2 = true ∧ x.data.length ≠ 0 then cbE s.enc (ivF s.enc 1 0) (padL x.data 8) else x.data := rfl
  have hBl : (wrB (Ch.new s m) x 0).length = if hasB s.lvl 2 = true ∧ x.data.length ≠ 0 then 8 * (x.data.length / 8 + 1) else x.data.length := by
    rw [hB]
    by_cases q : hasB s.lvl 2 = true ∧ x.data.length ≠ 0
    · rw [if_pos q, if_pos q, cbE_len _ _ _ (by rw [padL_len]; omega), padL_len]
    · rw [if_neg q, if_neg q]
  have hBx : hasB s.lvl 2 = false → wrB (Ch.new s m) x 0 = x.data := fun q => by
    rw [hB, if_neg]
    rw [q]; simp
  clear hy hB hrt hE0 HOK
  simp only [WRP, Cm.val] at hw
  generalize wrD (Ch.new s m) x 0 = DD at *
  generalize wrB (Ch.new s m) x 0 = BB at *
  generalize (x.long || decide ((255 : Int) < (DD.length : Int))) = lg at *
  have HW := Lib.hid hw
  have HBX := Lib.hid hBx
  have HDT := Lib.hid hdt
  have HBL := Lib.hid hBl
  clear hw hBx hdt hBl
  go_wp2_with fail
  refine HW.out.mono ?_
  rintro e w4 ⟨v4, he, hv4, hc4, hk4⟩
  obtain ⟨A4, c4, rfl, _, _, _⟩ := id hv4
  simp only [Cm.val] at he hv4
  subst he
  have HRW4 := Lib.hid (HRW3.out.kb hk4 HG1.out)
  have HV4 := Lib.hid hv4
  clear hv4 hc4 hk4 HW HPR
  clear q0 q1 q2 q3 q4 q5 q6 f0 f1 f2 f3 f4 f5 f6 t0 t1 t2 t3 t4
  obtain ⟨⟨q0, q1, q2, q3, q4, q5, q6⟩, ⟨f0, f1, f2, f3, f4, f5, f6⟩⟩ := cells7 HRW4.out.r2
  obtain ⟨t0, t1, t2, t3, t4⟩ := row5 HRW4.out.r1
  have hz4 := HRW4.out.lt
  have hx1 : w.heap.size ≠ w4.heap.size := by omega
  have hx2 : w4.heap.size ≠ w.heap.size := by omega
  have hx3 : w.heap.size + 1 ≠ w4.heap.size := by omega
  have hx4 : w4.heap.size ≠ w.heap.size + 1 := by omega
  have hx5 : w.heap.size < w4.heap.size := by omega
  have hcw : IntKind.wrap .i64 (x.cla + 4) = x.cla + 4 := IntWalk.i64_in _ (by omega)
  cases hq : hasB s.lvl 2 with
  | true =>
    have hqb : (bits .and .i64 s.lvl 2 != 0) = true := hq
    by_cases hq0 : x.data.length = 0
    · have hBl2 : BB.length = 0 := by rw [HBL.out, if_neg (by rw [hq0]; simp), hq0]
      go_wp2_with fail
      have hr5 := HRW4.out.al (Obj.cells #[.int .i64 (x.cla + 4), .int .i64 x.ins, .int .i64 x.p1, .int .i64 x.p2, .slice A4 8 c4, .int .i64 x.le, .bool lg] 30)
      generalize w4.alloc (Obj.cells #[.int .i64 (x.cla + 4), .int .i64 x.ins, .int .i64 x.p1, .int .i64 x.p2, .slice A4 8 c4, .int .i64 x.le, .bool lg] 30) = w5 at *
      have HRW5 := Lib.hid hr5
      clear q0 q1 q2 q3 q4 q5 q6 f0 f1 f2 f3 f4 f5 f6 t0 t1 t2 t3 t4 hx1 hx2 hx3 hx4 hx5
      have t4 := (row5 hr5.r1).2.2.2.2
      have t5 : w5.drew.cell? ⟨w.heap.size, 4, none⟩ = some (.int .i64 s.lvl) := t4
      have hqe : (bits .and .i64 s.lvl 2 == 0) = false := by rw [bne] at hqb; simpa using hqb
      clear hr5
      refine wp_region_held_drew (S := fun W => W.cell? ⟨w.heap.size, 4, none⟩ = some (.int .i64 s.lvl)) rfl t5 (fun _ => ?_)
      change wpAnyH _ _ _ _ _ 17 (Array.replicate 17 false) _ w5.drew
      refine wpAnyH_takeG 0 100 (.pointer (some ⟨w.heap.size, 4, none⟩)) rfl rfl (by kernel_rfl) (by kernel_rfl) (by kernel_rfl) (fun _ _ _ h => h) rfl ?_ t5 ?_
      · rintro w s0
        go_simp
        try with_reducible rfl
      try simp only [Act.put, List.setIfInBounds_toArray, List.set_cons_zero, List.set_cons_succ]
      refine wpAnyH_takeG 1 101 (.int .i64 s.lvl) rfl rfl (by kernel_rfl) (by kernel_rfl) (by kernel_rfl) (fun _ _ _ h => h) rfl ?_ t5 ?_
      · rintro w s0
        go_simp
        try with_reducible rfl
      try simp only [Act.put, List.setIfInBounds_toArray, List.set_cons_zero, List.set_cons_succ]
      refine wpAnyH_takeG 2 102 (.int .i64 (bits .and .i64 s.lvl 2)) rfl rfl (by kernel_rfl) (by kernel_rfl) (by kernel_rfl) (fun _ _ _ h => h) rfl ?_ t5 ?_
      · rintro w s0
        go_simp
        try with_reducible rfl
      try simp only [Act.put, List.setIfInBounds_toArray, List.set_cons_zero, List.set_cons_succ]
      refine wpAnyH_takeG 3 103 (.bool true) rfl rfl (by kernel_rfl) (by kernel_rfl) (by kernel_rfl) (fun _ _ _ h => h) rfl ?_ t5 ?_
      · rintro w s0
        go_simp
        try with_reducible rfl
      try simp only [Act.put, List.setIfInBounds_toArray, List.set_cons_zero, List.set_cons_succ]
      refine wpAnyH_takeG 4 104 (.bool true) rfl rfl (by kernel_rfl) (by kernel_rfl) (by kernel_rfl) (fun _ _ _ h => h) rfl ?_ t5 ?_
      · rintro w s0
        go_simp
        try with_reducible rfl
      try simp only [Act.put, List.setIfInBounds_toArray, List.set_cons_zero, List.set_cons_succ]
      refine wpAnyH_takeU 5 105 rfl rfl (by kernel_rfl) (by kernel_rfl) (by kernel_rfl) (fun _ _ _ h => h) rfl t5 ?_
      try simp only [Act.put, List.setIfInBounds_toArray, List.set_cons_zero, List.set_cons_succ]
      refine wpAnyH_takeU 6 106 rfl rfl (by kernel_rfl) (by kernel_rfl) (by kernel_rfl) (fun _ _ _ h => h) rfl t5 ?_
      try simp only [Act.put, List.setIfInBounds_toArray, List.set_cons_zero, List.set_cons_succ]
      refine wpAnyH_takeU 7 107 rfl rfl (by kernel_rfl) (by kernel_rfl) (by kernel_rfl) (fun _ _ _ h => h) rfl t5 ?_
      try simp only [Act.put, List.setIfInBounds_toArray, List.set_cons_zero, List.set_cons_succ]
      refine wpAnyH_takeU 8 108 rfl rfl (by kernel_rfl) (by kernel_rfl) (by kernel_rfl) (fun _ _ _ h => h) rfl t5 ?_
      try simp only [Act.put, List.setIfInBounds_toArray, List.set_cons_zero, List.set_cons_succ]
      refine wpAnyH_takeU 9 109 rfl rfl (by kernel_rfl) (by kernel_rfl) (by kernel_rfl) (fun _ _ _ h => h) rfl t5 ?_
      try simp only [Act.put, List.setIfInBounds_toArray, List.set_cons_zero, List.set_cons_succ]
      refine wpAnyH_takeU 10 110 rfl rfl (by kernel_rfl) (by kernel_rfl) (by kernel_rfl) (fun _ _ _ h => h) rfl t5 ?_
      try simp only [Act.put, List.setIfInBounds_toArray, List.set_cons_zero, List.set_cons_succ]
      refine wpAnyH_takeU 11 111 rfl rfl (by kernel_rfl) (by kernel_rfl) (by kernel_rfl) (fun _ _ _ h => h) rfl t5 ?_
      try simp only [Act.put, List.setIfInBounds_toArray, List.set_cons_zero, List.set_cons_succ]
      refine wpAnyH_takeG 12 112 (.bool true) rfl rfl (by kernel_rfl) (by kernel_rfl) (by kernel_rfl) (fun _ _ _ h => h) rfl ?_ t5 ?_
      · rintro w s0
        go_simp
        try with_reducible rfl
      try simp only [Act.put, List.setIfInBounds_toArray, List.set_cons_zero, List.set_cons_succ]
      refine wpAnyH_takeG 13 113 (.bool true) rfl rfl (by kernel_rfl) (by kernel_rfl) (by kernel_rfl) (fun _ _ _ h => h) rfl ?_ t5 ?_
      · rintro w s0
        go_simp
        try with_reducible rfl
      try simp only [Act.put, List.setIfInBounds_toArray, List.set_cons_zero, List.set_cons_succ]
      refine wpAnyH_oneG (i := 14) (by kernel_rfl) rfl rfl ?_
      intro Kx hKx
      go_simp
      refine (awake_any _).mono ?_
      rintro e w6 ⟨rfl, hb6⟩
      have HRW6 := Lib.hid (HRW5.out.dr.on hb6)
      have t6 := (row5 HRW6.out.r1).2.2.2.2
      dsimp only
      refine hKx _ _ t6 ?_
      clear hKx Kx
      try simp only [Act.put, List.setIfInBounds_toArray, List.set_cons_zero, List.set_cons_succ]
      refine wpAnyH_takeG 15 115 (.bool true) rfl rfl (by kernel_rfl) (by kernel_rfl) (by kernel_rfl) (fun _ _ _ h => h) rfl ?_ t6 ?_
      · rintro w s0
        go_simp
        try with_reducible rfl
      try simp only [Act.put, List.setIfInBounds_toArray, List.set_cons_zero, List.set_cons_succ]
      refine wpAnyH_oneG (i := 16) (by kernel_rfl) rfl rfl ?_
      intro Kx hKx
      go_simp
      refine hKx _ _ t6 ?_
      clear hKx Kx
      try simp only [Act.put, List.setIfInBounds_toArray, List.set_cons_zero, List.set_cons_succ]
      refine wpAnyH_done (by kernel_rfl) ?_ _
      go_wp2_with fail
      go_ret
      exact ⟨rfl, HRW6.out.b⟩
    · have hBl2 : BB.length = 8 * (x.data.length / 8 + 1) := by rw [HBL.out, if_pos ⟨hq, hq0⟩]
      have hpos : (0 : Int) < (x.data.length : Int) := by omega
      go_wp2_with fail
      have hr5 := HRW4.out.al (Obj.cells #[.int .i64 (x.cla + 4), .int .i64 x.ins, .int .i64 x.p1, .int .i64 x.p2, .slice A4 (8 * (x.data.length / 8 + 1) + 8) c4, .int .i64 x.le, .bool lg] 30)
      generalize w4.alloc (Obj.cells #[.int .i64 (x.cla + 4), .int .i64 x.ins, .int .i64 x.p1, .int .i64 x.p2, .slice A4 (8 * (x.data.length / 8 + 1) + 8) c4, .int .i64 x.le, .bool lg] 30) = w5 at *
      have HRW5 := Lib.hid hr5
      clear q0 q1 q2 q3 q4 q5 q6 f0 f1 f2 f3 f4 f5 f6 t0 t1 t2 t3 t4 hx1 hx2 hx3 hx4 hx5
      have t4 := (row5 hr5.r1).2.2.2.2
      have t5 : w5.drew.cell? ⟨w.heap.size, 4, none⟩ = some (.int .i64 s.lvl) := t4
      have hqe : (bits .and .i64 s.lvl 2 == 0) = false := by rw [bne] at hqb; simpa using hqb
      clear hr5
      refine wp_region_held_drew (S := fun W => W.cell? ⟨w.heap.size, 4, none⟩ = some (.int .i64 s.lvl)) rfl t5 (fun _ => ?_)
      change wpAnyH _ _ _ _ _ 17 (Array.replicate 17 false) _ w5.drew
      refine wpAnyH_takeG 0 100 (.pointer (some ⟨w.heap.size, 4, none⟩)) rfl rfl (by kernel_rfl) (by kernel_rfl) (by kernel_rfl) (fun _ _ _ h => h) rfl ?_ t5 ?_
      · rintro w s0
        go_simp
        try with_reducible rfl
      try simp only [Act.put, List.setIfInBounds_toArray, List.set_cons_zero, List.set_cons_succ]
      refine wpAnyH_takeG 1 101 (.int .i64 s.lvl) rfl rfl (by kernel_rfl) (by kernel_rfl) (by kernel_rfl) (fun _ _ _ h => h) rfl ?_ t5 ?_
      · rintro w s0
        go_simp
        try with_reducible rfl
      try simp only [Act.put, List.setIfInBounds_toArray, List.set_cons_zero, List.set_cons_succ]
      refine wpAnyH_takeG 2 102 (.int .i64 (bits .and .i64 s.lvl 2)) rfl rfl (by kernel_rfl) (by kernel_rfl) (by kernel_rfl) (fun _ _ _ h => h) rfl ?_ t5 ?_
      · rintro w s0
        go_simp
        try with_reducible rfl
      try simp only [Act.put, List.setIfInBounds_toArray, List.set_cons_zero, List.set_cons_succ]
      refine wpAnyH_takeG 3 103 (.bool true) rfl rfl (by kernel_rfl) (by kernel_rfl) (by kernel_rfl) (fun _ _ _ h => h) rfl ?_ t5 ?_
      · rintro w s0
        go_simp
        try with_reducible rfl
      try simp only [Act.put, List.setIfInBounds_toArray, List.set_cons_zero, List.set_cons_succ]
      refine wpAnyH_takeG 4 104 (.bool true) rfl rfl (by kernel_rfl) (by kernel_rfl) (by kernel_rfl) (fun _ _ _ h => h) rfl ?_ t5 ?_
      · rintro w s0
        go_simp
        try with_reducible rfl
      try simp only [Act.put, List.setIfInBounds_toArray, List.set_cons_zero, List.set_cons_succ]
      refine wpAnyH_takeU 5 105 rfl rfl (by kernel_rfl) (by kernel_rfl) (by kernel_rfl) (fun _ _ _ h => h) rfl t5 ?_
      try simp only [Act.put, List.setIfInBounds_toArray, List.set_cons_zero, List.set_cons_succ]
      refine wpAnyH_takeU 6 106 rfl rfl (by kernel_rfl) (by kernel_rfl) (by kernel_rfl) (fun _ _ _ h => h) rfl t5 ?_
      try simp only [Act.put, List.setIfInBounds_toArray, List.set_cons_zero, List.set_cons_succ]
      refine wpAnyH_takeU 7 107 rfl rfl (by kernel_rfl) (by kernel_rfl) (by kernel_rfl) (fun _ _ _ h => h) rfl t5 ?_
      try simp only [Act.put, List.setIfInBounds_toArray, List.set_cons_zero, List.set_cons_succ]
      refine wpAnyH_takeU 8 108 rfl rfl (by kernel_rfl) (by kernel_rfl) (by kernel_rfl) (fun _ _ _ h => h) rfl t5 ?_
      try simp only [Act.put, List.setIfInBounds_toArray, List.set_cons_zero, List.set_cons_succ]
      refine wpAnyH_takeU 9 109 rfl rfl (by kernel_rfl) (by kernel_rfl) (by kernel_rfl) (fun _ _ _ h => h) rfl t5 ?_
      try simp only [Act.put, List.setIfInBounds_toArray, List.set_cons_zero, List.set_cons_succ]
      refine wpAnyH_takeU 10 110 rfl rfl (by kernel_rfl) (by kernel_rfl) (by kernel_rfl) (fun _ _ _ h => h) rfl t5 ?_
      try simp only [Act.put, List.setIfInBounds_toArray, List.set_cons_zero, List.set_cons_succ]
      refine wpAnyH_takeU 11 111 rfl rfl (by kernel_rfl) (by kernel_rfl) (by kernel_rfl) (fun _ _ _ h => h) rfl t5 ?_
      try simp only [Act.put, List.setIfInBounds_toArray, List.set_cons_zero, List.set_cons_succ]
      refine wpAnyH_takeG 12 112 (.bool true) rfl rfl (by kernel_rfl) (by kernel_rfl) (by kernel_rfl) (fun _ _ _ h => h) rfl ?_ t5 ?_
      · rintro w s0
        go_simp
        try with_reducible rfl
      try simp only [Act.put, List.setIfInBounds_toArray, List.set_cons_zero, List.set_cons_succ]
      refine wpAnyH_takeG 13 113 (.bool true) rfl rfl (by kernel_rfl) (by kernel_rfl) (by kernel_rfl) (fun _ _ _ h => h) rfl ?_ t5 ?_
      · rintro w s0
        go_simp
        try with_reducible rfl
      try simp only [Act.put, List.setIfInBounds_toArray, List.set_cons_zero, List.set_cons_succ]
      refine wpAnyH_oneG (i := 14) (by kernel_rfl) rfl rfl ?_
      intro Kx hKx
      go_simp
      refine (awake_any _).mono ?_
      rintro e w6 ⟨rfl, hb6⟩
      have HRW6 := Lib.hid (HRW5.out.dr.on hb6)
      have t6 := (row5 HRW6.out.r1).2.2.2.2
      dsimp only
      refine hKx _ _ t6 ?_
      clear hKx Kx
      try simp only [Act.put, List.setIfInBounds_toArray, List.set_cons_zero, List.set_cons_succ]
      refine wpAnyH_takeG 15 115 (.bool true) rfl rfl (by kernel_rfl) (by kernel_rfl) (by kernel_rfl) (fun _ _ _ h => h) rfl ?_ t6 ?_
      · rintro w s0
        go_simp
        try with_reducible rfl
      try simp only [Act.put, List.setIfInBounds_toArray, List.set_cons_zero, List.set_cons_succ]
      refine wpAnyH_oneG (i := 16) (by kernel_rfl) rfl rfl ?_
      intro Kx hKx
      go_simp
      refine hKx _ _ t6 ?_
      clear hKx Kx
      try simp only [Act.put, List.setIfInBounds_toArray, List.set_cons_zero, List.set_cons_succ]
      refine wpAnyH_done (by kernel_rfl) ?_ _
      go_wp2_with fail
      go_ret
      exact ⟨rfl, HRW6.out.b⟩
  | false =>
    have hqb : (bits .and .i64 s.lvl 2 != 0) = false := hq
    have hBl2 : BB.length = x.data.length := by rw [HBL.out, if_neg (by rw [hq]; simp)]
    have hBB := HBX.out hq
    obtain ⟨B4, d4, e4, hle4, _, hrd⟩ := id HV4.out
    obtain ⟨b4, o4, rfl, _, _⟩ := hrd (by rw [hdl]; omega)
    injection e4 with e41 e42 e43
    subst e41 e43
    have hsl := HV4.out.take (m := x.data.length) (by rw [hdl]; omega)
    rw [show DD.take x.data.length = x.data from by have h := HDT.out; rw [hdl, hBl2, Nat.add_sub_cancel] at h; rw [h]; exact hBB] at hsl
    have hc4 : ¬ c4 < x.data.length := by omega
    have HSL := Lib.hid hsl
    clear hsl
    go_wp2_with fail
    have hr5 := HRW4.out.al (Obj.cells #[.int .i64 (x.cla + 4), .int .i64 x.ins, .int .i64 x.p1, .int .i64 x.p2, .slice (some ⟨b4, o4, none⟩) (x.data.length + 8) c4, .int .i64 x.le, .bool lg] 30)
    have hy5 := heap_alloc_new w4 (Obj.cells #[.int .i64 (x.cla + 4), .int .i64 x.ins, .int .i64 x.p1, .int .i64 x.p2, .slice (some ⟨b4, o4, none⟩) (x.data.length + 8) c4, .int .i64 x.le, .bool lg] 30)
    have hs5 := HSL.out.on (alloc_below w4 (Obj.cells #[.int .i64 (x.cla + 4), .int .i64 x.ins, .int .i64 x.p1, .int .i64 x.p2, .slice (some ⟨b4, o4, none⟩) (x.data.length + 8) c4, .int .i64 x.le, .bool lg] 30))
    generalize w4.alloc (Obj.cells #[.int .i64 (x.cla + 4), .int .i64 x.ins, .int .i64 x.p1, .int .i64 x.p2, .slice (some ⟨b4, o4, none⟩) (x.data.length + 8) c4, .int .i64 x.le, .bool lg] 30) = w5 at *
    have HRW5 := Lib.hid hr5
    have HSA : Hid (Calls Tryd.prog 19 #[.slice (some ⟨b4, o4, none⟩) x.data.length c4, .slice A x.data.length k] w5.drew fun e w' => e = .returned (.bool true) ∧ ∃ n, w' = w5.drew.drewN n) := by
      have := rsame_any x.data x.data _ _ w5.drew w5.heap.size (hs5.on (Below.refl _ _).drew) ((HX.out.on hr5.b).on (Below.refl _ _).drew)
      rw [decide_eq_true rfl] at this
      exact this
    clear q0 q1 q2 q3 q4 q5 q6 f0 f1 f2 f3 f4 f5 f6 t0 t1 t2 t3 t4 hx1 hx2 hx3 hx4 hx5
    have t5 : (fun W : World => W.cell? ⟨w.heap.size, 4, none⟩ = some (.int .i64 s.lvl) ∧ W.cell? ⟨w4.heap.size, 4, none⟩ = some (.slice (some ⟨b4, o4, none⟩) (x.data.length + 8) c4) ∧ W.cell? ⟨w.heap.size + 1, 4, none⟩ = some (.slice A x.data.length k)) w5.drew := ⟨(row5 hr5.r1).2.2.2.2, cell_of_row _ _ 4 _ _ _ hy5, cell_of_row _ _ 4 _ _ _ hr5.r2⟩
    have HY5 := Lib.hid hy5
    have hqe : (bits .and .i64 s.lvl 2 == 0) = true := by rw [bne] at hqb; simpa using hqb
    clear hr5 hy5 hs5
    refine wp_region_held_drew (S := fun W => W.cell? ⟨w.heap.size, 4, none⟩ = some (.int .i64 s.lvl) ∧ W.cell? ⟨w4.heap.size, 4, none⟩ = some (.slice (some ⟨b4, o4, none⟩) (x.data.length + 8) c4) ∧ W.cell? ⟨w.heap.size + 1, 4, none⟩ = some (.slice A x.data.length k)) rfl t5 (fun _ => ?_)
    change wpAnyH _ _ _ _ _ 17 (Array.replicate 17 false) _ w5.drew
    refine wpAnyH_takeG 0 100 (.pointer (some ⟨w.heap.size, 4, none⟩)) rfl rfl (by kernel_rfl) (by kernel_rfl) (by kernel_rfl) (fun _ _ _ h => h) rfl ?_ t5 ?_
    · rintro w ⟨s0, s1, s2⟩
      go_simp
      try with_reducible rfl
    try simp only [Act.put, List.setIfInBounds_toArray, List.set_cons_zero, List.set_cons_succ]
    refine wpAnyH_takeG 1 101 (.int .i64 s.lvl) rfl rfl (by kernel_rfl) (by kernel_rfl) (by kernel_rfl) (fun _ _ _ h => h) rfl ?_ t5 ?_
    · rintro w ⟨s0, s1, s2⟩
      go_simp
      try with_reducible rfl
    try simp only [Act.put, List.setIfInBounds_toArray, List.set_cons_zero, List.set_cons_succ]
    refine wpAnyH_takeG 2 102 (.int .i64 (bits .and .i64 s.lvl 2)) rfl rfl (by kernel_rfl) (by kernel_rfl) (by kernel_rfl) (fun _ _ _ h => h) rfl ?_ t5 ?_
    · rintro w ⟨s0, s1, s2⟩
      go_simp
      try with_reducible rfl
    try simp only [Act.put, List.setIfInBounds_toArray, List.set_cons_zero, List.set_cons_succ]
    refine wpAnyH_takeG 3 103 (.bool false) rfl rfl (by kernel_rfl) (by kernel_rfl) (by kernel_rfl) (fun _ _ _ h => h) rfl ?_ t5 ?_
    · rintro w ⟨s0, s1, s2⟩
      go_simp
      try with_reducible rfl
    try simp only [Act.put, List.setIfInBounds_toArray, List.set_cons_zero, List.set_cons_succ]
    refine wpAnyH_takeG 4 104 (.bool false) rfl rfl (by kernel_rfl) (by kernel_rfl) (by kernel_rfl) (fun _ _ _ h => h) rfl ?_ t5 ?_
    · rintro w ⟨s0, s1, s2⟩
      go_simp
      try with_reducible rfl
    try simp only [Act.put, List.setIfInBounds_toArray, List.set_cons_zero, List.set_cons_succ]
    refine wpAnyH_takeG 5 105 (.pointer (some ⟨w4.heap.size, 4, none⟩)) rfl rfl (by kernel_rfl) (by kernel_rfl) (by kernel_rfl) (fun _ _ _ h => h) rfl ?_ t5 ?_
    · rintro w ⟨s0, s1, s2⟩
      go_simp
      try with_reducible rfl
    try simp only [Act.put, List.setIfInBounds_toArray, List.set_cons_zero, List.set_cons_succ]
    refine wpAnyH_takeG 6 106 (.slice (some ⟨b4, o4, none⟩) (x.data.length + 8) c4) rfl rfl (by kernel_rfl) (by kernel_rfl) (by kernel_rfl) (fun _ _ _ h => h) rfl ?_ t5 ?_
    · rintro w ⟨s0, s1, s2⟩
      go_simp
      try with_reducible rfl
    try simp only [Act.put, List.setIfInBounds_toArray, List.set_cons_zero, List.set_cons_succ]
    refine wpAnyH_takeG 7 107 (.int .i64 (x.data.length : Int)) rfl rfl (by kernel_rfl) (by kernel_rfl) (by kernel_rfl) (fun _ _ _ h => h) rfl ?_ t5 ?_
    · rintro w ⟨s0, s1, s2⟩
      go_simp
      try with_reducible rfl
    try simp only [Act.put, List.setIfInBounds_toArray, List.set_cons_zero, List.set_cons_succ]
    refine wpAnyH_takeG 8 108 (.slice (some ⟨b4, o4, none⟩) x.data.length c4) rfl rfl (by kernel_rfl) (by kernel_rfl) (by kernel_rfl) (fun _ _ _ h => h) rfl ?_ t5 ?_
    · rintro w ⟨s0, s1, s2⟩
      go_simp
      try with_reducible rfl
    try simp only [Act.put, List.setIfInBounds_toArray, List.set_cons_zero, List.set_cons_succ]
    refine wpAnyH_takeG 9 109 (.pointer (some ⟨w.heap.size + 1, 4, none⟩)) rfl rfl (by kernel_rfl) (by kernel_rfl) (by kernel_rfl) (fun _ _ _ h => h) rfl ?_ t5 ?_
    · rintro w ⟨s0, s1, s2⟩
      go_simp
      try with_reducible rfl
    try simp only [Act.put, List.setIfInBounds_toArray, List.set_cons_zero, List.set_cons_succ]
    refine wpAnyH_takeG 10 110 (.slice A x.data.length k) rfl rfl (by kernel_rfl) (by kernel_rfl) (by kernel_rfl) (fun _ _ _ h => h) rfl ?_ t5 ?_
    · rintro w ⟨s0, s1, s2⟩
      go_simp
      try with_reducible rfl
    try simp only [Act.put, List.setIfInBounds_toArray, List.set_cons_zero, List.set_cons_succ]
    refine wpAnyH_oneG (i := 11) (by kernel_rfl) rfl rfl ?_
    intro Kx hKx
    go_simp
    refine HSA.out.mono ?_
    rintro e w6 ⟨rfl, nq, rfl⟩
    have HRW6 := Lib.hid (HRW5.out.dr.drn nq)
    have t6 : (fun W : World => W.cell? ⟨w.heap.size, 4, none⟩ = some (.int .i64 s.lvl) ∧ W.cell? ⟨w4.heap.size, 4, none⟩ = some (.slice (some ⟨b4, o4, none⟩) (x.data.length + 8) c4) ∧ W.cell? ⟨w.heap.size + 1, 4, none⟩ = some (.slice A x.data.length k)) (w5.drew.drewN nq) := t5
    have hm6 : (w5.drew.drewN nq).heap = w5.heap := rfl
    generalize w5.drew.drewN nq = w6 at *
    dsimp only
    refine hKx _ _ t6 ?_
    clear hKx Kx
    try simp only [Act.put, List.setIfInBounds_toArray, List.set_cons_zero, List.set_cons_succ]
    refine wpAnyH_takeG 12 112 (.bool true) rfl rfl (by kernel_rfl) (by kernel_rfl) (by kernel_rfl) (fun _ _ _ h => h) rfl ?_ t6 ?_
    · rintro w ⟨s0, s1, s2⟩
      go_simp
      try with_reducible rfl
    try simp only [Act.put, List.setIfInBounds_toArray, List.set_cons_zero, List.set_cons_succ]
    refine wpAnyH_takeG 13 113 (.bool true) rfl rfl (by kernel_rfl) (by kernel_rfl) (by kernel_rfl) (fun _ _ _ h => h) rfl ?_ t6 ?_
    · rintro w ⟨s0, s1, s2⟩
      go_simp
      try with_reducible rfl
    try simp only [Act.put, List.setIfInBounds_toArray, List.set_cons_zero, List.set_cons_succ]
    refine wpAnyH_oneG (i := 14) (by kernel_rfl) rfl rfl ?_
    intro Kx hKx
    go_simp
    refine (awake_any _).mono ?_
    rintro e w7 ⟨rfl, hb7⟩
    have HRW7 := Lib.hid (HRW6.out.on hb7)
    have t7 : (fun W : World => W.cell? ⟨w.heap.size, 4, none⟩ = some (.int .i64 s.lvl) ∧ W.cell? ⟨w4.heap.size, 4, none⟩ = some (.slice (some ⟨b4, o4, none⟩) (x.data.length + 8) c4) ∧ W.cell? ⟨w.heap.size + 1, 4, none⟩ = some (.slice A x.data.length k)) w7 := ⟨(row5 HRW7.out.r1).2.2.2.2, cell_of_row _ _ 4 _ _ _ ((hb7.block _ (by rw [hm6]; exact blk_lt HY5.out)).trans (by rw [hm6]; exact HY5.out)), cell_of_row _ _ 4 _ _ _ HRW7.out.r2⟩
    dsimp only
    refine hKx _ _ t7 ?_
    clear hKx Kx
    try simp only [Act.put, List.setIfInBounds_toArray, List.set_cons_zero, List.set_cons_succ]
    refine wpAnyH_takeG 15 115 (.bool true) rfl rfl (by kernel_rfl) (by kernel_rfl) (by kernel_rfl) (fun _ _ _ h => h) rfl ?_ t7 ?_
    · rintro w ⟨s0, s1, s2⟩
      go_simp
      try with_reducible rfl
    try simp only [Act.put, List.setIfInBounds_toArray, List.set_cons_zero, List.set_cons_succ]
    refine wpAnyH_oneG (i := 16) (by kernel_rfl) rfl rfl ?_
    intro Kx hKx
    go_simp
    refine hKx _ _ t7 ?_
    clear hKx Kx
    try simp only [Act.put, List.setIfInBounds_toArray, List.set_cons_zero, List.set_cons_succ]
    refine wpAnyH_done (by kernel_rfl) ?_ _
    go_wp2_with fail
    go_ret
    exact ⟨rfl, HRW7.out.b⟩
--C
theorem law_sizes (s : Ss) (v0 v1 v2 v3 : Value) (m : List UInt8) (vm : Value) (x : Cm) (dv : Value) (W : World) (h0 : SL W W.heap.size v0 s.enc) (h1 : SL W W.heap.size v1 s.mac) (h2 : SL W W.heap.size v2 s.rmac) (h3 : SL W W.heap.size v3 s.dat) (hm : SL W W.heap.size vm m) (hx : SL W W.heap.size dv x.data)
    (hle : -9223372036854775808 ≤ x.le ∧ x.le ≤ 9223372036854775807) (ht : ET W) :
    Calls Tryd.prog 6 #[s.val v0 v1 v2 v3, vm, x.val dv] W fun e w' => e = .returned (.bool true) ∧ Below W.heap.size W w' := by
  obtain ⟨A, k, rfl, _⟩ := id hx
  exact law_sizes1 s m x v0 v1 v2 v3 vm A k W h0 h1 h2 h3 hm hx ht hle
end Go.Proofs.YtdalcldilmmgmaaDoor
