/-
  The walk of works.
-/
import Derived.Test.YtiholfpcndjliaaDoorPgp
namespace Go.Proofs.YtiholfpcndjliaaDoor
set_option linter.unusedVariables false
set_option linter.unusedSimpArgs false
open Go.RowKit

def b78 : List UInt8 := [7, 8]
theorem b78_sl (w : World) : SL (w.alloc (.cells #[.int .u8 7, .int .u8 8] 5)) (w.alloc (.cells #[.int .u8 7, .int .u8 8] 5)).heap.size (.slice (some ⟨w.heap.size, 0, none⟩) 2 2) b78 :=
  ⟨some ⟨w.heap.size, 0, none⟩, 2, rfl, by decide, by simp only [maxLen]; omega, fun _ => ⟨w.heap.size, 0, rfl, by simp, fun k hk => by
    have hk2 : k < 2 := hk
    rw [cell_of_row _ _ (0 + k) _ _ _ (heap_alloc_new w _)]
    have h3 : k = 0 ∨ k = 1 := by omega
    rcases h3 with rfl | rfl <;> rfl⟩⟩
theorem mk_bytes (W : World) (n : Nat) (hn : n ≤ 65536) : (Instr.makeSlice 39 (.int .i64 (n : Int)) (.int .i64 (n : Int))).run Tryd.prog W = .ok (.slice (some ⟨W.heap.size, 0, none⟩) n n) (W.alloc (.cells (((List.replicate n (0 : UInt8)).map bv).toArray) 5)) := by
  obtain ⟨i0, hi0, hz0, hz1, hz2⟩ := info_parts info5
  have := run_make (P := Tryd.prog) W 39 5 i0 _ Tryd.underlying39 hi0 hz0 .i64 .i64 (n : Int) (n : Int) (by omega) (Int.le_refl _) (by rw [hz2]; omega) (by omega)
  rw [hz1, Int.toNat_natCast] at this
  have e : madeCells (Value.int .u8 0).cells (n * 1) = (((List.replicate n (0 : UInt8)).map bv).toArray) := by
    apply Array.toList_inj.1
    show (madeCells #[Value.int .u8 0] (n * 1)).toList = _
    rw [toList_madeCells_one, Nat.mul_one, List.map_replicate]
    rfl
  rw [e] at this
  exact this
theorem mk_ob (W : World) (n : Nat) (hn : n ≤ 65536) : OB (W.alloc (.cells (((List.replicate n (0 : UInt8)).map bv).toArray) 5)) W.heap.size (.slice (some ⟨W.heap.size, 0, none⟩) n n) (List.replicate n 0) :=
  OB.of_cells (Nat.le_refl _) (by simp) (by simp only [maxLen]; omega) (heap_alloc_new _ _)
section
variable {P : Program} {ops : Array Oper} {md : Region.Mode} {Q : Exit → Act → World → Prop}
/-- An operation taken first, its guard decided. -/
theorem wpAnyH_takeG {S : World → Prop} (i d : Nat) (v : Value) {oi : Oper} {fuel : Nat} {listed : Array Bool} {T : Array Value} {ds : List Deferred} {w : World} (hi : ops[i]? = some oi) (hdst : oi.dst = some d)
    (hs : Region.noSelect ops = true) (hf : Region.free md ops listed i = true) (hr : (Region.ready md ops listed).contains i = true)
    (hQ : ∀ c a w, Q (.panic c) (Act.put a oi.dst v) w → Q (.panic c) a w) (hg : Region.wanted oi (yielded ops T) = true) (hy : ∀ w, S w → (execOp ({ tmps := T, defers := ds } : Act).eval oi).run P w = .ok (.value v) w) (hS : S w)
    (h : wpAnyH P md ops Q S fuel (listed.setIfInBounds i true) { tmps := T.setIfInBounds d v, defers := ds } w) : wpAnyH P md ops Q S (fuel + 1) listed { tmps := T, defers := ds } w := by
  refine wpAnyH_take (v := v) hi hs hf hr (fun c a w => hQ c a w) (.inl ⟨hg, hy⟩) hS ?_
  rw [hdst]
  exact h
/-- The one operation that may come up, its guard decided. -/
theorem wpAnyH_oneG {S : World → Prop} {i fuel : Nat} {o : Oper} {listed : Array Bool} {a : Act} {w : World} (hr : Region.ready md ops listed = [i]) (hi : ops[i]? = some o) (hg : Region.wanted o (yielded ops a.tmps) = true)
    (h : ∀ K : Act → World → Prop, (∀ a' w', S w' → wpAnyH P md ops Q S fuel (listed.setIfInBounds i true) a' w' → K a' w') → o.wp P a w K Q) : wpAnyH P md ops Q S (fuel + 1) listed a w := by
  refine wpAnyH_all hr (by simp) fun j hj => ?_
  obtain rfl : j = i := by simpa using hj
  unfold wpOp
  simp only [hi, hg, if_true]
  exact .inl (h _ fun a' w' h1 h2 => ⟨h1, h2⟩)
end
theorem page_240 (i : Int) : rE 240 i = if 0 ≤ i ∧ i < 10 then 0 else 2 := rfl
set_option maxRecDepth 100000 in
set_option maxHeartbeats 3200000 in
theorem works_any (w : World) (hT : Tb w) : Calls Tryd.prog 15 #[] w fun e w' => e = .returned (.bool true) ∧ Below w.heap.size w w' := by
  have HO := Lib.hid (lopen_any 240 w (by omega) (by omega) hT)
  unfold OpnR at HO
  clear hT
  go_enter Tryd.func15, Tryd.ntmps15
  go_wp2_with fail
  refine HO.out.mono ?_
  rintro e w1 ⟨pb, b, g, gf, gh, rfl, p1, p2, p3, p4, p5, hpm, hb1⟩
  have hps := lopen_ps (by omega) (by omega) hpm
  obtain ⟨X, hXe⟩ : ∃ X : Nat → Prop, (fun k => k = b ∨ k = g ∨ k = pb ∨ k = gf ∨ k = gh) = X := ⟨_, rfl⟩
  have hXb : ∀ k, X k → w.heap.size ≤ k := fun k hk => by rw [← hXe] at hk; rcases hk with rfl | rfl | rfl | rfl | rfl <;> assumption
  rw [hXe] at hps
  obtain ⟨s, hs⟩ : ∃ s, st0 240 1073741824 = s := ⟨_, rfl⟩
  obtain ⟨d, hd⟩ : ∃ d, ldD (List.replicate 240 0) 0 0 = d := ⟨_, rfl⟩
  have hws : s.ws = List.replicate 240 0 := by rw [← hs]; rfl
  have hcut : s.cut = none := by rw [← hs]; rfl
  have hdP : d.P = 10 := by rw [← hd]; show (List.replicate 240 0).length / 24 = 10; simp
  rw [hs, hd] at hps
  have hlen : s.ws.length = 240 := by rw [hws]; simp
  have HCN := pcount_any hps.pm.pg
  rw [hdP] at HCN
  have HCN := Lib.hid HCN
  have HPS := Lib.hid hps
  have HB1 := Lib.hid hb1
  have HXB := Lib.hid hXb
  have HLEN := Lib.hid hlen
  have HWS := Lib.hid hws
  have HCUT := Lib.hid hcut
  clear hps hb1 hXb hlen hws hcut hdP hs hd hpm hXe p1 p2 p3 p4 p5
  go_wp2_with fail
  refine HCN.out.mono ?_
  rintro e wx ⟨rfl, hwx⟩
  rw [hwx]
  clear hwx wx HCN
  have hal := alloc_below w1 (.cells #[.int .u8 7, .int .u8 8] 5)
  have HPS2 := Lib.hid (HPS.out.on hal)
  have HB2 := Lib.hid (HB1.out.trans (hal.mono HB1.out.size))
  have HBK := Lib.hid (block_any b78 _ _ (b78_sl w1))
  unfold BlkR at HBK
  clear hal
  go_wp2_with fail
  refine HBK.out.mono ?_
  rintro e w3 ⟨v, rfl, hv, hb3⟩
  obtain ⟨A3, c3, hvv⟩ := hv.value
  rw [blk_len] at hvv
  subst hvv
  have hps3 := HPS2.out.on hb3
  have HB3 := Lib.hid (HB2.out.trans (hb3.mono HB2.out.size))
  have hvx := SLx.of_ob hv HPS2.out.xl
  have hw4 := lwrite_any hps3 (by omega) (by omega) HCUT.out 3 _ _ hvx
  have hwe : wE s.ws.length 3 (blk b78) = 0 := by rw [HLEN.out]; unfold wE; rw [if_neg (by rw [blk_len]; simp), if_pos (by decide)]
  unfold LwR at hw4
  rw [hwe] at hw4
  have HW4 := Lib.hid hw4
  clear hw4 hwe hvx hps3 hv hb3 HPS2 HPS HBK
  go_wp2_with fail
  refine HW4.out.mono ?_
  rintro e w4 ⟨s4, d4, lf4, y4, rfl, hps4, hk4, hcut4, hcu4, hlen4, hex4, hfx4, hpg4⟩
  have HB4 := Lib.hid (HB3.out.trans (hk4.below HXB.out HB3.out.size))
  have HPS4 := Lib.hid hps4
  have HCUT4 := Lib.hid hcut4
  have hl4 : s4.ws.length = 240 := by rw [hlen4, HLEN.out]
  have HL4 := Lib.hid hl4
  have HPG4 := Lib.hid hpg4
  clear hps4 hk4 hcut4 hcu4 hlen4 hex4 hfx4 hpg4 hl4 HW4
  have hmk := mk_bytes w4 47 (by omega)
  have hown5 := mk_ob w4 47 (by omega)
  have hb5 := alloc_below w4 (.cells (((List.replicate 47 (0 : UInt8)).map bv).toArray) 5)
  change (Instr.makeSlice 39 (.int .i64 47) (.int .i64 47)).run Tryd.prog w4 = _ at hmk
  generalize w4.alloc (.cells (((List.replicate 47 (0 : UInt8)).map bv).toArray) 5) = w5 at *
  have hps5 := HPS4.out.on hb5
  have HB5 := Lib.hid (HB4.out.trans (hb5.mono HB4.out.size))
  have hw6 := lwrite_any hps5 (by omega) (by omega) HCUT4.out 3 _ _ (SLx.of_ob hown5 HPS4.out.xl)
  have hwe : wE s4.ws.length 3 (List.replicate 47 0) = 1 := by unfold wE; rw [if_pos (by simp)]
  unfold LwR at hw6
  rw [hwe] at hw6
  have HW6 := Lib.hid hw6
  clear hw6 hwe hps5 hown5 hb5
  go_wp2_with fail
  refine HW6.out.mono ?_
  rintro e w6 ⟨s6, d6, lf6, y6, rfl, hps6, hk6, hcut6, hcu6, hlen6, hex6, hfx6, hpg6⟩
  have HB6 := Lib.hid (HB5.out.trans (hk6.below HXB.out HB5.out.size))
  have HPS6 := Lib.hid hps6
  have hl6 : s6.ws.length = 240 := by rw [hlen6, HL4.out]
  have HL6 := Lib.hid hl6
  have hp3 : pageW s6.ws 3 = blk b78 := by
    rw [hpg6 3 (by rw [HL4.out]; omega), if_neg (by omega), HPG4.out 3 (by rw [HLEN.out]; omega), if_pos (by simp)]
  have hp2 : pageW s6.ws 2 = List.replicate 48 0 := by
    rw [hpg6 2 (by rw [HL4.out]; omega), if_neg (by omega), HPG4.out 2 (by rw [HLEN.out]; omega), if_neg (by omega), HWS.out]
    exact page_zero 240 2
  have HP3 := Lib.hid hp3
  have HP2 := Lib.hid hp2
  clear hps6 hk6 hcut6 hcu6 hlen6 hex6 hfx6 hpg6 hl6 hp3 hp2 HW6 HPG4
  have HR := Lib.hid (fun (W : World) (y : Int) (i : Int) (hp : Ps W X pb b g gf gh s6 lf6 d6 y (0 + 40 + 40) (0 + 2 + 2)) => lread_any hp i)
  unfold LrR at HR
  rw [HL6.out] at HR
  go_wp2_with fail
  refine (HR.out w6 y6 3 HPS6.out).mono ?_
  rintro e w7 ⟨v7, y7, rfl, hv7, hps7, hk7, _⟩
  rw [if_pos (show rE 240 3 = 0 by decide), show (3 : Int).toNat = 3 from rfl, HP3.out] at hv7
  have hs7 := SLx.of_ob hv7 HPS6.out.xl
  have HS7 := Lib.hid hs7
  have HPS7 := Lib.hid hps7
  have HB7 := Lib.hid (HB6.out.trans (hk7.below HXB.out HB6.out.size))
  clear hv7 hs7 hps7 hk7
  go_wp2_with fail
  refine (HR.out w7 y7 2 HPS7.out).mono ?_
  rintro e w8 ⟨v8, y8, rfl, hv8, hps8, hk8, _⟩
  rw [if_pos (show rE 240 2 = 0 by decide), show (2 : Int).toNat = 2 from rfl, HP2.out] at hv8
  have HS8 := Lib.hid (SLx.of_ob hv8 HPS7.out.xl)
  have HS78 := Lib.hid (HS7.out.kx hk8)
  have HPS8 := Lib.hid hps8
  have HB8 := Lib.hid (HB7.out.trans (hk8.below HXB.out HB7.out.size))
  clear hv8 hps8 hk8
  go_wp2_with fail
  refine (HR.out w8 y8 10 HPS8.out).mono ?_
  rintro e w9 ⟨v9, y9, rfl, hv9, hps9, hk9, _⟩
  have HS9 := Lib.hid (HS8.out.kx hk9)
  have HS79 := Lib.hid (HS78.out.kx hk9)
  have HPS9 := Lib.hid hps9
  have HB9 := Lib.hid (HB8.out.trans (hk9.below HXB.out HB8.out.size))
  rw [show rE 240 10 = 2 by decide] 
  rw [show rE 240 3 = 0 by decide, show rE 240 2 = 0 by decide]
  clear hv9 hps9 hk9 HS7 HS8 HS78
  have hb0 : blk [] = List.replicate 48 0 := by simp [blk]
  have HCV : Hid (∀ W, Below w9.heap.size w9 W → (convert 39 9 v7).run Tryd.prog W = .ok (.string ⟨(blk b78).toArray⟩) W ∧ (convert 39 9 v8).run Tryd.prog W = .ok (.string ⟨(List.replicate 48 (0 : UInt8)).toArray⟩) W) := fun W hW =>
    ⟨(HS79.out.sl.below hW).conv, (HS9.out.sl.below hW).conv⟩
  have HK1 : Hid (∀ W, Below w9.heap.size w9 W → W.heap[w9.heap.size]? = some (.cells #[.int .u8 7, .int .u8 8] 5 (0, 0)) → Calls Tryd.prog 29 #[.slice (some ⟨w9.heap.size, 0, none⟩) 2 2] W fun e w' => ∃ v, e = .returned v ∧ (convert 39 9 v).run Tryd.prog w' = .ok (.string ⟨(blk b78).toArray⟩) w' ∧ Below w9.heap.size w9 w') := fun W hW hr => by
    have hsl : SL W W.heap.size (.slice (some ⟨w9.heap.size, 0, none⟩) 2 2) b78 := ⟨some ⟨w9.heap.size, 0, none⟩, 2, rfl, by decide, by simp only [maxLen]; omega, fun _ => ⟨w9.heap.size, 0, rfl, (Array.getElem?_eq_some_iff.1 hr).1, fun k hk => by
      have hk2 : k < 2 := hk
      rw [cell_of_row _ _ (0 + k) _ _ _ hr]
      have h3 : k = 0 ∨ k = 1 := by omega
      rcases h3 with rfl | rfl <;> rfl⟩⟩
    refine (block_any b78 _ _ hsl).mono ?_
    rintro e w' ⟨v, h1, h2, h3⟩
    exact ⟨v, h1, h2.sl.conv, hW.trans (h3.mono hW.size)⟩
  have hra : (w9.alloc (.cells #[.int .u8 7, .int .u8 8] 5)).drew.heap[w9.heap.size]? = some (.cells #[.int .u8 7, .int .u8 8] 5 (0, 0)) := heap_alloc_new w9 _
  have hbx : Below w9.heap.size w9 (w9.alloc (.cells #[.int .u8 7, .int .u8 8] 5)).drew := (alloc_below w9 _).trans (drewN_below _ _ 1)
  have HK2 : Hid (∀ W, Below w9.heap.size w9 W → Calls Tryd.prog 29 #[.slice none 0 0] W fun e w' => ∃ v, e = .returned v ∧ (convert 39 9 v).run Tryd.prog w' = .ok (.string ⟨(List.replicate 48 (0 : UInt8)).toArray⟩) w' ∧ Below w9.heap.size w9 w') := fun W hW => by
    refine (block_any [] _ _ (SL.nil W W.heap.size 0 none (Nat.zero_le _))).mono ?_
    rintro e w' ⟨v, h1, h2, h3⟩
    rw [hb0] at h2
    exact ⟨v, h1, h2.sl.conv, hW.trans (h3.mono hW.size)⟩
  have HAL : Hid (∀ W, Below w9.heap.size w9 W → Calls Tryd.prog 25 #[.pointer (some ⟨pb, 0, none⟩)] W fun e w' => e = .returned (.bool true) ∧ Below w9.heap.size w9 w') := fun W hW => by
    refine (palive_any (HPS9.out.pm.on hW)).mono ?_
    rintro e w' ⟨h1, n, h2⟩
    exact ⟨by rw [h1, HPS9.out.cu]; simp, by rw [h2]; exact below_drewN hW n⟩
  have hb9 : Below w9.heap.size w9 w9.drew := drewN_below _ _ 1
  have HBA : Hid (∀ W, Below w9.heap.size w9 W → Below w9.heap.size w9 (W.alloc (.cells #[.int .u8 7, .int .u8 8] 5))) := fun W hW => hW.alloc hW.size _
  clear hb0
  go_wp2_with fail
  refine wp_region_held_drew (S := (fun w' => (convert 39 9 v7).run Tryd.prog w' = .ok (.string ⟨(blk b78).toArray⟩) w' ∧ (convert 39 9 v8).run Tryd.prog w' = .ok (.string ⟨(List.replicate 48 (0 : UInt8)).toArray⟩) w')) (by kernel_rfl) ?_ (fun hHeld => ?_)
  · exact HCV.out _ hb9
  change wpAnyH _ _ _ _ _ 30 (Array.replicate 30 false) _ w9.drew
  refine wpAnyH_takeG 0 50 (.int .i64 0) rfl rfl (by kernel_rfl) (by kernel_rfl) (by kernel_rfl) (fun _ _ _ h => h) rfl ?_ (HCV.out _ hb9) ?_
  · rintro w ⟨s0, s1⟩
    go_simp
    try with_reducible rfl
  try simp only [Act.put, List.setIfInBounds_toArray, List.set_cons_zero, List.set_cons_succ]
  refine wpAnyH_takeG 1 51 (.bool true) rfl rfl (by kernel_rfl) (by kernel_rfl) (by kernel_rfl) (fun _ _ _ h => h) rfl ?_ (HCV.out _ hb9) ?_
  · rintro w ⟨s0, s1⟩
    go_simp
    try with_reducible rfl
  try simp only [Act.put, List.setIfInBounds_toArray, List.set_cons_zero, List.set_cons_succ]
  refine wpAnyH_takeG 2 52 (.bool true) rfl rfl (by kernel_rfl) (by kernel_rfl) (by kernel_rfl) (fun _ _ _ h => h) rfl ?_ (HCV.out _ hb9) ?_
  · rintro w ⟨s0, s1⟩
    go_simp
    try with_reducible rfl
  try simp only [Act.put, List.setIfInBounds_toArray, List.set_cons_zero, List.set_cons_succ]
  refine wpAnyH_takeG 3 53 (.int .i64 0) rfl rfl (by kernel_rfl) (by kernel_rfl) (by kernel_rfl) (fun _ _ _ h => h) rfl ?_ (HCV.out _ hb9) ?_
  · rintro w ⟨s0, s1⟩
    go_simp
    try with_reducible rfl
  try simp only [Act.put, List.setIfInBounds_toArray, List.set_cons_zero, List.set_cons_succ]
  refine wpAnyH_takeG 4 54 (.bool true) rfl rfl (by kernel_rfl) (by kernel_rfl) (by kernel_rfl) (fun _ _ _ h => h) rfl ?_ (HCV.out _ hb9) ?_
  · rintro w ⟨s0, s1⟩
    go_simp
    try with_reducible rfl
  try simp only [Act.put, List.setIfInBounds_toArray, List.set_cons_zero, List.set_cons_succ]
  refine wpAnyH_takeG 5 55 (.bool true) rfl rfl (by kernel_rfl) (by kernel_rfl) (by kernel_rfl) (fun _ _ _ h => h) rfl ?_ (HCV.out _ hb9) ?_
  · rintro w ⟨s0, s1⟩
    go_simp
    try with_reducible rfl
  try simp only [Act.put, List.setIfInBounds_toArray, List.set_cons_zero, List.set_cons_succ]
  refine wpAnyH_takeG 6 56 (.bool true) rfl rfl (by kernel_rfl) (by kernel_rfl) (by kernel_rfl) (fun _ _ _ h => h) rfl ?_ (HCV.out _ hb9) ?_
  · rintro w ⟨s0, s1⟩
    go_simp
    try with_reducible rfl
  try simp only [Act.put, List.setIfInBounds_toArray, List.set_cons_zero, List.set_cons_succ]
  refine wpAnyH_takeG 7 57 (.int .i64 2) rfl rfl (by kernel_rfl) (by kernel_rfl) (by kernel_rfl) (fun _ _ _ h => h) rfl ?_ (HCV.out _ hb9) ?_
  · rintro w ⟨s0, s1⟩
    go_simp
    try with_reducible rfl
  try simp only [Act.put, List.setIfInBounds_toArray, List.set_cons_zero, List.set_cons_succ]
  refine wpAnyH_takeG 8 58 (.bool true) rfl rfl (by kernel_rfl) (by kernel_rfl) (by kernel_rfl) (fun _ _ _ h => h) rfl ?_ (HCV.out _ hb9) ?_
  · rintro w ⟨s0, s1⟩
    go_simp
    try with_reducible rfl
  try simp only [Act.put, List.setIfInBounds_toArray, List.set_cons_zero, List.set_cons_succ]
  refine wpAnyH_takeG 9 59 (.bool true) rfl rfl (by kernel_rfl) (by kernel_rfl) (by kernel_rfl) (fun _ _ _ h => h) rfl ?_ (HCV.out _ hb9) ?_
  · rintro w ⟨s0, s1⟩
    go_simp
    try with_reducible rfl
  try simp only [Act.put, List.setIfInBounds_toArray, List.set_cons_zero, List.set_cons_succ]
  refine wpAnyH_takeG 10 60 (.bool true) rfl rfl (by kernel_rfl) (by kernel_rfl) (by kernel_rfl) (fun _ _ _ h => h) rfl ?_ (HCV.out _ hb9) ?_
  · rintro w ⟨s0, s1⟩
    go_simp
    try with_reducible rfl
  try simp only [Act.put, List.setIfInBounds_toArray, List.set_cons_zero, List.set_cons_succ]
  refine wpAnyH_takeG 11 61 v7 rfl rfl (by kernel_rfl) (by kernel_rfl) (by kernel_rfl) (fun _ _ _ h => h) rfl ?_ (HCV.out _ hb9) ?_
  · rintro w ⟨s0, s1⟩
    go_simp
    try with_reducible rfl
  try simp only [Act.put, List.setIfInBounds_toArray, List.set_cons_zero, List.set_cons_succ]
  refine wpAnyH_takeG 12 62 (.string ⟨(blk b78).toArray⟩) rfl rfl (by kernel_rfl) (by kernel_rfl) (by kernel_rfl) (fun _ _ _ h => h) rfl ?_ (HCV.out _ hb9) ?_
  · rintro w ⟨s0, s1⟩
    go_simp
    try with_reducible rfl
  try simp only [Act.put, List.setIfInBounds_toArray, List.set_cons_zero, List.set_cons_succ]
  refine wpAnyH_oneG (i := 13) (by kernel_rfl) rfl rfl ?_
  intro Kx hKx
  go_simp
  refine hKx _ _ (HCV.out _ hbx) ?_
  clear hKx Kx
  try simp only [Act.put, List.setIfInBounds_toArray, List.set_cons_zero, List.set_cons_succ]
  refine wpAnyH_oneG (i := 14) (by kernel_rfl) rfl rfl ?_
  intro Kx hKx
  go_simp
  refine (HK1.out _ hbx hra).mono ?_
  rintro e wa ⟨va, rfl, kc, hba⟩
  dsimp only
  refine hKx _ _ (HCV.out _ hba) ?_
  clear hKx Kx
  try simp only [Act.put, List.setIfInBounds_toArray, List.set_cons_zero, List.set_cons_succ]
  refine wpAnyH_oneG (i := 15) (by kernel_rfl) rfl rfl ?_
  intro Kx hKx
  go_simp
  refine hKx _ _ (HCV.out _ hba) ?_
  clear hKx Kx
  try simp only [Act.put, List.setIfInBounds_toArray, List.set_cons_zero, List.set_cons_succ]
  refine wpAnyH_takeG 16 66 (.bool true) rfl rfl (by kernel_rfl) (by kernel_rfl) (by kernel_rfl) (fun _ _ _ h => h) rfl ?_ (HCV.out _ hba) ?_
  · rintro w ⟨s0, s1⟩
    go_simp
    try with_reducible rfl
  try simp only [Act.put, List.setIfInBounds_toArray, List.set_cons_zero, List.set_cons_succ]
  refine wpAnyH_takeG 17 67 (.bool true) rfl rfl (by kernel_rfl) (by kernel_rfl) (by kernel_rfl) (fun _ _ _ h => h) rfl ?_ (HCV.out _ hba) ?_
  · rintro w ⟨s0, s1⟩
    go_simp
    try with_reducible rfl
  try simp only [Act.put, List.setIfInBounds_toArray, List.set_cons_zero, List.set_cons_succ]
  refine wpAnyH_takeG 18 68 (.bool true) rfl rfl (by kernel_rfl) (by kernel_rfl) (by kernel_rfl) (fun _ _ _ h => h) rfl ?_ (HCV.out _ hba) ?_
  · rintro w ⟨s0, s1⟩
    go_simp
    try with_reducible rfl
  try simp only [Act.put, List.setIfInBounds_toArray, List.set_cons_zero, List.set_cons_succ]
  refine wpAnyH_takeG 19 69 v8 rfl rfl (by kernel_rfl) (by kernel_rfl) (by kernel_rfl) (fun _ _ _ h => h) rfl ?_ (HCV.out _ hba) ?_
  · rintro w ⟨s0, s1⟩
    go_simp
    try with_reducible rfl
  try simp only [Act.put, List.setIfInBounds_toArray, List.set_cons_zero, List.set_cons_succ]
  refine wpAnyH_takeG 20 70 (.string ⟨(List.replicate 48 (0 : UInt8)).toArray⟩) rfl rfl (by kernel_rfl) (by kernel_rfl) (by kernel_rfl) (fun _ _ _ h => h) rfl ?_ (HCV.out _ hba) ?_
  · rintro w ⟨s0, s1⟩
    go_simp
    try with_reducible rfl
  try simp only [Act.put, List.setIfInBounds_toArray, List.set_cons_zero, List.set_cons_succ]
  refine wpAnyH_oneG (i := 21) (by kernel_rfl) rfl rfl ?_
  intro Kx hKx
  go_simp
  refine (HK2.out _ hba).mono ?_
  rintro e wb ⟨vb, rfl, kd, hbb⟩
  dsimp only
  refine hKx _ _ (HCV.out _ hbb) ?_
  clear hKx Kx
  try simp only [Act.put, List.setIfInBounds_toArray, List.set_cons_zero, List.set_cons_succ]
  refine wpAnyH_oneG (i := 22) (by kernel_rfl) rfl rfl ?_
  intro Kx hKx
  go_simp
  refine hKx _ _ (HCV.out _ hbb) ?_
  clear hKx Kx
  try simp only [Act.put, List.setIfInBounds_toArray, List.set_cons_zero, List.set_cons_succ]
  refine wpAnyH_takeG 23 73 (.bool true) rfl rfl (by kernel_rfl) (by kernel_rfl) (by kernel_rfl) (fun _ _ _ h => h) rfl ?_ (HCV.out _ hbb) ?_
  · rintro w ⟨s0, s1⟩
    go_simp
    try with_reducible rfl
  try simp only [Act.put, List.setIfInBounds_toArray, List.set_cons_zero, List.set_cons_succ]
  refine wpAnyH_takeG 24 74 (.bool true) rfl rfl (by kernel_rfl) (by kernel_rfl) (by kernel_rfl) (fun _ _ _ h => h) rfl ?_ (HCV.out _ hbb) ?_
  · rintro w ⟨s0, s1⟩
    go_simp
    try with_reducible rfl
  try simp only [Act.put, List.setIfInBounds_toArray, List.set_cons_zero, List.set_cons_succ]
  refine wpAnyH_takeG 25 75 (.bool true) rfl rfl (by kernel_rfl) (by kernel_rfl) (by kernel_rfl) (fun _ _ _ h => h) rfl ?_ (HCV.out _ hbb) ?_
  · rintro w ⟨s0, s1⟩
    go_simp
    try with_reducible rfl
  try simp only [Act.put, List.setIfInBounds_toArray, List.set_cons_zero, List.set_cons_succ]
  refine wpAnyH_takeG 26 76 (.pointer (some ⟨pb, 0, none⟩)) rfl rfl (by kernel_rfl) (by kernel_rfl) (by kernel_rfl) (fun _ _ _ h => h) rfl ?_ (HCV.out _ hbb) ?_
  · rintro w ⟨s0, s1⟩
    go_simp
    try with_reducible rfl
  try simp only [Act.put, List.setIfInBounds_toArray, List.set_cons_zero, List.set_cons_succ]
  refine wpAnyH_oneG (i := 27) (by kernel_rfl) rfl rfl ?_
  intro Kx hKx
  go_simp
  refine (HAL.out _ hbb).mono ?_
  rintro e wc ⟨rfl, hbc⟩
  dsimp only
  refine hKx _ _ (HCV.out _ hbc) ?_
  clear hKx Kx
  try simp only [Act.put, List.setIfInBounds_toArray, List.set_cons_zero, List.set_cons_succ]
  refine wpAnyH_takeG 28 78 (.bool true) rfl rfl (by kernel_rfl) (by kernel_rfl) (by kernel_rfl) (fun _ _ _ h => h) rfl ?_ (HCV.out _ hbc) ?_
  · rintro w ⟨s0, s1⟩
    go_simp
    try with_reducible rfl
  try simp only [Act.put, List.setIfInBounds_toArray, List.set_cons_zero, List.set_cons_succ]
  refine wpAnyH_takeG 29 0 (.bool true) rfl rfl (by kernel_rfl) (by kernel_rfl) (by kernel_rfl) (fun _ _ _ h => h) rfl ?_ (HCV.out _ hbc) ?_
  · rintro w ⟨s0, s1⟩
    go_simp
    try with_reducible rfl
  try simp only [Act.put, List.setIfInBounds_toArray, List.set_cons_zero, List.set_cons_succ]
  refine wpAnyH_done (by kernel_rfl) ?_ _
  go_wp2_with fail
  go_ret
  exact ⟨rfl, HB9.out.trans (hbc.mono HB9.out.size)⟩
end Go.Proofs.YtiholfpcndjliaaDoor
