/-
  encoding: the walk.
-/
import Derived.Test.YtnbggokmiokhlaaDoorAvw
namespace Go.Proofs.YtnbggokmiokhlaaDoor
set_option linter.unusedVariables false
set_option linter.unusedSimpArgs false
open Go.RowKit

theorem SL.one (w : World) (g : Nat) (z : UInt8) (h : w.heap[g]? = some (.cells #[.int .u8 (z.toNat : Int)] 5 (0, 0))) : SL w w.heap.size (.slice (some ⟨g, 0, none⟩) 1 1) [z] := by
  have hG : g < w.heap.size := by
    rcases Nat.lt_or_ge g w.heap.size with hlt | hge
    · exact hlt
    · rw [Array.getElem?_eq_none hge] at h; cases h
  refine ⟨some ⟨g, 0, none⟩, 1, rfl, Nat.le_refl _, by unfold maxLen; omega, fun _ => ⟨g, 0, rfl, hG, fun k hk => ?_⟩⟩
  have hk0 : k = 0 := by simpa using hk
  subst hk0
  rw [cell_of_row w g _ _ 5 (0, 0) h]
  rfl
theorem step_appS {ops : Array Oper} {o : Oper} {a : Act} {W : World} {K : Act → World → Prop} {Q : Exit → Act → World → Prop} {E : Prop} (hgd : o.guard = none) (s x : Operand)
    (ho : o.op = .call { callee := .builtin .append, args := #[s, x], argTypes := #[24, 24] }) (w : World) (base : Nat) (v : Value) (l m : List UInt8) (A : Option Addr) (c : Nat)
    (hs : a.eval s = v) (hx : a.eval x = .slice A m.length c) (hW : Below w.heap.size w W) (hown : OB w base v l)
    (hm : 0 < m.length → ∃ b o, A = some ⟨b, o, none⟩ ∧ ∀ k, k < m.length → W.cell? ⟨b, o + k, none⟩ = some (.int .u8 ((m.getD k 0).toNat : Int)))
    (hlen : l.length + m.length ≤ 100000000) (hbase : base ≤ w.heap.size)
    (h : ∀ v' w', OB w' base v' (l ++ m) → Below base w w' → K (a.put o.dst v') w') :
    if Region.wanted o (yielded ops a.tmps) = true then Oper.wp Tryd.prog o a W K Q else E := by
  have hw : Region.wanted o (yielded ops a.tmps) = true := by simp [Region.wanted, hgd]
  rw [if_pos hw]
  exact wp_appS s x ho w base v l m A c hs hx hW hown hm hlen hbase h
theorem SL.rd {w : World} {B c : Nat} {A : Option Addr} {l : List UInt8} (h : SL w B (.slice A l.length c) l) : 0 < l.length → ∃ b o, A = some ⟨b, o, none⟩ ∧ b < B ∧ ∀ k, k < l.length → w.cell? ⟨b, o + k, none⟩ = some (.int .u8 ((l.getD k 0).toNat : Int)) := by
  intro hp
  obtain ⟨A', c', e, _, _, h3⟩ := h
  cases e
  exact h3 hp
theorem hdB_or (s : Nat → Gr) (n i : Nat) (Z Z' : Int) (h : Z = (((s i).lo ||| (s i).pr).toNat : Int)) (h' : Z' = (((s i).lo ||| (s i).pr ||| 128).toNat : Int)) : (i + 1 < n → Z' = ((hdB s n i).toNat : Int)) ∧ (¬ i + 1 < n → Z = ((hdB s n i).toNat : Int)) :=
  ⟨fun hi => by rw [hdB, if_pos hi]; exact h', fun hi => by rw [hdB, if_neg hi]; exact h⟩
theorem bodM_le {a : At} (h : Valid a) (hl : a.ibs.length ≤ 200) : ∀ j, j ≤ cntN a → (bodM (grs a a.ibs.length) (cntN a) j).length ≤ (bodM (grs a a.ibs.length) (cntN a) (cntN a)).length ∧ (bodM (grs a a.ibs.length) (cntN a) (cntN a)).length ≤ 404 := by
  have c := cnt_facts h
  have hn : cntV a ≤ ((cntN a : Nat) : Int) := by unfold cntN; omega
  have hn2 : cntN a ≤ 204 := by unfold cntN; omega
  have hT := tot_grs h (cntN a) hn a.ibs.length (Nat.le_refl _)
  have mono : ∀ (s : Nat → Gr) (m j : Nat), j ≤ m → tot s j ≤ tot s m := by
    intro s m
    induction m with
    | zero => intro j hj; obtain rfl : j = 0 := by omega
              exact Nat.le_refl _
    | succ m ih =>
      intro j hj
      rcases Nat.lt_or_ge j (m + 1) with h' | h'
      · exact Nat.le_trans (ih j (by omega)) (by simp [tot])
      · obtain rfl : j = m + 1 := by omega
        exact Nat.le_refl _
  intro j hj
  have := mono (grs a a.ibs.length) (cntN a) j hj
  rw [bodM_len, bodM_len, hT]
  omega

theorem hsv'_below {w w' : World} {B : Nat} {v : Value} {l : List UInt8} (h : SL w B v l) (hb : Below B w w') : SL w' B v l := h.below hb
theorem app_keep {we w5 : World} {base : Nat} {v : Value} {l : List UInt8} (h : base ≤ we.heap.size) (o : Obj) (hO : OB we base v l) (hg : (we.alloc o).drew.grownBy w5 v.ownBlock) :
    Below base we w5 ∧ ∀ k, k < we.heap.size → v.ownBlock ≠ some k → w5.heap[k]? = we.heap[k]? := by
  have hb0 : Below base we (we.alloc o).drew := ((alloc_below we o).mono h).drew
  have hb : Below base we w5 := hb0.grown hg (by show base ≤ (we.alloc o).heap.size; rw [alloc_size]; omega) (fun k hk => (World.ownsRow.lt hO k hk).1)
  refine ⟨hb, fun k hk hne => ?_⟩
  have hs : k < (we.alloc o).drew.heap.size := by show k < (we.alloc o).heap.size; rw [alloc_size]; omega
  exact (hg.block k hs (fun e => hne e.symm)).trans ((alloc_below we o).block k hk)
theorem row3 {W : World} {n : Nat} {x0 x1 x2 : Value} {ty : TypeId} (ra : W.heap[n]? = some (.cells #[x0, x1, x2] ty (0, 0))) :
    W.cell? ⟨n, 0, none⟩ = some x0 ∧ W.cell? ⟨n, 1, none⟩ = some x1 ∧ W.cell? ⟨n, 2, none⟩ = some x2 :=
  ⟨cell_of_row _ _ 0 _ _ _ ra, cell_of_row _ _ 1 _ _ _ ra, cell_of_row _ _ 2 _ _ _ ra⟩
def EncR (a : At) (w : World) (e : Ending) (w' : World) : Prop := ∃ v', e = .returned v' ∧ SL w' w'.heap.size v' (encM a) ∧ Below w.heap.size w w'
set_option maxRecDepth 100000 in
set_option maxHeartbeats 3200000 in
theorem pencd_any (a : At) (v : Value) (w : World) (h : AT w v a) (hv : Valid a) (hl : a.ibs.length ≤ 200) (hT : Tb w) : Calls Tryd.prog 50 #[v] w (EncR a w) := by
  have HV := Lib.hid hv
  have HT := Lib.hid hT
  have HGR := Lib.hid (fun (W : World) (hW : Below w.heap.size w W) => pgrp_any a v W (h.on hW) hv hl)
  have HLE := Lib.hid (bodM_le hv hl)
  have hcf := cnt_facts hv
  have n2 : cntN a ≤ 204 := by unfold cntN; omega
  have n1 : 1 ≤ cntN a := by unfold cntN; omega
  have hhis := hv.his
  obtain ⟨v1, v2, v3, rfl, h1, h2, h3⟩ := h
  have HPN := Lib.hid (fun (W : World) (hW : Below w.heap.size w W) => phas_any a.prs 1 v2 W W.heap.size (h2.on hW))
  have HH := Lib.hid h3
  obtain ⟨A1, c1, rfl, a1, b1, d1⟩ := h1
  obtain ⟨A2, c2, rfl, a2, b2, d2⟩ := h2
  obtain ⟨A3, c3, rfl, a3, b3, d3⟩ := h3
  have HE : Hid (encM a = (if a.inv then 63 else 59) :: (if hasN a.prs 1 then bodV a ++ sumL 0 (bodV a) else bodV a)) := rfl
  have HBV : Hid (bodV a = bodM (grs a a.ibs.length) (cntN a) (cntN a) ++ a.his) := rfl
  unfold maxLen at b1 b2 b3
  clear d1 d2 d3 hcf hT hv
  generalize cntN a = n at *
  generalize hasN a.prs 1 = hs1 at *
  generalize a.inv = I at *
  have hal := Lib.hid (two_alloc w (.cells #[.bool I, .slice A1 a.ibs.length c1, .slice A2 a.prs.length c2, .slice A3 a.his.length c3] 26) (.cells #[.int .u8 59] 5))
  have hr1 := Lib.hid (heap_alloc2_old w (.cells #[.bool I, .slice A1 a.ibs.length c1, .slice A2 a.prs.length c2, .slice A3 a.his.length c3] 26) (.cells #[.int .u8 59] 5))
  have hr2 := Lib.hid (heap_alloc2_new w (.cells #[.bool I, .slice A1 a.ibs.length c1, .slice A2 a.prs.length c2, .slice A3 a.his.length c3] 26) (.cells #[.int .u8 59] 5))
  have hsz : Hid (((w.alloc (.cells #[.bool I, .slice A1 a.ibs.length c1, .slice A2 a.prs.length c2, .slice A3 a.his.length c3] 26)).alloc (.cells #[.int .u8 59] 5)).heap.size = w.heap.size + 2) := by show _ = _; rw [alloc_size, alloc_size]
  cases I with
  | false =>
    go_enter Tryd.func50, Tryd.ntmps50
    go_wp2_with fail
    have hF := SL.one _ _ 59 hr2.out
    have hS : w.heap.size + 1 < ((w.alloc (.cells #[.bool false, .slice A1 a.ibs.length c1, .slice A2 a.prs.length c2, .slice A3 a.his.length c3] 26)).alloc (.cells #[.int .u8 59] 5)).heap.size := by rw [hsz.out]; omega
    have hB0 := hal.out
    have hR0 := hr1.out
    clear hal hr1 hr2 hsz
    generalize ((w.alloc (.cells #[.bool false, .slice A1 a.ibs.length c1, .slice A2 a.prs.length c2, .slice A3 a.his.length c3] 26)).alloc (.cells #[.int .u8 59] 5)) = w0 at *
    have HB0 := Lib.hid hB0
    have HR0 := Lib.hid hR0
    have HF0 := Lib.hid hF
    clear hB0 hR0 hF
    refine (HGR.out _ HB0.out).mono ?_
    rintro e w1 ⟨G, rfl, hg, hb1⟩
    have hz1 : w.heap.size + 1 < w1.heap.size := Nat.lt_of_lt_of_le hS hb1.size
    have HB1 := Lib.hid (HB0.out.trans (hb1.mono HB0.out.size))
    have HR1 := Lib.hid ((hb1.block w.heap.size (Nat.lt_of_le_of_lt (Nat.le_succ _) hS)).trans HR0.out)
    have HF1 := Lib.hid (HF0.out.on hb1)
    have HG := Lib.hid hg
    clear hb1 hg HB0 HR0 HF0 hS
    generalize hSS : grs a a.ibs.length = S at *
    clear hSS
    go_wp2_with fail
    go_loopw [4, 18] (fun u i wr => ∃ k : Nat, k ≤ n ∧ i = .int .i64 k ∧ Hid (OB wr w1.heap.size u (bodM S n k)) ∧ Hid (Below w1.heap.size w1 wr)) (fun _ i _ => n - (intOf i).toNat)
    case atStart => exact ⟨0, Nat.zero_le _, rfl, OB.nil _ _, Below.refl _ _⟩
    case round =>
      obtain ⟨k, hk, rfl, HO, HB⟩ := hrel
      by_cases hlt : k < n
      · obtain ⟨A, cp, e0, e1, e2, hsv⟩ := HG.out.cells k hlt
        have hGl : G < w1.heap.size := HG.out.1
        have e0 := (HB.out.cell (p := ⟨G, k * 3, none⟩) hGl).trans e0
        have e1 := (HB.out.cell (p := ⟨G, k * 3 + 1, none⟩) hGl).trans e1
        have e2 := (HB.out.cell (p := ⟨G, k * 3 + 2, none⟩) hGl).trans e2
        have hvl : (S k).vs.length ≤ 404 := by
          have h1 := (HLE.out (k + 1) (by omega)).1
          have h2 := (HLE.out (k + 1) (by omega)).2
          simp [bodM] at h1
          omega
        have hbl : (bodM S n k).length ≤ 404 := Nat.le_trans (HLE.out k (by omega)).1 (HLE.out k (by omega)).2
        obtain ⟨Z1, hZ1⟩ : ∃ Z : Int, Z = (((S k).lo ||| (S k).pr).toNat : Int) := ⟨_, rfl⟩
        obtain ⟨Z2, hZ2⟩ : ∃ Z : Int, Z = (((S k).lo ||| (S k).pr ||| 128).toNat : Int) := ⟨_, rfl⟩
        have hor1 : bits BinOp.or .u8 ((S k).lo.toNat : Int) ((S k).pr.toNat : Int) = Z1 := by rw [hZ1]; exact bits_or _ _
        have hor2 : bits BinOp.or .u8 Z1 128 = Z2 := by rw [hZ1, hZ2]; exact bits_or _ 128
        have HHD := Lib.hid (hdB_or S n k Z1 Z2 hZ1 hZ2)
        have HST : Hid (bodM S n (k + 1) = bodM S n k ++ [hdB S n k] ++ (S k).vs) := by show _ = _; simp [bodM]
        have HSV := Lib.hid (hsv.below HB.out)
        have i1 : (k : Int) < (n : Int) := by omega
        clear hsv hZ1 hZ2
        generalize (S k).vs = vs at *
        generalize (S k).lo = lo at *
        generalize (S k).pr = pr at *
        generalize hdB S n k = hd at *
        generalize bodM S n k = L at *
        obtain ⟨Au, cu, hu⟩ := HO.out.value
        subst hu
        have hbx := alloc_below wr (.cells #[.int .u8 (lo.toNat : Int), .int .u8 (pr.toNat : Int), .slice A vs.length cp] 99)
        have HX0 := Lib.hid (heap_alloc_new wr (.cells #[.int .u8 (lo.toNat : Int), .int .u8 (pr.toNat : Int), .slice A vs.length cp] 99))
        have HOX := Lib.hid (HO.out.later hbx)
        have HBX := Lib.hid (HB.out.trans (hbx.mono HB.out.size))
        have HVX := Lib.hid (hsv'_below HSV.out (hbx.mono HB.out.size))
        have HXO : Hid ((Value.slice Au L.length cu).ownBlock ≠ some wr.heap.size) := fun e => by have := (World.ownsRow.lt HO.out _ e).2; omega
        clear hbx HSV HO HB
        by_cases hk1 : k + 1 < n
        · have i2 : (k : Int) + 1 < (n : Int) := by omega
          have HZ := Lib.hid (HHD.out.1 hk1)
          go_wp2_with fail
          clear e0 e1 e2 hor1 hor2
          generalize wr.alloc (.cells #[.int .u8 (lo.toNat : Int), .int .u8 (pr.toNat : Int), .slice A vs.length cp] 99) = wx at *
          generalize wr.heap.size = X at *
          obtain ⟨p0, p1, p2⟩ := row3 HX0.out
          have p2a := ((alloc_below wx (.cells #[.int .u8 Z2] 5)).cell (p := ⟨X, 2, none⟩) (World.block_lt_of_cell? wx _ p2)).trans p2
          have HXL := Lib.hid (World.block_lt_of_cell? wx _ p2)
          go_region_law (first
            | (refine step_app1G (by rfl) _ _ (by rfl) w1.heap.size (.slice Au L.length cu) L hd _ wx.heap.size (by rfl) (by rfl) ((HOX.out.later (alloc_below ..)).drew) (heap_alloc_new wx _) HZ.out (Nat.le_trans hbl (by omega)) (by show w1.heap.size ≤ (wx.alloc _).heap.size; rw [alloc_size]; exact Nat.le_succ_of_le HBX.out.size) ?_; intro gg cap w5 hO2 hg2; have hap := app_keep HBX.out.size _ HOX.out hg2; have p2c := (cell_of_row _ _ 2 _ _ _ ((hap.2 X HXL.out HXO.out).trans HX0.out)); have HO2 := Lib.hid hO2; have HAP := Lib.hid hap.1; clear hO2 hg2 hap)
            | (refine step_appS (by rfl) _ _ (by rfl) w5 w1.heap.size _ (L ++ [hd]) vs A cp (by rfl) (by rfl) (Below.refl _ _) HO2.out (fun hp => by obtain ⟨bb, oo, hA, _, hcc⟩ := (HVX.out.below HAP.out).rd hp; exact ⟨bb, oo, hA, hcc⟩) (by simp; omega) (HBX.out.trans HAP.out).size ?_; intro v7 w7 hO7 hb7))
          all_goals
            have hB7 := (HBX.out.trans HAP.out).trans hb7
            rw [← HST.out] at hO7
            have HO7 := Lib.hid hO7
            have HB7 := Lib.hid hB7
            obtain ⟨A7, c7, e7⟩ := hO7.value
            subst e7
            clear hO7 hb7 hB7 p0 p1 p2 p2a p2c
            go_wp2_with fail
            go_roundw
            case rel => exact ⟨k + 1, by omega, by go_num, HO7, HB7⟩
            case measure => simp [intOf]; omega
        · have i2 : ¬ (k : Int) + 1 < (n : Int) := by omega
          have HZ := Lib.hid (HHD.out.2 hk1)
          go_wp2_with fail
          clear e0 e1 e2 hor1 hor2
          generalize wr.alloc (.cells #[.int .u8 (lo.toNat : Int), .int .u8 (pr.toNat : Int), .slice A vs.length cp] 99) = wx at *
          generalize wr.heap.size = X at *
          obtain ⟨p0, p1, p2⟩ := row3 HX0.out
          have p2a := ((alloc_below wx (.cells #[.int .u8 Z1] 5)).cell (p := ⟨X, 2, none⟩) (World.block_lt_of_cell? wx _ p2)).trans p2
          have HXL := Lib.hid (World.block_lt_of_cell? wx _ p2)
          go_region_law (first
            | (refine step_app1G (by rfl) _ _ (by rfl) w1.heap.size (.slice Au L.length cu) L hd _ wx.heap.size (by rfl) (by rfl) ((HOX.out.later (alloc_below ..)).drew) (heap_alloc_new wx _) HZ.out (Nat.le_trans hbl (by omega)) (by show w1.heap.size ≤ (wx.alloc _).heap.size; rw [alloc_size]; exact Nat.le_succ_of_le HBX.out.size) ?_; intro gg cap w5 hO2 hg2; have hap := app_keep HBX.out.size _ HOX.out hg2; have p2c := (cell_of_row _ _ 2 _ _ _ ((hap.2 X HXL.out HXO.out).trans HX0.out)); have HO2 := Lib.hid hO2; have HAP := Lib.hid hap.1; clear hO2 hg2 hap)
            | (refine step_appS (by rfl) _ _ (by rfl) w5 w1.heap.size _ (L ++ [hd]) vs A cp (by rfl) (by rfl) (Below.refl _ _) HO2.out (fun hp => by obtain ⟨bb, oo, hA, _, hcc⟩ := (HVX.out.below HAP.out).rd hp; exact ⟨bb, oo, hA, hcc⟩) (by simp; omega) (HBX.out.trans HAP.out).size ?_; intro v7 w7 hO7 hb7))
          all_goals
            have hB7 := (HBX.out.trans HAP.out).trans hb7
            rw [← HST.out] at hO7
            have HO7 := Lib.hid hO7
            have HB7 := Lib.hid hB7
            obtain ⟨A7, c7, e7⟩ := hO7.value
            subst e7
            clear hO7 hb7 hB7 p0 p1 p2 p2a p2c
            go_wp2_with fail
            go_roundw
            case rel => exact ⟨k + 1, by omega, by go_num, HO7, HB7⟩
            case measure => simp [intOf]; omega
      · obtain rfl : n = k := by omega
        have hbl : (bodM S n n).length ≤ 404 := (HLE.out n (Nat.le_refl _)).2
        have HBVL : Hid ((bodV a).length ≤ 419) := by show _ ≤ _; rw [HBV.out, List.length_append]; omega
        obtain ⟨Au, cu, hu⟩ := HO.out.value
        subst hu
        have HRR := Lib.hid ((HB.out.block _ (Nat.lt_of_succ_lt hz1)).trans HR1.out)
        obtain ⟨r0, r1, r2, r3⟩ := cellsA HRR.out
        have HHR := Lib.hid ((HH.out.below HB1.out).below (HB.out.mono (Nat.le_of_lt (Nat.lt_of_succ_lt hz1))))
        have HBA := Lib.hid (HB1.out.trans (HB.out.mono (Nat.le_of_lt (Nat.lt_of_succ_lt hz1))))
        go_wp2_with (first
          | (at_builtin; refine wpList_appS rfl (.tmp 43) (.tmp 45) rfl wr w1.heap.size _ (bodM S n n) a.his A3 c3 rfl rfl (Below.refl _ _) HO.out (fun hp => by obtain ⟨bb, oo, hA, _, hcc⟩ := HHR.out.rd hp; exact ⟨bb, oo, hA, hcc⟩) (by omega) HB.out.size ?_; intro v8 w8 hO8 hb8; obtain ⟨A8, c8, e8⟩ := hO8.value; subst e8; have HR8 := Lib.hid ((hb8.block _ (Nat.lt_of_succ_lt hz1)).trans HRR.out); clear r0 r1 r2 r3; obtain ⟨r0, r1, r2, r3⟩ := cellsA HR8.out))
        have HB8 := Lib.hid (HBA.out.trans (hb8.mono (Nat.le_of_lt (Nat.lt_of_succ_lt hz1))))
        have HF8 := Lib.hid ((HF1.out.below (HB.out.trans hb8)).more (HB.out.trans hb8).size)
        have EL : (bodM S n n).length + a.his.length = (bodV a).length := by rw [HBV.out, List.length_append]
        rw [List.length_append, EL, ← HBV.out] at hO8
        rw [EL]
        have HO8 := Lib.hid hO8.sl
        clear hO8 hb8 EL
        refine (HPN.out w8 HB8.out).mono ?_
        rintro e w9 ⟨rfl, m, rfl⟩
        have HB9 := Lib.hid (below_drewN HB8.out m)
        have HO9 := Lib.hid (HO8.out.on (drewN_below _ w8 m))
        have HF9 := Lib.hid (HF8.out.on (drewN_below _ w8 m))
        generalize w8.drewN m = w9 at *
        clear r0 r1 r2 r3
        cases hs1 with
        | false =>
          go_wp2_with fail
          refine (pjoin_any [[59], bodV a] _ _ (LL.two w9 _ _ [59] (bodV a) HF9.out HO9.out) (by simp) (by have := HBVL.out; simp [Lib.lens]; omega)).mono ?_
          rintro e w11 ⟨v11, rfl, hv11, hb11⟩
          have HV11 : Hid (SL w11 w11.heap.size v11 (encM a)) := by show SL _ _ _ _; rw [HE.out]; simpa using hv11
          have HB11 := Lib.hid (HB9.out.trans (((alloc_below _ _).trans (hb11.mono (by rw [alloc_size]; omega))).mono HB9.out.size))
          clear hv11 hb11
          go_wp2_with fail
          go_ret
          exact ⟨v11, rfl, HV11.out, HB11.out⟩
        | true =>
          go_wp2_with fail
          refine (papp_any 0 (bodV a) _ w9 HO9.out (HT.out.on HB9.out) (by have := HBVL.out; omega)).mono ?_
          rintro e w10 ⟨v10, rfl, hv10, hb10⟩
          have HB10 := Lib.hid (HB9.out.trans (hb10.mono HB9.out.size))
          have HF10 := Lib.hid (HF9.out.on hb10)
          have HV10 := Lib.hid hv10
          obtain ⟨A10, c10, e10, _⟩ := id hv10
          subst e10
          clear hv10 hb10
          go_wp2_with fail
          refine (pjoin_any [[59], appL 0 (bodV a)] _ _ (LL.two w10 _ _ [59] (appL 0 (bodV a)) HF10.out HV10.out) (by simp) (by have := HBVL.out; have := sumL_len 0 (bodV a); have := sizeK_le 0; have e : appL 0 (bodV a) = bodV a ++ sumL 0 (bodV a) := rfl; simp [Lib.lens, e]; omega)).mono ?_
          rintro e w11 ⟨v11, rfl, hv11, hb11⟩
          have HV11 : Hid (SL w11 w11.heap.size v11 (encM a)) := by
            show SL _ _ _ _
            rw [HE.out]
            have e : appL 0 (bodV a) = bodV a ++ sumL 0 (bodV a) := rfl
            rw [e] at hv11
            simpa using hv11
          have HB11 := Lib.hid (HB10.out.trans (((alloc_below _ _).trans (hb11.mono (by rw [alloc_size]; omega))).mono HB10.out.size))
          clear hv11 hb11
          go_wp2_with fail
          go_ret
          exact ⟨v11, rfl, HV11.out, HB11.out⟩
  | true =>
    have hal := Lib.hid (two_alloc w (.cells #[.bool true, .slice A1 a.ibs.length c1, .slice A2 a.prs.length c2, .slice A3 a.his.length c3] 26) (.cells #[.int .u8 63] 5))
    have hr1 := Lib.hid (heap_alloc2_old w (.cells #[.bool true, .slice A1 a.ibs.length c1, .slice A2 a.prs.length c2, .slice A3 a.his.length c3] 26) (.cells #[.int .u8 63] 5))
    have hr2 := Lib.hid (heap_alloc2_new w (.cells #[.bool true, .slice A1 a.ibs.length c1, .slice A2 a.prs.length c2, .slice A3 a.his.length c3] 26) (.cells #[.int .u8 63] 5))
    have hsz : Hid (((w.alloc (.cells #[.bool true, .slice A1 a.ibs.length c1, .slice A2 a.prs.length c2, .slice A3 a.his.length c3] 26)).alloc (.cells #[.int .u8 63] 5)).heap.size = w.heap.size + 2) := by show _ = _; rw [alloc_size, alloc_size]
    go_enter Tryd.func50, Tryd.ntmps50
    go_wp2_with fail
    have hF := SL.one _ _ 63 hr2.out
    have hS : w.heap.size + 1 < ((w.alloc (.cells #[.bool true, .slice A1 a.ibs.length c1, .slice A2 a.prs.length c2, .slice A3 a.his.length c3] 26)).alloc (.cells #[.int .u8 63] 5)).heap.size := by rw [hsz.out]; omega
    have hB0 := hal.out
    have hR0 := hr1.out
    clear hal hr1 hr2 hsz
    generalize ((w.alloc (.cells #[.bool true, .slice A1 a.ibs.length c1, .slice A2 a.prs.length c2, .slice A3 a.his.length c3] 26)).alloc (.cells #[.int .u8 63] 5)) = w0 at *
    have HB0 := Lib.hid hB0
    have HR0 := Lib.hid hR0
    have HF0 := Lib.hid hF
    clear hB0 hR0 hF
    refine (HGR.out _ HB0.out).mono ?_
    rintro e w1 ⟨G, rfl, hg, hb1⟩
    have hz1 : w.heap.size + 1 < w1.heap.size := Nat.lt_of_lt_of_le hS hb1.size
    have HB1 := Lib.hid (HB0.out.trans (hb1.mono HB0.out.size))
    have HR1 := Lib.hid ((hb1.block w.heap.size (Nat.lt_of_le_of_lt (Nat.le_succ _) hS)).trans HR0.out)
    have HF1 := Lib.hid (HF0.out.on hb1)
    have HG := Lib.hid hg
    clear hb1 hg HB0 HR0 HF0 hS
    generalize hSS : grs a a.ibs.length = S at *
    clear hSS
    go_wp2_with fail
    go_loopw [4, 18] (fun u i wr => ∃ k : Nat, k ≤ n ∧ i = .int .i64 k ∧ Hid (OB wr w1.heap.size u (bodM S n k)) ∧ Hid (Below w1.heap.size w1 wr)) (fun _ i _ => n - (intOf i).toNat)
    case atStart => exact ⟨0, Nat.zero_le _, rfl, OB.nil _ _, Below.refl _ _⟩
    case round =>
      obtain ⟨k, hk, rfl, HO, HB⟩ := hrel
      by_cases hlt : k < n
      · obtain ⟨A, cp, e0, e1, e2, hsv⟩ := HG.out.cells k hlt
        have hGl : G < w1.heap.size := HG.out.1
        have e0 := (HB.out.cell (p := ⟨G, k * 3, none⟩) hGl).trans e0
        have e1 := (HB.out.cell (p := ⟨G, k * 3 + 1, none⟩) hGl).trans e1
        have e2 := (HB.out.cell (p := ⟨G, k * 3 + 2, none⟩) hGl).trans e2
        have hvl : (S k).vs.length ≤ 404 := by
          have h1 := (HLE.out (k + 1) (by omega)).1
          have h2 := (HLE.out (k + 1) (by omega)).2
          simp [bodM] at h1
          omega
        have hbl : (bodM S n k).length ≤ 404 := Nat.le_trans (HLE.out k (by omega)).1 (HLE.out k (by omega)).2
        obtain ⟨Z1, hZ1⟩ : ∃ Z : Int, Z = (((S k).lo ||| (S k).pr).toNat : Int) := ⟨_, rfl⟩
        obtain ⟨Z2, hZ2⟩ : ∃ Z : Int, Z = (((S k).lo ||| (S k).pr ||| 128).toNat : Int) := ⟨_, rfl⟩
        have hor1 : bits BinOp.or .u8 ((S k).lo.toNat : Int) ((S k).pr.toNat : Int) = Z1 := by rw [hZ1]; exact bits_or _ _
        have hor2 : bits BinOp.or .u8 Z1 128 = Z2 := by rw [hZ1, hZ2]; exact bits_or _ 128
        have HHD := Lib.hid (hdB_or S n k Z1 Z2 hZ1 hZ2)
        have HST : Hid (bodM S n (k + 1) = bodM S n k ++ [hdB S n k] ++ (S k).vs) := by show _ = _; simp [bodM]
        have HSV := Lib.hid (hsv.below HB.out)
        have i1 : (k : Int) < (n : Int) := by omega
        clear hsv hZ1 hZ2
        generalize (S k).vs = vs at *
        generalize (S k).lo = lo at *
        generalize (S k).pr = pr at *
        generalize hdB S n k = hd at *
        generalize bodM S n k = L at *
        obtain ⟨Au, cu, hu⟩ := HO.out.value
        subst hu
        have hbx := alloc_below wr (.cells #[.int .u8 (lo.toNat : Int), .int .u8 (pr.toNat : Int), .slice A vs.length cp] 99)
        have HX0 := Lib.hid (heap_alloc_new wr (.cells #[.int .u8 (lo.toNat : Int), .int .u8 (pr.toNat : Int), .slice A vs.length cp] 99))
        have HOX := Lib.hid (HO.out.later hbx)
        have HBX := Lib.hid (HB.out.trans (hbx.mono HB.out.size))
        have HVX := Lib.hid (hsv'_below HSV.out (hbx.mono HB.out.size))
        have HXO : Hid ((Value.slice Au L.length cu).ownBlock ≠ some wr.heap.size) := fun e => by have := (World.ownsRow.lt HO.out _ e).2; omega
        clear hbx HSV HO HB
        by_cases hk1 : k + 1 < n
        · have i2 : (k : Int) + 1 < (n : Int) := by omega
          have HZ := Lib.hid (HHD.out.1 hk1)
          go_wp2_with fail
          clear e0 e1 e2 hor1 hor2
          generalize wr.alloc (.cells #[.int .u8 (lo.toNat : Int), .int .u8 (pr.toNat : Int), .slice A vs.length cp] 99) = wx at *
          generalize wr.heap.size = X at *
          obtain ⟨p0, p1, p2⟩ := row3 HX0.out
          have p2a := ((alloc_below wx (.cells #[.int .u8 Z2] 5)).cell (p := ⟨X, 2, none⟩) (World.block_lt_of_cell? wx _ p2)).trans p2
          have HXL := Lib.hid (World.block_lt_of_cell? wx _ p2)
          go_region_law (first
            | (refine step_app1G (by rfl) _ _ (by rfl) w1.heap.size (.slice Au L.length cu) L hd _ wx.heap.size (by rfl) (by rfl) ((HOX.out.later (alloc_below ..)).drew) (heap_alloc_new wx _) HZ.out (Nat.le_trans hbl (by omega)) (by show w1.heap.size ≤ (wx.alloc _).heap.size; rw [alloc_size]; exact Nat.le_succ_of_le HBX.out.size) ?_; intro gg cap w5 hO2 hg2; have hap := app_keep HBX.out.size _ HOX.out hg2; have p2c := (cell_of_row _ _ 2 _ _ _ ((hap.2 X HXL.out HXO.out).trans HX0.out)); have HO2 := Lib.hid hO2; have HAP := Lib.hid hap.1; clear hO2 hg2 hap)
            | (refine step_appS (by rfl) _ _ (by rfl) w5 w1.heap.size _ (L ++ [hd]) vs A cp (by rfl) (by rfl) (Below.refl _ _) HO2.out (fun hp => by obtain ⟨bb, oo, hA, _, hcc⟩ := (HVX.out.below HAP.out).rd hp; exact ⟨bb, oo, hA, hcc⟩) (by simp; omega) (HBX.out.trans HAP.out).size ?_; intro v7 w7 hO7 hb7))
          all_goals
            have hB7 := (HBX.out.trans HAP.out).trans hb7
            rw [← HST.out] at hO7
            have HO7 := Lib.hid hO7
            have HB7 := Lib.hid hB7
            obtain ⟨A7, c7, e7⟩ := hO7.value
            subst e7
            clear hO7 hb7 hB7 p0 p1 p2 p2a p2c
            go_wp2_with fail
            go_roundw
            case rel => exact ⟨k + 1, by omega, by go_num, HO7, HB7⟩
            case measure => simp [intOf]; omega
        · have i2 : ¬ (k : Int) + 1 < (n : Int) := by omega
          have HZ := Lib.hid (HHD.out.2 hk1)
          go_wp2_with fail
          clear e0 e1 e2 hor1 hor2
          generalize wr.alloc (.cells #[.int .u8 (lo.toNat : Int), .int .u8 (pr.toNat : Int), .slice A vs.length cp] 99) = wx at *
          generalize wr.heap.size = X at *
          obtain ⟨p0, p1, p2⟩ := row3 HX0.out
          have p2a := ((alloc_below wx (.cells #[.int .u8 Z1] 5)).cell (p := ⟨X, 2, none⟩) (World.block_lt_of_cell? wx _ p2)).trans p2
          have HXL := Lib.hid (World.block_lt_of_cell? wx _ p2)
          go_region_law (first
            | (refine step_app1G (by rfl) _ _ (by rfl) w1.heap.size (.slice Au L.length cu) L hd _ wx.heap.size (by rfl) (by rfl) ((HOX.out.later (alloc_below ..)).drew) (heap_alloc_new wx _) HZ.out (Nat.le_trans hbl (by omega)) (by show w1.heap.size ≤ (wx.alloc _).heap.size; rw [alloc_size]; exact Nat.le_succ_of_le HBX.out.size) ?_; intro gg cap w5 hO2 hg2; have hap := app_keep HBX.out.size _ HOX.out hg2; have p2c := (cell_of_row _ _ 2 _ _ _ ((hap.2 X HXL.out HXO.out).trans HX0.out)); have HO2 := Lib.hid hO2; have HAP := Lib.hid hap.1; clear hO2 hg2 hap)
            | (refine step_appS (by rfl) _ _ (by rfl) w5 w1.heap.size _ (L ++ [hd]) vs A cp (by rfl) (by rfl) (Below.refl _ _) HO2.out (fun hp => by obtain ⟨bb, oo, hA, _, hcc⟩ := (HVX.out.below HAP.out).rd hp; exact ⟨bb, oo, hA, hcc⟩) (by simp; omega) (HBX.out.trans HAP.out).size ?_; intro v7 w7 hO7 hb7))
          all_goals
            have hB7 := (HBX.out.trans HAP.out).trans hb7
            rw [← HST.out] at hO7
            have HO7 := Lib.hid hO7
            have HB7 := Lib.hid hB7
            obtain ⟨A7, c7, e7⟩ := hO7.value
            subst e7
            clear hO7 hb7 hB7 p0 p1 p2 p2a p2c
            go_wp2_with fail
            go_roundw
            case rel => exact ⟨k + 1, by omega, by go_num, HO7, HB7⟩
            case measure => simp [intOf]; omega
      · obtain rfl : n = k := by omega
        have hbl : (bodM S n n).length ≤ 404 := (HLE.out n (Nat.le_refl _)).2
        have HBVL : Hid ((bodV a).length ≤ 419) := by show _ ≤ _; rw [HBV.out, List.length_append]; omega
        obtain ⟨Au, cu, hu⟩ := HO.out.value
        subst hu
        have HRR := Lib.hid ((HB.out.block _ (Nat.lt_of_succ_lt hz1)).trans HR1.out)
        obtain ⟨r0, r1, r2, r3⟩ := cellsA HRR.out
        have HHR := Lib.hid ((HH.out.below HB1.out).below (HB.out.mono (Nat.le_of_lt (Nat.lt_of_succ_lt hz1))))
        have HBA := Lib.hid (HB1.out.trans (HB.out.mono (Nat.le_of_lt (Nat.lt_of_succ_lt hz1))))
        go_wp2_with (first
          | (at_builtin; refine wpList_appS rfl (.tmp 43) (.tmp 45) rfl wr w1.heap.size _ (bodM S n n) a.his A3 c3 rfl rfl (Below.refl _ _) HO.out (fun hp => by obtain ⟨bb, oo, hA, _, hcc⟩ := HHR.out.rd hp; exact ⟨bb, oo, hA, hcc⟩) (by omega) HB.out.size ?_; intro v8 w8 hO8 hb8; obtain ⟨A8, c8, e8⟩ := hO8.value; subst e8; have HR8 := Lib.hid ((hb8.block _ (Nat.lt_of_succ_lt hz1)).trans HRR.out); clear r0 r1 r2 r3; obtain ⟨r0, r1, r2, r3⟩ := cellsA HR8.out))
        have HB8 := Lib.hid (HBA.out.trans (hb8.mono (Nat.le_of_lt (Nat.lt_of_succ_lt hz1))))
        have HF8 := Lib.hid ((HF1.out.below (HB.out.trans hb8)).more (HB.out.trans hb8).size)
        have EL : (bodM S n n).length + a.his.length = (bodV a).length := by rw [HBV.out, List.length_append]
        rw [List.length_append, EL, ← HBV.out] at hO8
        rw [EL]
        have HO8 := Lib.hid hO8.sl
        clear hO8 hb8 EL
        refine (HPN.out w8 HB8.out).mono ?_
        rintro e w9 ⟨rfl, m, rfl⟩
        have HB9 := Lib.hid (below_drewN HB8.out m)
        have HO9 := Lib.hid (HO8.out.on (drewN_below _ w8 m))
        have HF9 := Lib.hid (HF8.out.on (drewN_below _ w8 m))
        generalize w8.drewN m = w9 at *
        clear r0 r1 r2 r3
        cases hs1 with
        | false =>
          go_wp2_with fail
          refine (pjoin_any [[63], bodV a] _ _ (LL.two w9 _ _ [63] (bodV a) HF9.out HO9.out) (by simp) (by have := HBVL.out; simp [Lib.lens]; omega)).mono ?_
          rintro e w11 ⟨v11, rfl, hv11, hb11⟩
          have HV11 : Hid (SL w11 w11.heap.size v11 (encM a)) := by show SL _ _ _ _; rw [HE.out]; simpa using hv11
          have HB11 := Lib.hid (HB9.out.trans (((alloc_below _ _).trans (hb11.mono (by rw [alloc_size]; omega))).mono HB9.out.size))
          clear hv11 hb11
          go_wp2_with fail
          go_ret
          exact ⟨v11, rfl, HV11.out, HB11.out⟩
        | true =>
          go_wp2_with fail
          refine (papp_any 0 (bodV a) _ w9 HO9.out (HT.out.on HB9.out) (by have := HBVL.out; omega)).mono ?_
          rintro e w10 ⟨v10, rfl, hv10, hb10⟩
          have HB10 := Lib.hid (HB9.out.trans (hb10.mono HB9.out.size))
          have HF10 := Lib.hid (HF9.out.on hb10)
          have HV10 := Lib.hid hv10
          obtain ⟨A10, c10, e10, _⟩ := id hv10
          subst e10
          clear hv10 hb10
          go_wp2_with fail
          refine (pjoin_any [[63], appL 0 (bodV a)] _ _ (LL.two w10 _ _ [63] (appL 0 (bodV a)) HF10.out HV10.out) (by simp) (by have := HBVL.out; have := sumL_len 0 (bodV a); have := sizeK_le 0; have e : appL 0 (bodV a) = bodV a ++ sumL 0 (bodV a) := rfl; simp [Lib.lens, e]; omega)).mono ?_
          rintro e w11 ⟨v11, rfl, hv11, hb11⟩
          have HV11 : Hid (SL w11 w11.heap.size v11 (encM a)) := by
            show SL _ _ _ _
            rw [HE.out]
            have e : appL 0 (bodV a) = bodV a ++ sumL 0 (bodV a) := rfl
            rw [e] at hv11
            simpa using hv11
          have HB11 := Lib.hid (HB10.out.trans (((alloc_below _ _).trans (hb11.mono (by rw [alloc_size]; omega))).mono HB10.out.size))
          clear hv11 hb11
          go_wp2_with fail
          go_ret
          exact ⟨v11, rfl, HV11.out, HB11.out⟩
end Go.Proofs.YtnbggokmiokhlaaDoor
