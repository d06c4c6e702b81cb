/-
  groups: the walk.
-/
import Derived.Test.YtnbggokmiokhlaaDoorAvm
import Derived.Deep.RegionHeld3
import Derived.RegionTactic
import Derived.StillTailTactics
namespace Go.Proofs.YtnbggokmiokhlaaDoor
set_option linter.unusedVariables false
set_option linter.unusedSimpArgs false
open Go.RowKit

theorem bits_or (x y : UInt8) : bits .or .u8 (x.toNat : Int) (y.toNat : Int) = ((x ||| y).toNat : Int) := by
  rw [u8_or_nat _ _ x.toNat_lt y.toNat_lt]
  simp
theorem info99 : (Tryd.prog.info? 99).map (fun i => (i.zero, i.size, i.bytes)) = some (some (.agg #[.int .u8 0, .int .u8 0, .slice none 0 0]), 3, 32) := by kernel_rfl
theorem wpList_mkg {ops : Array Oper} {rest : List Oper} {o : Oper} {a : Act} {w : World} {Q : Exit → Act → World → Prop} (hgd : o.guard = none) (l c : Operand) (ho : o.op = Op.makeSlice 96 l c)
    (n : Nat) (hl : a.eval l = .int .i64 (n : Int)) (hc : a.eval c = .int .i64 (n : Int)) (hn : n ≤ 100000)
    (h : ∀ arr : Array Value, ArrIs arr n (fun _ => ⟨0, 0, []⟩) (fun _ => .slice none 0 0) → wpList Tryd.prog ops Q rest (a.put o.dst (.slice (some ⟨w.heap.size, 0, none⟩) n n)) (w.alloc (.cells arr 99))) : wpList Tryd.prog ops Q (o :: rest) a w := by
  obtain ⟨i0, hi0, hz0, hz1, hz2⟩ := info_parts info99
  have hr := run_make (P := Tryd.prog) w 96 99 i0 _ Tryd.underlying96 hi0 hz0 .i64 .i64 n n (by omega) (Int.le_refl _) (by rw [hz2]; omega) (by omega)
  refine wpList_plain hgd fun K hK' => ?_
  rw [hz1] at hr
  simp only [Int.toNat_natCast] at hr
  unfold Oper.wp
  simp [execOp, ho, hl, hc, hr, Result.andThen]
  refine hK' _ _ (h _ ⟨size_madeCells _ _, fun i hi => ?_⟩)
  have e : (Value.agg #[Value.int .u8 0, Value.int .u8 0, Value.slice none 0 0]).cells = #[Value.int .u8 0, Value.int .u8 0, Value.slice none 0 0] := rfl
  rw [e]
  have m1 : i * 3 % 3 = 0 := by omega
  have m2 : (i * 3 + 1) % 3 = 1 := by omega
  have m3 : (i * 3 + 2) % 3 = 2 := by omega
  have l1 : i * 3 < n * 3 := by omega
  have l2 : i * 3 + 1 < n * 3 := by omega
  have l3 : i * 3 + 2 < n * 3 := by omega
  refine ⟨?_, ?_, ?_⟩
  · simp [madeCells, Array.getElem?_map, l1, m1]; rfl
  · simp [madeCells, Array.getElem?_map, l2, m2]; rfl
  · simp [madeCells, Array.getElem?_map, l3, m3]
theorem u8_of (n : Nat) (h : n < 256) : u8v (UInt8.ofNat n) = .int .u8 (n : Int) := by
  unfold u8v
  have : (UInt8.ofNat n).toNat = n := by simp; omega
  rw [this]
theorem u8_pb (p : Int) (h : 0 ≤ p) (h' : p ≤ 255) : u8v (pb p) = .int .u8 p := by
  unfold u8v
  rw [pb_nat h h']
theorem gs0_arr {a : At} {arr : Array Value} {n : Nat} (har : ArrIs arr n (fun i => ⟨if i < n then 1 else 0, 0, []⟩) (fun _ => .slice none 0 0)) (h1 : 1 ≤ n) (hh : a.his.length ≤ 15) (hq0 : 0 ≤ a.prs.getD 0 0) (hq1 : a.prs.getD 0 0 ≤ 255) :
    (1 < n → ArrIs ((arr.setIfInBounds 0 (.int .u8 (a.his.length : Int))).setIfInBounds 3 (.int .u8 (a.prs.getD 0 0))) n (gs0 a) (fun _ => .slice none 0 0)) ∧
    (¬ 1 < n → ArrIs (arr.setIfInBounds 0 (.int .u8 (a.his.length : Int))) n (gs0 a) (fun _ => .slice none 0 0)) := by
  rw [← u8_of _ (show a.his.length < 256 by omega), ← u8_pb _ hq0 hq1]
  refine ⟨fun hn => ?_, fun hn => ?_⟩
  · have e1 := har.lo (s' := fun i => ⟨if i = 0 then UInt8.ofNat a.his.length else 1, 0, []⟩) 0 (by omega) (UInt8.ofNat a.his.length) (fun i hi hne => by simp [hne, hi]) (by simp) (fun i hi => rfl)
    have e2 := e1.lo (s' := gs0 a) 1 hn (pb (a.prs.getD 0 0)) (fun i hi hne => by simp [gs0, hne]) (by simp [gs0]) (fun i hi => rfl)
    exact e2
  · have e1 := har.lo (s' := gs0 a) 0 (by omega) (UInt8.ofNat a.his.length) (fun i hi hne => by omega) (by simp [gs0]) (fun i hi => rfl)
    exact e1
theorem val_p {a : At} (hv : Valid a) (k : Nat) (hk : k < a.ibs.length) : 0 ≤ (a.ibs.getD k Ib.zero).p ∧ (a.ibs.getD k Ib.zero).p ≤ 1 := by
  have f := chnB_at a.prs a.ibs Ib.zero hv.chn k hk
  have i := ib_facts f.ib
  have b := fi_facts f.fi
  have q := off_first hv.off
  by_cases h3 : 3 ≤ (a.ibs.getD k Ib.zero).g
  · have := off_has hv.off (val_prot hv.chn k hk h3); omega
  · by_cases h1 : (a.ibs.getD k Ib.zero).g = 1
    · have := b.1 h1; omega
    · have := b.2.1 (by omega); omega
theorem shl_or (P : UInt8) (k : Int) (h0 : 0 ≤ k) (h2 : k ≤ 2) : bits .or .u8 (P.toNat : Int) (IntKind.u8.wrap (16 * 2 ^ k.toNat)) = ((P ||| bitK k).toNat : Int) := by
  rw [← bits_or]
  congr 1
  have hk : k = 0 ∨ k = 1 ∨ k = 2 := by omega
  rcases hk with rfl | rfl | rfl <;> decide
theorem grs_len (a : At) (i : Nat) : ∀ k, k ≤ a.ibs.length → (grs a k i).vs.length ≤ k
  | 0, _ => Nat.le_refl _
  | k + 1, hk => by
    have ih := grs_len a i k (by omega)
    rw [grs_succ a k (by omega), stp]
    split
    · simp; omega
    · omega
theorem CurA.app {ty : TypeId} {we w5 : World} {G n base : Nat} {s : Nat → Gr} {val : Nat → Value} {i0 : Nat} {v : Value} {l : List UInt8} (h : CurA ty we G n base s val i0) (o : Obj) (hO : OB we base v l) (hg : (we.alloc o).drew.grownBy w5 v.ownBlock) :
    CurA ty w5 G n base s val i0 ∧ Below base we w5 ∧ ∀ k, k < we.heap.size → v.ownBlock ≠ some k → w5.heap[k]? = we.heap[k]? := by
  have hb0 : Below base we (we.alloc o).drew := ((alloc_below we o).mono h.le).drew
  have hb : Below base we w5 := hb0.grown hg (by show base ≤ (we.alloc o).heap.size; rw [alloc_size]; have := h.le; omega) (fun k hk => (World.ownsRow.lt hO k hk).1)
  refine ⟨h.below hb, hb, fun k hk hne => ?_⟩
  have hs : k < (we.alloc o).drew.heap.size := by show k < (we.alloc o).heap.size; rw [alloc_size]; omega
  exact (hg.block k hs (fun e => hne e.symm)).trans ((alloc_below we o).block k hk)
/-- A round's end: the state is the next one. -/
theorem CurA.up {ty : TypeId} {W : World} {G n base : Nat} {s s' : Nat → Gr} {val : Nat → Value} {i0 : Nat} {v : Value} {l : List UInt8} {c : Int} (h : CurA ty W G n base s val i0) (hs : ∀ i, s i = s' i) (hO : OB W base v l) (hv : val i0 = v) (hl : (s i0).vs = l) (hc : c = (i0 : Int) + 1) : GsUp ty W G n s' c := by
  obtain rfl : s = s' := funext hs
  exact ⟨val, base, i0, h, fun _ => by rw [hv, hl]; exact hO, .inl hc⟩
theorem stp_at {s : Nat → Gr} {i0 : Nat} {k v p : Int} {P : UInt8} {VS : List UInt8} (hP : (s i0).pr = P) (hV : (s i0).vs = VS) (i : Nat) :
    stp s ⟨(i0 : Int) + 1, k, v, p⟩ i = if i = i0 then ⟨if 3 ≤ (i0 : Int) + 1 then pb p else (s i0).lo, P ||| bitK k, VS ++ [pb v]⟩ else s i := by
  unfold stp
  by_cases e : i = i0
  · subst e; simp [hP, hV]
  · rw [if_neg (by show ¬ (i : Int) + 1 = (i0 : Int) + 1; omega), if_neg e]
theorem ibs_1000 {a : At} (hv : Valid a) (hl : a.ibs.length ≤ 200) : ∀ x ∈ a.ibs, x.g ≤ 1000 := by
  intro x hx
  obtain ⟨k, hk, rfl⟩ := List.getElem_of_mem hx
  have := val_bound hv.chn k hk
  rw [gD_ib _ _ hk] at this
  omega

set_option maxRecDepth 100000 in
set_option maxHeartbeats 3200000 in
theorem pgrp_any (a : At) (v : Value) (w : World) (h : AT w v a) (hv : Valid a) (hl : a.ibs.length ≤ 200) :
    Calls Tryd.prog 83 #[v] w fun e w' => ∃ G, e = .returned (.slice (some ⟨G, 0, none⟩) (cntN a) (cntN a)) ∧ GsAt 99 w' G (cntN a) (grs a a.ibs.length) ∧ Below w.heap.size w w' := by
  have hcf := cnt_facts hv
  have hn : cntV a = ((cntN a : Nat) : Int) := by unfold cntN; omega
  have HC := fun (W : World) (hW : Below w.heap.size w W) => pcnt_any a v W (h.on hW) hv.pos (ibs_1000 hv hl)
  rw [hn] at HC hcf
  have HC := Lib.hid HC
  have HV := Lib.hid hv
  obtain ⟨v1, v2, v3, rfl, h1, h2, h3⟩ := h
  obtain ⟨A1, c1, rfl, a1, b1, d1⟩ := h1
  obtain ⟨A2, c2, rfl, a2, b2, d2⟩ := h2
  obtain ⟨A3, c3, rfl, a3, b3, d3⟩ := h3
  unfold maxLen at b1 b2 b3
  obtain ⟨bp, op, rfl, hbp, hcp⟩ := d2 hv.pos
  have g0 := hcp 0 hv.pos
  simp only [Nat.add_zero] at g0
  have hq : Hid (a.prs.getD 0 0 = 0 ∨ a.prs.getD 0 0 = 1) := off_first hv.off
  have hP' : (0 : Int) < (a.prs.length : Int) := by have := hv.pos; omega
  have hhis := hv.his
  have D1 := Lib.hid d1
  have HG : Hid (∀ k, k < a.ibs.length → (a.ibs.getD k Ib.zero).g ≤ ((cntN a : Nat) : Int)) := hcf.2.2.2
  have n1 : 1 ≤ cntN a := by omega
  have n2 : cntN a ≤ 204 := by omega
  clear d1 d2 d3 hcp hcf hn hv
  generalize cntN a = n at *
  have hal := Lib.hid (alloc_below w (.cells #[.bool a.inv, .slice A1 a.ibs.length c1, .slice (some ⟨bp, op, none⟩) a.prs.length c2, .slice A3 a.his.length c3] 26))
  have hrow := Lib.hid (heap_alloc_new w (.cells #[.bool a.inv, .slice A1 a.ibs.length c1, .slice (some ⟨bp, op, none⟩) a.prs.length c2, .slice A3 a.his.length c3] 26))
  go_enter Tryd.func83, Tryd.ntmps83
  go_wp2_with fail
  refine (HC.out _ hal.out).mono ?_
  rintro e w1 ⟨rfl, hb1⟩
  have HB1 := Lib.hid (hal.out.trans (hb1.mono hal.out.size))
  have hz1 : w.heap.size < w1.heap.size := by have := hb1.size; rw [alloc_size] at this; omega
  have HR1 := Lib.hid ((hb1.block w.heap.size (by rw [alloc_size]; omega)).trans hrow.out)
  clear hb1
  obtain ⟨r0, r1, r2, r3⟩ := cellsA HR1.out
  have gq := (HB1.out.cell (p := ⟨bp, op, none⟩) hbp).trans g0
  clear g0
  go_wp2_with (with_reducible refine wpList_mkg rfl (.tmp 9) (.tmp 9) rfl n rfl rfl (by omega) ?_; intro arr harr)
  have HHR := Lib.hid (heap_alloc_new w1 (.cells arr 99))
  have HHB := Lib.hid (alloc_below w1 (.cells arr 99))
  have HHZ := Lib.hid (alloc_size w1 (.cells arr 99))
  generalize w1.alloc (.cells arr 99) = wm at *
  go_loopw [13] (fun i wr => ∃ k : Nat, k ≤ n ∧ i = .int .i64 k ∧ Below w1.heap.size w1 wr ∧ w1.heap.size + 1 ≤ wr.heap.size ∧ ∃ ar : Array Value, wr.heap[w1.heap.size]? = some (.cells ar 99 (0, 0)) ∧ ArrIs ar n (fun i => ⟨if i < k then 1 else 0, 0, []⟩) (fun _ => .slice none 0 0)) (fun i _ => n - (intOf i).toNat)
  case atStart => exact ⟨0, Nat.zero_le _, rfl, HHB.out, by rw [HHZ.out]; omega, arr, HHR.out, harr⟩
  case round =>
    obtain ⟨k, hk, rfl, hbel, hsz, ar, hrw, har⟩ := hrel
    by_cases hlt : k < n
    · have i1 : (k : Int) < (n : Int) := by omega
      have f0 := frozen_of_row _ _ (k * 3) _ _ hrw
      have g0 := (cell_of_row _ _ (k * 3) _ _ _ hrw).trans (har.2 k hlt).1
      have HROW := Lib.hid hrw
      have HAR := Lib.hid har
      have HBEL := Lib.hid hbel
      clear hrw har hbel harr
      go_wp2_with fail
      go_roundw
      case rel =>
        refine ⟨k + 1, by omega, by go_num, HBEL.out.setCell (p := ⟨w1.heap.size, k * 3, none⟩) (Nat.le_refl _) _, by simp; exact hsz, _, heap_setCell_same _ _ _ _ _ _ HROW.out, ?_⟩
        refine HAR.out.lo k hlt 1 (fun i hi hn => ?_) ?_ (fun i hi => rfl)
        · simp only
          by_cases h1 : i < k
          · rw [if_pos h1, if_pos (by omega)]
          · rw [if_neg h1, if_neg (by omega)]
        · simp
      case measure => simp [intOf]; omega
    · obtain rfl : n = k := by omega
      have HBEL := Lib.hid hbel
      have HROW := Lib.hid hrw
      have HAR := Lib.hid har
      obtain ⟨r0, r1, r2, r3⟩ := cellsA ((hbel.block _ hz1).trans HR1.out)
      have gq := (hbel.cell (p := ⟨bp, op, none⟩) (Nat.lt_trans hbp hz1)).trans gq
      have f0 := frozen_of_row _ _ 0 _ _ hrw
      have f3 := frozen_of_row _ _ 3 _ _ hrw
      have c0 := (cell_of_row _ _ 0 _ _ _ hrw).trans (har.2 0 (by omega)).1
      have i1 : (0 : Int) < (n : Int) := by omega
      clear hbel hrw har harr
      have hqb : 0 ≤ a.prs.getD 0 0 ∧ a.prs.getD 0 0 ≤ 255 := by have := hq.out; omega
      have HA2 := Lib.hid (gs0_arr HAR.out n1 hhis hqb.1 hqb.2)
      have HVA := Lib.hid (fun k hk => chnB_at a.prs a.ibs Ib.zero HV.out.chn k hk)
      have HVP := Lib.hid (fun k hk => val_p HV.out k hk)
      have HLATE := Lib.hid (fun i k => grs_late HV.out i k)
      generalize a.prs.getD 0 0 = q at *
      obtain ⟨hq0, hq1⟩ := hqb
      by_cases hn1 : 1 < n
      · have c33 := (cell_of_row _ _ 3 _ _ _ HROW.out).trans (HAR.out.2 1 hn1).1
        have i2 : (1 : Int) < (n : Int) := by omega
        go_wp2_with fail
        have hB : Below w1.heap.size w1 ((wr.setCell ⟨w1.heap.size, 0, none⟩ (.int .u8 ↑a.his.length)).setCell ⟨w1.heap.size, 3, none⟩ (.int .u8 q)) := (HBEL.out.setCell (p := ⟨w1.heap.size, 0, none⟩) (Nat.le_refl _) _).setCell (p := ⟨w1.heap.size, 3, none⟩) (Nat.le_refl _) _
        have hU := GsUp.init (s := grs a 0) (heap_setCell_same _ _ 3 _ _ (.int .u8 q) (heap_setCell_same _ _ 0 _ _ (.int .u8 ↑a.his.length) HROW.out)) (HA2.out.1 hn1) (fun _ => rfl)
        generalize (wr.setCell ⟨w1.heap.size, 0, none⟩ (.int .u8 ↑a.his.length)).setCell ⟨w1.heap.size, 3, none⟩ (.int .u8 q) = wx at *
        have HB := Lib.hid hB
        have HU := Lib.hid hU
        clear hB hU r0 r1 r2 r3 gq f0 f3 c0 i1 HAR HROW HA2 HBEL
        go_loopw [42] (fun i wr => ∃ k : Nat, k ≤ a.ibs.length ∧ i = .int .i64 k ∧ Hid (Below w1.heap.size w1 wr) ∧ Hid (GsUp 99 wr w1.heap.size n (grs a k) (lastOf Ib.zero a.ibs k).g)) (fun i _ => a.ibs.length - (intOf i).toNat)
        case atStart => exact ⟨0, Nat.zero_le _, rfl, HB, HU⟩
        case round =>
          clear HB HU
          obtain ⟨k, hk, rfl, HB, HU⟩ := hrel
          by_cases hlt : k < a.ibs.length
          · obtain ⟨b', o', rfl, hb', hc'⟩ := D1.out (by omega)
            have hi := ((hc' k hlt).keep hb' (fun p hp => HB1.out.cell hp)).keep (Nat.lt_trans hb' hz1) (fun p hp => HB.out.cell hp)
            have hf := HVA.out k hlt
            have hib := ib_facts hf.ib
            have haf := af_facts hf.af
            have hvp := HVP.out k hlt
            have hgn := HG.out k hlt
            have HSU := Lib.hid (grs_succ a k hlt)
            have HLS := Lib.hid (lastOf_s Ib.zero a.ibs k)
            have HLT := fun i => HLATE.out i k hk
            clear hc' hf
            generalize a.ibs.getD k Ib.zero = x at *
            obtain ⟨i0, hi0⟩ : ∃ i0 : Nat, x.g = (i0 : Int) + 1 := ⟨(x.g - 1).toNat, by omega⟩
            obtain ⟨val, base, hC, hO⟩ := HU.out.next i0 (by omega) (by rw [← hi0]; exact haf.1) (fun h => by rw [HLT i0 h]; rfl)
            obtain ⟨xg, xk, xv, xp⟩ := x
            simp only at hi0 hib hvp hgn
            subst hi0
            obtain ⟨g1, g2, g3, g4⟩ := hi
            simp only at g1 g2 g3 g4
            have i1 : (i0 : Int) < (n : Int) := by omega
            have i1n : i0 < n := by omega
            have i2 : (0 : Int) ≤ (i0 : Int) := by omega
            obtain ⟨q1, q2, q3, q4, q5⟩ := hib
            obtain ⟨q6, q7⟩ := hvp
            have hbx := alloc_below wr (.cells #[.int .i64 (↑i0 + 1), .int .i64 xk, .int .i64 xv, .int .i64 xp] 60)
            have HC0 := Lib.hid (hC.below (hbx.mono hC.le))
            have HO0 := Lib.hid (hO.later hbx)
            have HX0 := Lib.hid (heap_alloc_new wr (.cells #[.int .i64 (↑i0 + 1), .int .i64 xk, .int .i64 xv, .int .i64 xp] 60))
            have HBX := Lib.hid (HB.out.trans (hbx.mono HB.out.size))
            have HXG : Hid (base ≤ wr.heap.size ∧ w1.heap.size < base) := ⟨hC.le, hC.lt⟩
            have HXO : Hid ((val i0).ownBlock ≠ some wr.heap.size) := fun e => by have := (World.ownsRow.lt hO _ e).2; omega
            clear hC hO hbx HLT haf HU
            go_wp2_with fail
            obtain ⟨p0, p1, p2, p3⟩ := cellsA HX0.out
            obtain ⟨⟨e1, e2, e3⟩, f1, f2, f3⟩ := HC0.out.cells i0 i1n
            clear g1 g2 g3 g4
            generalize wr.alloc (.cells #[.int .i64 (↑i0 + 1), .int .i64 xk, .int .i64 xv, .int .i64 xp] 60) = wy at *
            generalize hP : (grs a k i0).pr = P at *
            have HP := Lib.hid hP
            generalize wr.heap.size = X at *
            have HVL : Hid ((grs a k i0).vs.length ≤ 10000000) := Nat.le_trans (grs_len a i0 k hk) (by omega)
            generalize hVS : (grs a k i0).vs = VS at *
            have HVS := Lib.hid hVS
            clear hVS
            obtain ⟨Av, cv, hval⟩ := HO0.out.value
            have HVAL := Lib.hid hval
            rw [hval] at e3
            clear hval
            have hC0d := HC0.out.drew
            have hO0d : OB wy.drew base (val i0) VS := HO0.out.drew
            obtain ⟨Z, hZ⟩ : ∃ Z : Int, Z = ((P ||| bitK xk).toNat : Int) := ⟨_, rfl⟩
            have hsh : bits BinOp.or .u8 (P.toNat : Int) (IntKind.u8.wrap (16 * 2 ^ xk.toNat)) = Z := by rw [hZ]; exact shl_or P xk q2 q3
            have HZ := Lib.hid hZ
            clear hZ
            have hX0d : wy.drew.heap[X]? = some (.cells #[.int .i64 (↑i0 + 1), .int .i64 xk, .int .i64 xv, .int .i64 xp] 60 (0, 0)) := HX0.out
            have hB0d : Below w1.heap.size w1 wy.drew := HBX.out.drew
            go_still_tail 10, (by kernel_rfl)
            change wpList _ _ _ _ _ wy.drew
            clear e1 e2 e3 f1 f2 f3 p0 p1 p2 p3 HC0 HO0 HX0 HBX
            obtain ⟨⟨e1, e2, e3⟩, f1, f2, f3⟩ := hC0d.cells i0 i1n
            have HC0 := Lib.hid hC0d
            have HO0 := Lib.hid hO0d
            have HX0 := Lib.hid hX0d
            have HB0 := Lib.hid hB0d
            clear hC0d hO0d hX0d hB0d
            generalize wy.drew = wd at *
            rw [hP] at e2
            try rw [hsh]
            clear hsh
            go_wp2_with fail
            have hC1 : CurA 99 (wd.setCell ⟨w1.heap.size, i0 * 3 + 1, none⟩ (.int .u8 Z)) w1.heap.size n base (fun i => if i = i0 then ⟨(grs a k i).lo, P ||| bitK xk, (grs a k i).vs⟩ else grs a k i) val i0 := by rw [HZ.out]; exact HC0.out.pr1 i1n (P ||| bitK xk)
            have hO1 : OB (wd.setCell ⟨w1.heap.size, i0 * 3 + 1, none⟩ (.int .u8 Z)) base (val i0) VS := HO0.out.setOff _ _ HXG.out.2
            have hX1 := (heap_setCell_other wd ⟨w1.heap.size, i0 * 3 + 1, none⟩ X (.int .u8 Z) (by have := HXG.out; show X ≠ w1.heap.size; omega)).trans HX0.out
            have hB1 := HB0.out.setCell (p := ⟨w1.heap.size, i0 * 3 + 1, none⟩) (Nat.le_refl _) (.int .u8 Z)
            clear e1 e2 e3 f1 f2 f3 HC0 HO0 HX0 HB0
            generalize wd.setCell ⟨w1.heap.size, i0 * 3 + 1, none⟩ (.int .u8 Z) = we at *
            obtain ⟨⟨e1, e2, e3⟩, f1, f2, f3⟩ := hC1.cells i0 i1n
            rw [HVAL.out] at e3 hO1
            obtain ⟨p0, p1, p2, p3⟩ := cellsA hX1
            have HC1 := Lib.hid hC1
            have HO1 := Lib.hid hO1
            have HX1 := Lib.hid hX1
            have HB1 := Lib.hid hB1
            clear hC1 hO1 hX1 hB1 e1 e2
            have hwv : IntKind.u8.wrap xv = xv := by rw [IntKind.wrap_u8']; omega
            have HOB : Hid ((Value.slice Av VS.length cv).ownBlock ≠ some X) := by have := HXO.out; rw [HVAL.out] at this; exact this
            have e3a := ((alloc_below we (.cells #[.int .u8 xv] 5)).cell (p := ⟨w1.heap.size, i0 * 3 + 2, none⟩) (by have := HC1.out.lt; have := HC1.out.le; show w1.heap.size < we.heap.size; omega)).trans e3
            have p2a := ((alloc_below we (.cells #[.int .u8 xv] 5)).cell (p := ⟨X, 2, none⟩) (World.block_lt_of_cell? we _ p2)).trans p2
            go_region_law ((refine step_app1G (by rfl) _ _ (by rfl) base (.slice Av VS.length cv) VS (pb xv) _ we.heap.size (by rfl) (by rfl) ((HO1.out.later (alloc_below ..)).drew) (heap_alloc_new we _) (pb_nat q4 q5).symm HVL.out (by show base ≤ (we.alloc _).heap.size; rw [alloc_size]; exact Nat.le_succ_of_le HC1.out.le) ?_; intro gg cap w5 hO2 hg2; have hap := HC1.out.app _ HO1.out hg2; have hc5 := hap.1.cells i0 i1n; have hc6 := hc5.1.2.2; have hc7 := hc5.2.2.2; have HO2 := Lib.hid hO2; have HAP := Lib.hid hap; clear hO2 hg2 hap hc5))
            all_goals
              have hC6 := HAP.out.1.val1 i1n (.slice (some ⟨gg, 0, none⟩) (VS.length + 1) cap) (VS ++ [pb xv])
              have hO6 : OB (w5.setCell ⟨w1.heap.size, i0 * 3 + 2, none⟩ (.slice (some ⟨gg, 0, none⟩) (VS.length + 1) cap)) base (.slice (some ⟨gg, 0, none⟩) (VS.length + 1) cap) (VS ++ [pb xv]) := HO2.out.setOff _ _ HXG.out.2
              have hX6 := (heap_setCell_other w5 ⟨w1.heap.size, i0 * 3 + 2, none⟩ X (.slice (some ⟨gg, 0, none⟩) (VS.length + 1) cap) (by have := HXG.out; show X ≠ w1.heap.size; omega)).trans ((HAP.out.2.2 X (World.block_lt_of_cell? we _ p2) HOB.out).trans HX1.out)
              have hB6 := (HB1.out.trans (HAP.out.2.1.mono (Nat.le_of_lt HXG.out.2))).setCell (p := ⟨w1.heap.size, i0 * 3 + 2, none⟩) (Nat.le_refl _) (.slice (some ⟨gg, 0, none⟩) (VS.length + 1) cap)
              clear e3 e3a p2a f1 f2 f3 p0 p1 p2 p3 hc6 hc7 HAP HO2 HX1 HB1 HC1 HO1
              generalize w5.setCell ⟨w1.heap.size, i0 * 3 + 2, none⟩ (.slice (some ⟨gg, 0, none⟩) (VS.length + 1) cap) = w6 at *
              obtain ⟨p0, p1, p2, p3⟩ := cellsA hX6
              obtain ⟨⟨e1, _, _⟩, f1, _, _⟩ := hC6.cells i0 i1n
              have hwp : IntKind.u8.wrap xp = xp := by rw [IntKind.wrap_u8']; omega
              have HXP : Hid (xp = ((pb xp).toNat : Int)) := (pb_nat q6 (by omega)).symm
              have HC6 := Lib.hid hC6
              have HO6 := Lib.hid hO6
              have HB6 := Lib.hid hB6
              clear hC6 hO6 hX6 hB6 hP
              by_cases h3 : (3 : Int) ≤ (i0 : Int) + 1
              · go_wp2_with fail
                go_roundw
                case rel =>
                  have hC7 := HC6.out.lo1 i1n (pb xp)
                  rw [← HXP.out] at hC7
                  refine ⟨k + 1, by omega, by go_num, HB6.out.setCell (p := ⟨w1.heap.size, i0 * 3, none⟩) (Nat.le_refl _) _, ?_⟩
                  refine hC7.up (fun i => ?_) (HO6.out.setOff _ _ HXG.out.2) (by simp) (by simp) (by rw [HLS.out])
                  rw [HSU.out, stp_at HP.out HVS.out, if_pos h3]
                  by_cases e : i = i0
                  · subst e; simp
                  · simp [e]
                case measure => simp [intOf]; omega
              · go_wp2_with fail
                go_roundw
                case rel =>
                  refine ⟨k + 1, by omega, by go_num, HB6, ?_⟩
                  refine HC6.out.up (fun i => ?_) HO6.out (by simp) (by simp) (by rw [HLS.out])
                  rw [HSU.out, stp_at HP.out HVS.out, if_neg h3]
                  by_cases e : i = i0
                  · subst e; simp
                  · simp [e]
                case measure => simp [intOf]; omega
          · obtain rfl : a.ibs.length = k := by omega
            go_wp2_with fail
            go_ret
            exact ⟨w1.heap.size, rfl, GsUp.at HU.out, HB1.out.trans (HB.out.mono (Nat.le_of_lt hz1))⟩
      · go_wp2_with fail
        have hB : Below w1.heap.size w1 (wr.setCell ⟨w1.heap.size, 0, none⟩ (.int .u8 ↑a.his.length)) := HBEL.out.setCell (p := ⟨w1.heap.size, 0, none⟩) (Nat.le_refl _) _
        have hU := GsUp.init (s := grs a 0) (heap_setCell_same _ _ 0 _ _ (.int .u8 ↑a.his.length) HROW.out) (HA2.out.2 hn1) (fun _ => rfl)
        generalize wr.setCell ⟨w1.heap.size, 0, none⟩ (.int .u8 ↑a.his.length) = wx at *
        have HB := Lib.hid hB
        have HU := Lib.hid hU
        clear hB hU r0 r1 r2 r3 gq f0 f3 c0 i1 HAR HROW HA2 HBEL
        go_loopw [42] (fun i wr => ∃ k : Nat, k ≤ a.ibs.length ∧ i = .int .i64 k ∧ Hid (Below w1.heap.size w1 wr) ∧ Hid (GsUp 99 wr w1.heap.size n (grs a k) (lastOf Ib.zero a.ibs k).g)) (fun i _ => a.ibs.length - (intOf i).toNat)
        case atStart => exact ⟨0, Nat.zero_le _, rfl, HB, HU⟩
        case round =>
          clear HB HU
          obtain ⟨k, hk, rfl, HB, HU⟩ := hrel
          by_cases hlt : k < a.ibs.length
          · obtain ⟨b', o', rfl, hb', hc'⟩ := D1.out (by omega)
            have hi := ((hc' k hlt).keep hb' (fun p hp => HB1.out.cell hp)).keep (Nat.lt_trans hb' hz1) (fun p hp => HB.out.cell hp)
            have hf := HVA.out k hlt
            have hib := ib_facts hf.ib
            have haf := af_facts hf.af
            have hvp := HVP.out k hlt
            have hgn := HG.out k hlt
            have HSU := Lib.hid (grs_succ a k hlt)
            have HLS := Lib.hid (lastOf_s Ib.zero a.ibs k)
            have HLT := fun i => HLATE.out i k hk
            clear hc' hf
            generalize a.ibs.getD k Ib.zero = x at *
            obtain ⟨i0, hi0⟩ : ∃ i0 : Nat, x.g = (i0 : Int) + 1 := ⟨(x.g - 1).toNat, by omega⟩
            obtain ⟨val, base, hC, hO⟩ := HU.out.next i0 (by omega) (by rw [← hi0]; exact haf.1) (fun h => by rw [HLT i0 h]; rfl)
            obtain ⟨xg, xk, xv, xp⟩ := x
            simp only at hi0 hib hvp hgn
            subst hi0
            obtain ⟨g1, g2, g3, g4⟩ := hi
            simp only at g1 g2 g3 g4
            have i1 : (i0 : Int) < (n : Int) := by omega
            have i1n : i0 < n := by omega
            have i2 : (0 : Int) ≤ (i0 : Int) := by omega
            obtain ⟨q1, q2, q3, q4, q5⟩ := hib
            obtain ⟨q6, q7⟩ := hvp
            have hbx := alloc_below wr (.cells #[.int .i64 (↑i0 + 1), .int .i64 xk, .int .i64 xv, .int .i64 xp] 60)
            have HC0 := Lib.hid (hC.below (hbx.mono hC.le))
            have HO0 := Lib.hid (hO.later hbx)
            have HX0 := Lib.hid (heap_alloc_new wr (.cells #[.int .i64 (↑i0 + 1), .int .i64 xk, .int .i64 xv, .int .i64 xp] 60))
            have HBX := Lib.hid (HB.out.trans (hbx.mono HB.out.size))
            have HXG : Hid (base ≤ wr.heap.size ∧ w1.heap.size < base) := ⟨hC.le, hC.lt⟩
            have HXO : Hid ((val i0).ownBlock ≠ some wr.heap.size) := fun e => by have := (World.ownsRow.lt hO _ e).2; omega
            clear hC hO hbx HLT haf HU
            go_wp2_with fail
            obtain ⟨p0, p1, p2, p3⟩ := cellsA HX0.out
            obtain ⟨⟨e1, e2, e3⟩, f1, f2, f3⟩ := HC0.out.cells i0 i1n
            clear g1 g2 g3 g4
            generalize wr.alloc (.cells #[.int .i64 (↑i0 + 1), .int .i64 xk, .int .i64 xv, .int .i64 xp] 60) = wy at *
            generalize hP : (grs a k i0).pr = P at *
            have HP := Lib.hid hP
            generalize wr.heap.size = X at *
            have HVL : Hid ((grs a k i0).vs.length ≤ 10000000) := Nat.le_trans (grs_len a i0 k hk) (by omega)
            generalize hVS : (grs a k i0).vs = VS at *
            have HVS := Lib.hid hVS
            clear hVS
            obtain ⟨Av, cv, hval⟩ := HO0.out.value
            have HVAL := Lib.hid hval
            rw [hval] at e3
            clear hval
            have hC0d := HC0.out.drew
            have hO0d : OB wy.drew base (val i0) VS := HO0.out.drew
            obtain ⟨Z, hZ⟩ : ∃ Z : Int, Z = ((P ||| bitK xk).toNat : Int) := ⟨_, rfl⟩
            have hsh : bits BinOp.or .u8 (P.toNat : Int) (IntKind.u8.wrap (16 * 2 ^ xk.toNat)) = Z := by rw [hZ]; exact shl_or P xk q2 q3
            have HZ := Lib.hid hZ
            clear hZ
            have hX0d : wy.drew.heap[X]? = some (.cells #[.int .i64 (↑i0 + 1), .int .i64 xk, .int .i64 xv, .int .i64 xp] 60 (0, 0)) := HX0.out
            have hB0d : Below w1.heap.size w1 wy.drew := HBX.out.drew
            go_still_tail 10, (by kernel_rfl)
            change wpList _ _ _ _ _ wy.drew
            clear e1 e2 e3 f1 f2 f3 p0 p1 p2 p3 HC0 HO0 HX0 HBX
            obtain ⟨⟨e1, e2, e3⟩, f1, f2, f3⟩ := hC0d.cells i0 i1n
            have HC0 := Lib.hid hC0d
            have HO0 := Lib.hid hO0d
            have HX0 := Lib.hid hX0d
            have HB0 := Lib.hid hB0d
            clear hC0d hO0d hX0d hB0d
            generalize wy.drew = wd at *
            rw [hP] at e2
            try rw [hsh]
            clear hsh
            go_wp2_with fail
            have hC1 : CurA 99 (wd.setCell ⟨w1.heap.size, i0 * 3 + 1, none⟩ (.int .u8 Z)) w1.heap.size n base (fun i => if i = i0 then ⟨(grs a k i).lo, P ||| bitK xk, (grs a k i).vs⟩ else grs a k i) val i0 := by rw [HZ.out]; exact HC0.out.pr1 i1n (P ||| bitK xk)
            have hO1 : OB (wd.setCell ⟨w1.heap.size, i0 * 3 + 1, none⟩ (.int .u8 Z)) base (val i0) VS := HO0.out.setOff _ _ HXG.out.2
            have hX1 := (heap_setCell_other wd ⟨w1.heap.size, i0 * 3 + 1, none⟩ X (.int .u8 Z) (by have := HXG.out; show X ≠ w1.heap.size; omega)).trans HX0.out
            have hB1 := HB0.out.setCell (p := ⟨w1.heap.size, i0 * 3 + 1, none⟩) (Nat.le_refl _) (.int .u8 Z)
            clear e1 e2 e3 f1 f2 f3 HC0 HO0 HX0 HB0
            generalize wd.setCell ⟨w1.heap.size, i0 * 3 + 1, none⟩ (.int .u8 Z) = we at *
            obtain ⟨⟨e1, e2, e3⟩, f1, f2, f3⟩ := hC1.cells i0 i1n
            rw [HVAL.out] at e3 hO1
            obtain ⟨p0, p1, p2, p3⟩ := cellsA hX1
            have HC1 := Lib.hid hC1
            have HO1 := Lib.hid hO1
            have HX1 := Lib.hid hX1
            have HB1 := Lib.hid hB1
            clear hC1 hO1 hX1 hB1 e1 e2
            have hwv : IntKind.u8.wrap xv = xv := by rw [IntKind.wrap_u8']; omega
            have HOB : Hid ((Value.slice Av VS.length cv).ownBlock ≠ some X) := by have := HXO.out; rw [HVAL.out] at this; exact this
            have e3a := ((alloc_below we (.cells #[.int .u8 xv] 5)).cell (p := ⟨w1.heap.size, i0 * 3 + 2, none⟩) (by have := HC1.out.lt; have := HC1.out.le; show w1.heap.size < we.heap.size; omega)).trans e3
            have p2a := ((alloc_below we (.cells #[.int .u8 xv] 5)).cell (p := ⟨X, 2, none⟩) (World.block_lt_of_cell? we _ p2)).trans p2
            go_region_law ((refine step_app1G (by rfl) _ _ (by rfl) base (.slice Av VS.length cv) VS (pb xv) _ we.heap.size (by rfl) (by rfl) ((HO1.out.later (alloc_below ..)).drew) (heap_alloc_new we _) (pb_nat q4 q5).symm HVL.out (by show base ≤ (we.alloc _).heap.size; rw [alloc_size]; exact Nat.le_succ_of_le HC1.out.le) ?_; intro gg cap w5 hO2 hg2; have hap := HC1.out.app _ HO1.out hg2; have hc5 := hap.1.cells i0 i1n; have hc6 := hc5.1.2.2; have hc7 := hc5.2.2.2; have HO2 := Lib.hid hO2; have HAP := Lib.hid hap; clear hO2 hg2 hap hc5))
            all_goals
              have hC6 := HAP.out.1.val1 i1n (.slice (some ⟨gg, 0, none⟩) (VS.length + 1) cap) (VS ++ [pb xv])
              have hO6 : OB (w5.setCell ⟨w1.heap.size, i0 * 3 + 2, none⟩ (.slice (some ⟨gg, 0, none⟩) (VS.length + 1) cap)) base (.slice (some ⟨gg, 0, none⟩) (VS.length + 1) cap) (VS ++ [pb xv]) := HO2.out.setOff _ _ HXG.out.2
              have hX6 := (heap_setCell_other w5 ⟨w1.heap.size, i0 * 3 + 2, none⟩ X (.slice (some ⟨gg, 0, none⟩) (VS.length + 1) cap) (by have := HXG.out; show X ≠ w1.heap.size; omega)).trans ((HAP.out.2.2 X (World.block_lt_of_cell? we _ p2) HOB.out).trans HX1.out)
              have hB6 := (HB1.out.trans (HAP.out.2.1.mono (Nat.le_of_lt HXG.out.2))).setCell (p := ⟨w1.heap.size, i0 * 3 + 2, none⟩) (Nat.le_refl _) (.slice (some ⟨gg, 0, none⟩) (VS.length + 1) cap)
              clear e3 e3a p2a f1 f2 f3 p0 p1 p2 p3 hc6 hc7 HAP HO2 HX1 HB1 HC1 HO1
              generalize w5.setCell ⟨w1.heap.size, i0 * 3 + 2, none⟩ (.slice (some ⟨gg, 0, none⟩) (VS.length + 1) cap) = w6 at *
              obtain ⟨p0, p1, p2, p3⟩ := cellsA hX6
              obtain ⟨⟨e1, _, _⟩, f1, _, _⟩ := hC6.cells i0 i1n
              have hwp : IntKind.u8.wrap xp = xp := by rw [IntKind.wrap_u8']; omega
              have HXP : Hid (xp = ((pb xp).toNat : Int)) := (pb_nat q6 (by omega)).symm
              have HC6 := Lib.hid hC6
              have HO6 := Lib.hid hO6
              have HB6 := Lib.hid hB6
              clear hC6 hO6 hX6 hB6 hP
              by_cases h3 : (3 : Int) ≤ (i0 : Int) + 1
              · exfalso; omega
              · go_wp2_with fail
                go_roundw
                case rel =>
                  refine ⟨k + 1, by omega, by go_num, HB6, ?_⟩
                  refine HC6.out.up (fun i => ?_) HO6.out (by simp) (by simp) (by rw [HLS.out])
                  rw [HSU.out, stp_at HP.out HVS.out, if_neg h3]
                  by_cases e : i = i0
                  · subst e; simp
                  · simp [e]
                case measure => simp [intOf]; omega
          · obtain rfl : a.ibs.length = k := by omega
            go_wp2_with fail
            go_ret
            exact ⟨w1.heap.size, rfl, GsUp.at HU.out, HB1.out.trans (HB.out.mono (Nat.le_of_lt hz1))⟩
end Go.Proofs.YtnbggokmiokhlaaDoor
