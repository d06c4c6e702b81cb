
/-
  The program's read: a condition with kids.
-/
import Derived.Test.YtjkbfogjfgnhiaaDoorCic
namespace Go.Proofs.YtjkbfogjfgnhiaaDoor
set_option linter.unusedVariables false
set_option linter.unusedSimpArgs false
open Go.RowKit

theorem lt_row' {W : World} {g : Nat} {o : Obj} (h : W.heap[g]? = some o) : g < W.heap.size := (Array.getElem?_eq_some_iff.1 h).1

mutual
theorem rdF_len : ∀ (f : Nat) (b : List UInt8) (t : Cn) (r : List UInt8), rdF f b = some (t, r) → r.length ≤ b.length
  | 0, b, t, r, h => by unfold rdF at h; cases h
  | f + 1, b, t, r, h => by
    unfold rdF at h
    split at h
    · cases h
    split at h
    · cases h
    split at h
    · simp only [Option.some.injEq, Prod.mk.injEq] at h
      rw [← h.2, List.length_drop]; omega
    split at h
    · cases h
    split at h
    · simp only [Option.some.injEq, Prod.mk.injEq] at h
      rw [← h.2, List.length_drop]; omega
    · cases e : rdS (rdF f) (byN b 1) (b.drop 2) [] with
      | none => rw [e] at h; cases h
      | some p =>
        obtain ⟨ks, r'⟩ := p
        rw [e] at h
        simp only [Option.some.injEq, Prod.mk.injEq] at h
        have := rdS_len f (byN b 1) (b.drop 2) [] ks r' e
        rw [List.length_drop] at this
        rw [← h.2]; omega
theorem rdS_len : ∀ (f n : Nat) (b : List UInt8) (acc ks : List Cn) (r : List UInt8), rdS (rdF f) n b acc = some (ks, r) → r.length ≤ b.length
  | f, 0, b, acc, ks, r, h => by
    simp only [rdS, Option.some.injEq, Prod.mk.injEq] at h
    rw [← h.2]; exact Nat.le_refl _
  | f, n + 1, b, acc, ks, r, h => by
    simp only [rdS] at h
    cases e : rdF f b with
    | none => rw [e] at h; cases h
    | some p =>
      obtain ⟨t, r'⟩ := p
      rw [e] at h
      have h1 := rdF_len f b t r' e
      have h2 := rdS_len f n r' (acc ++ [t]) ks r h
      omega
end
theorem OC.setOld {w : World} {base : Nat} {v : Value} {ts : List Cn} {g i : Nat} {x : Value} (h : OC w base v ts) (hg : g < base) : OC (w.setCell ⟨g, i, none⟩ x) base v ts := by
  have hl := h.ltB
  obtain ⟨cs, h1, h2⟩ := h
  have hb := (Below.refl g w).setCell (p := ⟨g, i, none⟩) (Nat.le_refl _) x
  refine ⟨cs, ?_, h2.keep fun b hS => ⟨⟨hS.1, Nat.lt_of_lt_of_le hS.2.1 hb.size, hS.2.2⟩, fun o => far_set _ _ (by show b ≠ g; have := hS.1; omega)⟩⟩
  exact h1.kept (row := some g) ⟨hb.os, hb.tape, hb.output, hb.size, fun k hk hne => heap_setCell_other _ _ _ _ (fun e => hne (congrArg some e))⟩ (by
    cases hv : v.ownBlock with
    | none => exact .inl rfl
    | some k => exact .inr (by have := (hl k hv).1; simp; omega))
theorem kid_w {w12 W : World} {g : Nat} {x y z : Value} (hW : W = (((w12.setCell ⟨g, 0, none⟩ x).setCell ⟨g, 1, none⟩ y).setCell ⟨g, 2, none⟩ z).alloc (.cells #[x, y, z] 24)) (hg : g < w12.heap.size) :
    W.heap[w12.heap.size]? = some (.cells #[x, y, z] 24 (0, 0)) ∧ W.heap.size = w12.heap.size + 1 ∧ (∀ b, b ≠ g → b < w12.heap.size → W.heap[b]? = w12.heap[b]?) ∧ (∀ (B : Nat) (a : World), Below B a w12 → B ≤ g → B ≤ w12.heap.size → Below B a W) := by
  have hs : (((w12.setCell ⟨g, 0, none⟩ x).setCell ⟨g, 1, none⟩ y).setCell ⟨g, 2, none⟩ z).heap.size = w12.heap.size := by simp
  subst hW
  refine ⟨?_, ?_, fun b hb hlt => ?_, fun B a h hB hB2 => ?_⟩
  · have := heap_alloc_new (((w12.setCell ⟨g, 0, none⟩ x).setCell ⟨g, 1, none⟩ y).setCell ⟨g, 2, none⟩ z) (.cells #[x, y, z] 24)
    rwa [hs] at this
  · rw [alloc_size, hs]
  · rw [(alloc_below (((w12.setCell ⟨g, 0, none⟩ x).setCell ⟨g, 1, none⟩ y).setCell ⟨g, 2, none⟩ z) (.cells #[x, y, z] 24)).block b (by rw [hs]; exact hlt)]
    exact set3_other _ _ _ _ _ _ hb
  · exact (set3_below h g hB x y z).trans ((alloc_below _ _).mono (by rw [hs]; exact hB2))

set_option maxRecDepth 100000 in
set_option maxHeartbeats 6400000 in
theorem rd_kids (f : Nat) (b : List UInt8) (v : Value) (w : World) (B0 : Nat) (hle : B0 ≤ w.heap.size) (hT : Tb w) (hv : SL w B0 v b) (h0 : 2 ≤ b.length) (hb : byN b 0 < 8) (hb2 : 6 ≤ byN b 0)
    (HK0 : ∀ (bk : List UInt8) (v : Value) (W : World), bk.length < b.length → B0 ≤ W.heap.size → Tb W → SL W B0 v bk → Calls Tryd.prog 84 #[v] W fun e w' => RdP B0 W (rdF f bk) e w') :
    Calls Tryd.prog 84 #[v] w fun e w' => RdP B0 w (rdF (f + 1) b) e w' := by
  have HV := Lib.hid hv
  obtain ⟨A, c, rfl, h1, h2, h3⟩ := id hv
  obtain ⟨B, o, rfl, hB, hc⟩ := h3 (by omega)
  have g0 : w.cell? ⟨B, o, none⟩ = some (.int .u8 ((byN b 0 : Nat) : Int)) := hc 0 (by omega)
  have g1 : w.cell? ⟨B, o + 1, none⟩ = some (.int .u8 ((byN b 1 : Nat) : Int)) := hc 1 (by omega)
  obtain ⟨R, hR⟩ : ∃ R, R = rdF (f + 1) b := ⟨_, rfl⟩
  rw [← hR]
  have HR := Lib.hid (hR.trans (rdF_kids f b h0 hb2 (by omega)))
  obtain ⟨n, hn⟩ : ∃ n, b.length = n + 1 + 1 := ⟨b.length - 2, by omega⟩
  rw [hn]
  obtain ⟨x, hx⟩ : ∃ x, x = byN b 1 := ⟨_, rfl⟩
  have hx2 : x < 256 := hx ▸ byN_lt b 1
  have HX := Lib.hid hx
  rw [← hx] at g1
  have hwx : IntKind.wrap .i64 (x : Int) = (x : Int) := by simp [IntKind.wrap, IntKind.signed, IntKind.bits]; omega
  have h1n : (1 : Int) ≤ ((n + 1 + 1 : Nat) : Int) := by omega
  have h1m : (1 : Int) ≤ ((n + 1 : Nat) : Int) := by omega
  have HN := Lib.hid hn
  obtain ⟨y, hy⟩ : ∃ y, y = byN b 0 := ⟨_, rfl⟩
  have hy2 : y < 256 := hy ▸ byN_lt b 0
  have HY := Lib.hid hy
  rw [← hy] at g0 hb hb2
  have hyi : ¬ (8 : Int) ≤ (y : Int) := by omega
  have hlt : B < w.heap.size := by omega
  obtain ⟨k0, k1, k2, k3, k4⟩ := hT.kd y (by omega)
  have e1 : (kindOf y).kd = true := by match y, hb, hb2 with | 6, _, _ | 7, _, _ => rfl
  have e2 : decide (0 < (kindOf y).hi) = false := by match y, hb, hb2 with | 6, _, _ | 7, _, _ => rfl
  rw [e1] at k1
  generalize (kindOf y).nm = K0 at *
  generalize (kindOf y).lo = K2 at *
  generalize (kindOf y).hi = K3 at *
  generalize (kindOf y).bs = K4 at *
  have hnd := fun W => numd_any K0 true K2 K3 K4 W
  rw [e2] at hnd
  have HND := Lib.hid hnd
  have hz := hT.size
  have hwr : IntKind.wrap .i64 (y : Int) = (y : Int) := by simp [IntKind.wrap, IntKind.signed, IntKind.bits]; omega
  obtain ⟨m, rfl⟩ : ∃ m, c = m + 1 + 1 := ⟨c - 2, by omega⟩
  have hnm : n ≤ m := by omega
  have HT := Lib.hid hT
  have HK := Lib.hid HK0
  clear h3 hv hc hy h1 h0 hT e1 e2 hnd hR hx hn HK0
  rcases m with _ | m
  · obtain rfl : n = 0 := by omega
    go_enter Tryd.func84, Tryd.ntmps84
    go_wp2_with fail
    have hb2 := alloc2_below w (Obj.cells #[.int .i64 0, .int .i64 0, .slice none 0 0] 24) (Obj.cells #[.string K0, .bool true, .int .i64 K2, .int .i64 K3, .int .i64 K4] 93)
    have hr := heap_alloc2_old w (Obj.cells #[.int .i64 0, .int .i64 0, .slice none 0 0] 24) (Obj.cells #[.string K0, .bool true, .int .i64 K2, .int .i64 K3, .int .i64 K4] 93)
    have hr2 := heap2_new w (Obj.cells #[.int .i64 0, .int .i64 0, .slice none 0 0] 24) (Obj.cells #[.string K0, .bool true, .int .i64 K2, .int .i64 K3, .int .i64 K4] 93)
    generalize (w.alloc (Obj.cells #[.int .i64 0, .int .i64 0, .slice none 0 0] 24)).alloc (Obj.cells #[.string K0, .bool true, .int .i64 K2, .int .i64 K3, .int .i64 K4] 93) = w3 at *
    have g3 : w3.cell? ⟨B, o, none⟩ = some (.int .u8 (y : Int)) := (hb2.cell hlt).trans g0
    have z0 := cell_of_row _ _ 0 _ _ _ hr
    have z1 := cell_of_row _ _ 1 _ _ _ hr
    have z2 := cell_of_row _ _ 2 _ _ _ hr
    have y0 := frozen_of_row _ _ 0 _ _ hr
    have y1 := frozen_of_row _ _ 1 _ _ hr
    have y2 := frozen_of_row _ _ 2 _ _ hr
    have p0 := cell_of_row _ _ 0 _ _ _ hr2
    have p1 := cell_of_row _ _ 1 _ _ _ hr2
    have p2 := cell_of_row _ _ 2 _ _ _ hr2
    have p3 := cell_of_row _ _ 3 _ _ _ hr2
    have p4 := cell_of_row _ _ 4 _ _ _ hr2
    have e0 : B ≠ w.heap.size := by omega
    have HR2 := Lib.hid hr
    have HR3 := Lib.hid hr2
    have HB2 := Lib.hid hb2
    clear hr hr2 hb2 k0 k1 k2 k3 k4
    have gx : (((w3.setCell ⟨w.heap.size, 0, none⟩ (.int .i64 (y : Int))).setCell ⟨w.heap.size, 1, none⟩ (.int .i64 0)).setCell ⟨w.heap.size, 2, none⟩ (.slice none 0 0)).cell? ⟨B, o, none⟩ = some (.int .u8 (y : Int)) := (far_set _ _ e0).trans ((far_set _ _ e0).trans ((far_set _ _ e0).trans g3))
    go_region_held3 (fun w' => w'.cell? ⟨B, o, none⟩ = some (.int .u8 (y : Int))) (first | with_reducible exact gx | with_reducible exact g3 | (go_keep; done)) (fail)
    obtain ⟨w5, hw5⟩ : ∃ w5, w5 = (((w3.setCell ⟨w.heap.size, 0, none⟩ (.int .i64 (y : Int))).setCell ⟨w.heap.size, 1, none⟩ (.int .i64 0)).setCell ⟨w.heap.size, 2, none⟩ (.slice none 0 0)).drew := ⟨_, rfl⟩
    rw [← hw5]
    obtain ⟨r5, r6, hb5⟩ := rd_mid HB2.out HR2.out HR3.out hw5
    clear hw5 p0 p1 p2 p3 p4 z0 z1 z2 y0 y1 y2 g3 gx
    have p0 := cell_of_row _ _ 0 _ _ _ r6
    have p1 := cell_of_row _ _ 1 _ _ _ r6
    have p2 := cell_of_row _ _ 2 _ _ _ r6
    have p3 := cell_of_row _ _ 3 _ _ _ r6
    have p4 := cell_of_row _ _ 4 _ _ _ r6
    go_wp2_with fail
    refine (HND.out _).mono ?_
    rintro e w6 ⟨rfl, hb6⟩
    have i6 := (hb6.block w.heap.size ((Array.getElem?_eq_some_iff.1 r5).1)).trans r5
    have i7 := (hb6.block (w.heap.size + 1) ((Array.getElem?_eq_some_iff.1 r6).1)).trans r6
    clear p0 p1 p2 p3 p4
    have p0 := cell_of_row _ _ 0 _ _ _ i7
    have p1 := cell_of_row _ _ 1 _ _ _ i7
    have p2 := cell_of_row _ _ 2 _ _ _ i7
    have p3 := cell_of_row _ _ 3 _ _ _ i7
    have p4 := cell_of_row _ _ 4 _ _ _ i7
    have z0 := cell_of_row _ _ 0 _ _ _ i6
    have z1 := cell_of_row _ _ 1 _ _ _ i6
    have z2 := cell_of_row _ _ 2 _ _ _ i6
    have y0 := frozen_of_row _ _ 0 _ _ i6
    have y1 := frozen_of_row _ _ 1 _ _ i6
    have y2 := frozen_of_row _ _ 2 _ _ i6
    have hb7 := hb5.trans (hb6.mono hb5.size)
    have HB7 := Lib.hid hb7
    have I6 := Lib.hid i6
    have I7 := Lib.hid i7
    have g6 : w6.cell? ⟨B, o + 1, none⟩ = some (.int .u8 (x : Int)) := (hb7.cell hlt).trans g1
    clear i6 i7 hb5 hb6 r5 r6 hb7
    go_wp2_with fail
    go_quiet (fail)
    have hbq : Below w6.heap.size w6 (w6.drewN nq) := below_drewN (Below.refl _ _) nq
    have j6 := (hbq.block _ ((Array.getElem?_eq_some_iff.1 I6.out).1)).trans I6.out
    have j7 := (hbq.block _ ((Array.getElem?_eq_some_iff.1 I7.out).1)).trans I7.out
    have HBQ := Lib.hid (HB7.out.trans (hbq.mono HB7.out.size))
    generalize w6.drewN nq = w7 at *
    clear p0 p1 p2 p3 p4 z0 z1 z2 y0 y1 y2 hbq
    have p0 := cell_of_row _ _ 0 _ _ _ j7
    have p1 := cell_of_row _ _ 1 _ _ _ j7
    have p2 := cell_of_row _ _ 2 _ _ _ j7
    have p3 := cell_of_row _ _ 3 _ _ _ j7
    have p4 := cell_of_row _ _ 4 _ _ _ j7
    have J6 := Lib.hid j6
    clear j6 j7
    go_wp2_with fail
    refine (HND.out _).mono ?_
    rintro e w8 ⟨rfl, hb9⟩
    have HB9 := Lib.hid (HBQ.out.trans (hb9.mono HBQ.out.size))
    have I8 := Lib.hid ((hb9.block w.heap.size ((Array.getElem?_eq_some_iff.1 J6.out).1)).trans J6.out)
    clear hb9 p0 p1 p2 p3 p4
    go_wp2_with fail
    go_loopw [0, 4, 7, 58] (fun v0 v4 v7 v58 wr => ∃ (bk : List UInt8) (ks : List Cn) (A : Option Addr) (c : Nat) (ok : Bool) (k : Nat) (u7 : Value) (Ak : Option Addr) (ck : Nat), v0 = .slice A bk.length c ∧ v4 = .bool ok ∧ v7 = u7 ∧ v58 = .int .i64 k ∧
        Hid (rdS (rdF f) x (b.drop 2) [] = rdS (rdF f) (x - k) bk ks) ∧ Hid (SL wr B0 v0 bk) ∧ Hid (wr.heap[w.heap.size]? = some (.cells #[.int .i64 y, .int .i64 0, .slice Ak ks.length ck] 24 (0, 0))) ∧
        Hid (OC wr (w.heap.size + 1) (.slice Ak ks.length ck) ks) ∧ Below w.heap.size w wr ∧ Hid (ks.length = k ∧ k ≤ x ∧ bk.length ≤ 0)) (fun _ _ _ v58 _ => x - (match v58 with | Value.int _ k => k.toNat | _ => 0))
    case atStart =>
      have hd2 : (b.drop 2).length = 0 := by rw [List.length_drop, HN.out]
      refine ⟨[], [], _, _, false, 0, _, none, 0, rfl, rfl, rfl, rfl, (show _ = _ by rw [List.eq_nil_of_length_eq_zero hd2]; rfl), ?_, I8.out, OC.nil _ _, HB9.out, ⟨rfl, Nat.zero_le _, Nat.zero_le _⟩⟩
      exact SL.nil _ _ _ _ (Nat.zero_le _)
    case round =>
      obtain ⟨bk, ks, A, c, ok, k, u7, Ak, ck, rfl, rfl, rfl, rfl, hR, hsl, hrow, hoc, hbel, hk⟩ := hrel
      have hk' := hk.out.2
      by_cases hkx : k < x
      · have hki : (k : Int) < (x : Int) := by omega
        go_wp2_with fail
        have hb12 := alloc_below wr (Obj.cells #[.int .i64 0, .int .i64 0, .slice none 0 0] 24)
        have hr12 := heap_alloc_new wr (Obj.cells #[.int .i64 0, .int .i64 0, .slice none 0 0] 24)
        have hz12 : (wr.alloc (Obj.cells #[.int .i64 0, .int .i64 0, .slice none 0 0] 24)).heap.size = wr.heap.size + 1 := alloc_size _ _
        have hsw := hbel.size
        refine (HK.out bk _ _ (by have := HN.out; omega) (by omega) (HT.out.on (hbel.trans (hb12.mono hsw))) (hsl.out.below (hb12.mono (Nat.le_trans hle hsw)))).mono ?_
        generalize wr.alloc (Obj.cells #[.int .i64 0, .int .i64 0, .slice none 0 0] 24) = w11 at *
        rintro e w12 ⟨hb13, h⟩
        have j0 := (hb13.block w.heap.size (by have := (Array.getElem?_eq_some_iff.1 hrow.out).1; omega)).trans ((hb12.block w.heap.size ((Array.getElem?_eq_some_iff.1 hrow.out).1)).trans hrow.out)
        have j1 := (hb13.block wr.heap.size (by omega)).trans hr12
        have a0 := cell_of_row _ _ 0 _ _ _ j0
        have a1 := cell_of_row _ _ 1 _ _ _ j0
        have a2 := cell_of_row _ _ 2 _ _ _ j0
        have c0 := cell_of_row _ _ 0 _ _ _ j1
        have c1 := cell_of_row _ _ 1 _ _ _ j1
        have c2 := cell_of_row _ _ 2 _ _ _ j1
        have fa0 := frozen_of_row _ _ 0 _ _ j0
        have fa1 := frozen_of_row _ _ 1 _ _ j0
        have fa2 := frozen_of_row _ _ 2 _ _ j0
        have fc0 := frozen_of_row _ _ 0 _ _ j1
        have fc1 := frozen_of_row _ _ 1 _ _ j1
        have fc2 := frozen_of_row _ _ 2 _ _ j1
        have J0 := Lib.hid j0
        have J1 := Lib.hid j1
        have HB12 := Lib.hid hb12
        have HB13 := Lib.hid hb13
        have HSW := Lib.hid hsw
        have HZ := Lib.hid hz12
        clear j0 j1 hb12 hb13 hr12 hz12
        have hlw : w.heap.size < wr.heap.size := lt_row' hrow.out
        have hne1 : w.heap.size ≠ wr.heap.size := by omega
        have HBK := Lib.hid (hbel.trans ((HB12.out.trans (HB13.out.mono HB12.out.size)).mono HSW.out))
        have hne2 : wr.heap.size ≠ w.heap.size := by omega
        rcases h with ⟨hno, rfl⟩ | ⟨kd, r, Ak2, ck2, Ar, cr, hso, rfl, hkc, hsr⟩
        · have HNO := Lib.hid hno
          clear hno
          go_wp2_with fail
          have hrr := (set3_other w12 wr.heap.size w.heap.size (.int .i64 0) (.int .i64 0) (.slice none 0 0) hne1).trans J0.out
          refine bodyPost_ret (results_cell3 rfl _ _ w.heap.size 24 #[.int .i64 0, .int .i64 0, .slice none 0 0] (0, 0) _ rfl (row3_set _ _ _ _ _ _ _ _ _ hrr) Tryd.underlying24 rfl (by kernel_rfl)) rfl ?_
          have hRn : R = none := by
            rw [HR.out, ← HX.out, hR.out]
            obtain ⟨s, hs⟩ : ∃ s, x - k = s + 1 := ⟨x - k - 1, by omega⟩
            rw [hs]
            simp only [rdS, HNO.out]
          rw [hRn]
          exact rdp_none (set3_below (set3_below HBK.out _ (Nat.le_of_lt hlw) _ _ _) _ (Nat.le_refl _) _ _ _)
        · have HSO := Lib.hid hso
          have HKC := Lib.hid hkc
          have HSR := Lib.hid hsr
          clear hso hkc hsr
          obtain ⟨W, hW⟩ : ∃ W, W = (((w12.setCell ⟨wr.heap.size, 0, none⟩ (.int .i64 kd.op)).setCell ⟨wr.heap.size, 1, none⟩ (.int .i64 kd.n)).setCell ⟨wr.heap.size, 2, none⟩ (.slice Ak2 kd.kids.length ck2)).alloc (.cells #[.int .i64 kd.op, .int .i64 kd.n, .slice Ak2 kd.kids.length ck2] 24) := ⟨_, rfl⟩
          obtain ⟨x1, x2, x3, x4⟩ := kid_w hW (lt_row' J1.out)
          have hsz11 : w11.heap.size = wr.heap.size + 1 := HZ.out
          have hs1 := HB13.out.size
          have HRW := Lib.hid ((x3 w.heap.size hne1 (by omega)).trans J0.out)
          have HBW := Lib.hid (x4 wr.heap.size wr (HB12.out.trans (HB13.out.mono HB12.out.size)) (Nat.le_refl _) (by omega))
          have HOW := Lib.hid (hoc.out.later HBW.out)
          have HBL : Hid (∀ b, (Value.slice Ak ks.length ck).ownBlock = some b → b < w11.heap.size) := fun b hb => by have := (hoc.out.ltB b hb).2; omega
          have HKW : Hid (KC W (From W w11.heap.size) (.slice Ak2 kd.kids.length ck2) kd.kids) := HKC.out.keep fun b hS => ⟨⟨hS.1, by have := hS.2; omega⟩, fun o => World.cell?_of_block (x3 b (by have := hS.1; omega) hS.2)⟩
          have HX1 := Lib.hid x1
          have HWB : Hid (Below B0 w12 W) := x4 B0 w12 (Below.refl _ _) (by omega) (by omega)
          have HSZW : Hid (w.heap.size + 1 ≤ W.heap.size) := by show _ ≤ _; omega
          have HW := Lib.hid hW
          clear x1 x2 x3 x4 hW
          go_wp2_with (at_builtin; go_loud (rw [← HW.out]; refine wpList_appC (by rfl) (.tmp 70) (.tmp 72) (by rfl) (w.heap.size + 1) (.slice Ak ks.length ck) ks kd (.slice Ak2 kd.kids.length ck2) w12.heap.size w11.heap.size (by rfl) (by rfl) HOW.out HKW.out HBL.out (by omega) HX1.out (by have := hk.out; omega) HSZW.out ?_; intro v8 w8 hv8 hb8; obtain ⟨A8, c8, rfl⟩ := hv8.value; have hr8 := (hb8.block w.heap.size (by omega)).trans HRW.out; have q2 := cell_of_row _ _ 2 _ _ _ hr8; have f2 := frozen_of_row _ _ 2 _ _ hr8))
          have hl8 : (ks ++ [kd]).length = ks.length + 1 := by simp
          have hlk := hk.out.1
          have hrl := rdF_len _ _ _ _ HSO.out
          obtain ⟨s, hs⟩ : ∃ s, x - k = s + 1 := ⟨x - k - 1, by omega⟩
          have hs2 : x - (k + 1) = s := by omega
          refine ⟨⟨r, ks ++ [kd], Ar, cr, true, k + 1, _, A8, c8, rfl, rfl, rfl, by go_num, ?_, ?_, ?_, ?_, ?_, ?_⟩, ?_⟩
          · show _ = _
            rw [hR.out, hs, hs2]
            simp only [rdS, HSO.out]
          · exact HSR.out.below ((HWB.out.trans (hb8.mono (by omega))).setCell (p := ⟨w.heap.size, 2, none⟩) (by omega) _)
          · show _ = _
            rw [hl8]
            rw [heap_setCell_same _ _ 2 _ _ _ hr8]
            simp
          · show OC _ _ _ _
            have := hv8.setOld (g := w.heap.size) (i := 2) (x := .slice A8 (ks.length + 1) c8) (Nat.lt_succ_self _)
            exact this
          · exact ((hbel.trans (HBW.out.mono HSW.out)).trans (hb8.mono (Nat.le_succ _))).setCell (p := ⟨w.heap.size, 2, none⟩) (Nat.le_refl _) _
          · exact ⟨by rw [hl8, hlk], by omega, by omega⟩
          · simp; omega
      · have hki : ¬ (k : Int) < (x : Int) := by omega
        have hrw := hrow.out
        have z0 := cell_of_row _ _ 0 _ _ _ hrw
        have z1 := cell_of_row _ _ 1 _ _ _ hrw
        have z2 := cell_of_row _ _ 2 _ _ _ hrw
        have y0 := frozen_of_row _ _ 0 _ _ hrw
        have y1 := frozen_of_row _ _ 1 _ _ hrw
        have y2 := frozen_of_row _ _ 2 _ _ hrw
        clear hrw
        go_wp2_with fail
        have hx0 : x - k = 0 := by omega
        have hRs : R = some (.mk (y : Int) 0 ks, bk) := by
          rw [HR.out, ← HX.out, hR.out, hx0, ← HY.out]
          rfl
        refine bodyPost_ret (results_cell3 rfl _ _ w.heap.size 24 #[.int .i64 y, .int .i64 0, .slice Ak ks.length ck] (0, 0) _ rfl (row3_set _ _ _ _ _ _ _ _ _ hrow.out) Tryd.underlying24 rfl (by kernel_rfl)) rfl ?_
        exact ⟨set3_below hbel _ (Nat.le_refl _) _ _ _, .inr ⟨.mk (y : Int) 0 ks, bk, Ak, ck, A, c, hRs, rfl, (((hoc.out.setOld (Nat.lt_succ_self _)).setOld (Nat.lt_succ_self _)).setOld (Nat.lt_succ_self _)).kc.fromMore (Nat.le_succ _), hsl.out.below (set3_below (Below.refl B0 wr) _ hle _ _ _)⟩⟩
  · go_enter Tryd.func84, Tryd.ntmps84
    go_wp2_with fail
    have hb2 := alloc2_below w (Obj.cells #[.int .i64 0, .int .i64 0, .slice none 0 0] 24) (Obj.cells #[.string K0, .bool true, .int .i64 K2, .int .i64 K3, .int .i64 K4] 93)
    have hr := heap_alloc2_old w (Obj.cells #[.int .i64 0, .int .i64 0, .slice none 0 0] 24) (Obj.cells #[.string K0, .bool true, .int .i64 K2, .int .i64 K3, .int .i64 K4] 93)
    have hr2 := heap2_new w (Obj.cells #[.int .i64 0, .int .i64 0, .slice none 0 0] 24) (Obj.cells #[.string K0, .bool true, .int .i64 K2, .int .i64 K3, .int .i64 K4] 93)
    generalize (w.alloc (Obj.cells #[.int .i64 0, .int .i64 0, .slice none 0 0] 24)).alloc (Obj.cells #[.string K0, .bool true, .int .i64 K2, .int .i64 K3, .int .i64 K4] 93) = w3 at *
    have g3 : w3.cell? ⟨B, o, none⟩ = some (.int .u8 (y : Int)) := (hb2.cell hlt).trans g0
    have z0 := cell_of_row _ _ 0 _ _ _ hr
    have z1 := cell_of_row _ _ 1 _ _ _ hr
    have z2 := cell_of_row _ _ 2 _ _ _ hr
    have y0 := frozen_of_row _ _ 0 _ _ hr
    have y1 := frozen_of_row _ _ 1 _ _ hr
    have y2 := frozen_of_row _ _ 2 _ _ hr
    have p0 := cell_of_row _ _ 0 _ _ _ hr2
    have p1 := cell_of_row _ _ 1 _ _ _ hr2
    have p2 := cell_of_row _ _ 2 _ _ _ hr2
    have p3 := cell_of_row _ _ 3 _ _ _ hr2
    have p4 := cell_of_row _ _ 4 _ _ _ hr2
    have e0 : B ≠ w.heap.size := by omega
    have HR2 := Lib.hid hr
    have HR3 := Lib.hid hr2
    have HB2 := Lib.hid hb2
    clear hr hr2 hb2 k0 k1 k2 k3 k4
    have h1a : (1 : Int) ≤ (n : Int) + 1 + 1 := by omega
    have h1b : (1 : Int) ≤ (n : Int) + 1 := by omega
    have gx : (((w3.setCell ⟨w.heap.size, 0, none⟩ (.int .i64 (y : Int))).setCell ⟨w.heap.size, 1, none⟩ (.int .i64 0)).setCell ⟨w.heap.size, 2, none⟩ (.slice none 0 0)).cell? ⟨B, o, none⟩ = some (.int .u8 (y : Int)) := (far_set _ _ e0).trans ((far_set _ _ e0).trans ((far_set _ _ e0).trans g3))
    go_region_held3 (fun w' => w'.cell? ⟨B, o, none⟩ = some (.int .u8 (y : Int))) (first | with_reducible exact gx | with_reducible exact g3 | (go_keep; done)) (fail)
    obtain ⟨w5, hw5⟩ : ∃ w5, w5 = (((w3.setCell ⟨w.heap.size, 0, none⟩ (.int .i64 (y : Int))).setCell ⟨w.heap.size, 1, none⟩ (.int .i64 0)).setCell ⟨w.heap.size, 2, none⟩ (.slice none 0 0)).drew := ⟨_, rfl⟩
    rw [← hw5]
    obtain ⟨r5, r6, hb5⟩ := rd_mid HB2.out HR2.out HR3.out hw5
    clear hw5 p0 p1 p2 p3 p4 z0 z1 z2 y0 y1 y2 g3 gx
    have p0 := cell_of_row _ _ 0 _ _ _ r6
    have p1 := cell_of_row _ _ 1 _ _ _ r6
    have p2 := cell_of_row _ _ 2 _ _ _ r6
    have p3 := cell_of_row _ _ 3 _ _ _ r6
    have p4 := cell_of_row _ _ 4 _ _ _ r6
    go_wp2_with fail
    refine (HND.out _).mono ?_
    rintro e w6 ⟨rfl, hb6⟩
    have i6 := (hb6.block w.heap.size ((Array.getElem?_eq_some_iff.1 r5).1)).trans r5
    have i7 := (hb6.block (w.heap.size + 1) ((Array.getElem?_eq_some_iff.1 r6).1)).trans r6
    clear p0 p1 p2 p3 p4
    have p0 := cell_of_row _ _ 0 _ _ _ i7
    have p1 := cell_of_row _ _ 1 _ _ _ i7
    have p2 := cell_of_row _ _ 2 _ _ _ i7
    have p3 := cell_of_row _ _ 3 _ _ _ i7
    have p4 := cell_of_row _ _ 4 _ _ _ i7
    have z0 := cell_of_row _ _ 0 _ _ _ i6
    have z1 := cell_of_row _ _ 1 _ _ _ i6
    have z2 := cell_of_row _ _ 2 _ _ _ i6
    have y0 := frozen_of_row _ _ 0 _ _ i6
    have y1 := frozen_of_row _ _ 1 _ _ i6
    have y2 := frozen_of_row _ _ 2 _ _ i6
    have hb7 := hb5.trans (hb6.mono hb5.size)
    have HB7 := Lib.hid hb7
    have I6 := Lib.hid i6
    have I7 := Lib.hid i7
    have g6 : w6.cell? ⟨B, o + 1, none⟩ = some (.int .u8 (x : Int)) := (hb7.cell hlt).trans g1
    clear i6 i7 hb5 hb6 r5 r6 hb7
    go_wp2_with fail
    go_quiet (fail)
    have hbq : Below w6.heap.size w6 (w6.drewN nq) := below_drewN (Below.refl _ _) nq
    have j6 := (hbq.block _ ((Array.getElem?_eq_some_iff.1 I6.out).1)).trans I6.out
    have j7 := (hbq.block _ ((Array.getElem?_eq_some_iff.1 I7.out).1)).trans I7.out
    have HBQ := Lib.hid (HB7.out.trans (hbq.mono HB7.out.size))
    generalize w6.drewN nq = w7 at *
    clear p0 p1 p2 p3 p4 z0 z1 z2 y0 y1 y2 hbq
    have p0 := cell_of_row _ _ 0 _ _ _ j7
    have p1 := cell_of_row _ _ 1 _ _ _ j7
    have p2 := cell_of_row _ _ 2 _ _ _ j7
    have p3 := cell_of_row _ _ 3 _ _ _ j7
    have p4 := cell_of_row _ _ 4 _ _ _ j7
    have J6 := Lib.hid j6
    clear j6 j7
    go_wp2_with fail
    refine (HND.out _).mono ?_
    rintro e w8 ⟨rfl, hb9⟩
    have HB9 := Lib.hid (HBQ.out.trans (hb9.mono HBQ.out.size))
    have I8 := Lib.hid ((hb9.block w.heap.size ((Array.getElem?_eq_some_iff.1 J6.out).1)).trans J6.out)
    clear hb9 p0 p1 p2 p3 p4
    go_wp2_with fail
    go_loopw [0, 4, 7, 58] (fun v0 v4 v7 v58 wr => ∃ (bk : List UInt8) (ks : List Cn) (A : Option Addr) (c : Nat) (ok : Bool) (k : Nat) (u7 : Value) (Ak : Option Addr) (ck : Nat), v0 = .slice A bk.length c ∧ v4 = .bool ok ∧ v7 = u7 ∧ v58 = .int .i64 k ∧
        Hid (rdS (rdF f) x (b.drop 2) [] = rdS (rdF f) (x - k) bk ks) ∧ Hid (SL wr B0 v0 bk) ∧ Hid (wr.heap[w.heap.size]? = some (.cells #[.int .i64 y, .int .i64 0, .slice Ak ks.length ck] 24 (0, 0))) ∧
        Hid (OC wr (w.heap.size + 1) (.slice Ak ks.length ck) ks) ∧ Below w.heap.size w wr ∧ Hid (ks.length = k ∧ k ≤ x ∧ bk.length ≤ n)) (fun _ _ _ v58 _ => x - (match v58 with | Value.int _ k => k.toNat | _ => 0))
    case atStart =>
      have hd2 : (b.drop 2).length = n := by rw [List.length_drop, HN.out]; rfl
      refine ⟨b.drop 2, [], some ⟨B, o + 1 + 1, none⟩, m + 1, false, 0, _, none, 0, by rw [hd2], rfl, rfl, rfl, rfl, ?_, I8.out, OC.nil _ _, HB9.out, ⟨rfl, Nat.zero_le _, Nat.le_of_eq hd2⟩⟩
      exact (sl_tail2 HV.out HN.out).below (HB9.out.mono hle)
    case round =>
      obtain ⟨bk, ks, A, c, ok, k, u7, Ak, ck, rfl, rfl, rfl, rfl, hR, hsl, hrow, hoc, hbel, hk⟩ := hrel
      have hk' := hk.out.2
      by_cases hkx : k < x
      · have hki : (k : Int) < (x : Int) := by omega
        go_wp2_with fail
        have hb12 := alloc_below wr (Obj.cells #[.int .i64 0, .int .i64 0, .slice none 0 0] 24)
        have hr12 := heap_alloc_new wr (Obj.cells #[.int .i64 0, .int .i64 0, .slice none 0 0] 24)
        have hz12 : (wr.alloc (Obj.cells #[.int .i64 0, .int .i64 0, .slice none 0 0] 24)).heap.size = wr.heap.size + 1 := alloc_size _ _
        have hsw := hbel.size
        refine (HK.out bk _ _ (by have := HN.out; omega) (by omega) (HT.out.on (hbel.trans (hb12.mono hsw))) (hsl.out.below (hb12.mono (Nat.le_trans hle hsw)))).mono ?_
        generalize wr.alloc (Obj.cells #[.int .i64 0, .int .i64 0, .slice none 0 0] 24) = w11 at *
        rintro e w12 ⟨hb13, h⟩
        have j0 := (hb13.block w.heap.size (by have := (Array.getElem?_eq_some_iff.1 hrow.out).1; omega)).trans ((hb12.block w.heap.size ((Array.getElem?_eq_some_iff.1 hrow.out).1)).trans hrow.out)
        have j1 := (hb13.block wr.heap.size (by omega)).trans hr12
        have a0 := cell_of_row _ _ 0 _ _ _ j0
        have a1 := cell_of_row _ _ 1 _ _ _ j0
        have a2 := cell_of_row _ _ 2 _ _ _ j0
        have c0 := cell_of_row _ _ 0 _ _ _ j1
        have c1 := cell_of_row _ _ 1 _ _ _ j1
        have c2 := cell_of_row _ _ 2 _ _ _ j1
        have fa0 := frozen_of_row _ _ 0 _ _ j0
        have fa1 := frozen_of_row _ _ 1 _ _ j0
        have fa2 := frozen_of_row _ _ 2 _ _ j0
        have fc0 := frozen_of_row _ _ 0 _ _ j1
        have fc1 := frozen_of_row _ _ 1 _ _ j1
        have fc2 := frozen_of_row _ _ 2 _ _ j1
        have J0 := Lib.hid j0
        have J1 := Lib.hid j1
        have HB12 := Lib.hid hb12
        have HB13 := Lib.hid hb13
        have HSW := Lib.hid hsw
        have HZ := Lib.hid hz12
        clear j0 j1 hb12 hb13 hr12 hz12
        have hlw : w.heap.size < wr.heap.size := lt_row' hrow.out
        have hne1 : w.heap.size ≠ wr.heap.size := by omega
        have HBK := Lib.hid (hbel.trans ((HB12.out.trans (HB13.out.mono HB12.out.size)).mono HSW.out))
        have hne2 : wr.heap.size ≠ w.heap.size := by omega
        rcases h with ⟨hno, rfl⟩ | ⟨kd, r, Ak2, ck2, Ar, cr, hso, rfl, hkc, hsr⟩
        · have HNO := Lib.hid hno
          clear hno
          go_wp2_with fail
          have hrr := (set3_other w12 wr.heap.size w.heap.size (.int .i64 0) (.int .i64 0) (.slice none 0 0) hne1).trans J0.out
          refine bodyPost_ret (results_cell3 rfl _ _ w.heap.size 24 #[.int .i64 0, .int .i64 0, .slice none 0 0] (0, 0) _ rfl (row3_set _ _ _ _ _ _ _ _ _ hrr) Tryd.underlying24 rfl (by kernel_rfl)) rfl ?_
          have hRn : R = none := by
            rw [HR.out, ← HX.out, hR.out]
            obtain ⟨s, hs⟩ : ∃ s, x - k = s + 1 := ⟨x - k - 1, by omega⟩
            rw [hs]
            simp only [rdS, HNO.out]
          rw [hRn]
          exact rdp_none (set3_below (set3_below HBK.out _ (Nat.le_of_lt hlw) _ _ _) _ (Nat.le_refl _) _ _ _)
        · have HSO := Lib.hid hso
          have HKC := Lib.hid hkc
          have HSR := Lib.hid hsr
          clear hso hkc hsr
          obtain ⟨W, hW⟩ : ∃ W, W = (((w12.setCell ⟨wr.heap.size, 0, none⟩ (.int .i64 kd.op)).setCell ⟨wr.heap.size, 1, none⟩ (.int .i64 kd.n)).setCell ⟨wr.heap.size, 2, none⟩ (.slice Ak2 kd.kids.length ck2)).alloc (.cells #[.int .i64 kd.op, .int .i64 kd.n, .slice Ak2 kd.kids.length ck2] 24) := ⟨_, rfl⟩
          obtain ⟨x1, x2, x3, x4⟩ := kid_w hW (lt_row' J1.out)
          have hsz11 : w11.heap.size = wr.heap.size + 1 := HZ.out
          have hs1 := HB13.out.size
          have HRW := Lib.hid ((x3 w.heap.size hne1 (by omega)).trans J0.out)
          have HBW := Lib.hid (x4 wr.heap.size wr (HB12.out.trans (HB13.out.mono HB12.out.size)) (Nat.le_refl _) (by omega))
          have HOW := Lib.hid (hoc.out.later HBW.out)
          have HBL : Hid (∀ b, (Value.slice Ak ks.length ck).ownBlock = some b → b < w11.heap.size) := fun b hb => by have := (hoc.out.ltB b hb).2; omega
          have HKW : Hid (KC W (From W w11.heap.size) (.slice Ak2 kd.kids.length ck2) kd.kids) := HKC.out.keep fun b hS => ⟨⟨hS.1, by have := hS.2; omega⟩, fun o => World.cell?_of_block (x3 b (by have := hS.1; omega) hS.2)⟩
          have HX1 := Lib.hid x1
          have HWB : Hid (Below B0 w12 W) := x4 B0 w12 (Below.refl _ _) (by omega) (by omega)
          have HSZW : Hid (w.heap.size + 1 ≤ W.heap.size) := by show _ ≤ _; omega
          have HW := Lib.hid hW
          clear x1 x2 x3 x4 hW
          go_wp2_with (at_builtin; go_loud (rw [← HW.out]; refine wpList_appC (by rfl) (.tmp 70) (.tmp 72) (by rfl) (w.heap.size + 1) (.slice Ak ks.length ck) ks kd (.slice Ak2 kd.kids.length ck2) w12.heap.size w11.heap.size (by rfl) (by rfl) HOW.out HKW.out HBL.out (by omega) HX1.out (by have := hk.out; omega) HSZW.out ?_; intro v8 w8 hv8 hb8; obtain ⟨A8, c8, rfl⟩ := hv8.value; have hr8 := (hb8.block w.heap.size (by omega)).trans HRW.out; have q2 := cell_of_row _ _ 2 _ _ _ hr8; have f2 := frozen_of_row _ _ 2 _ _ hr8))
          have hl8 : (ks ++ [kd]).length = ks.length + 1 := by simp
          have hlk := hk.out.1
          have hrl := rdF_len _ _ _ _ HSO.out
          obtain ⟨s, hs⟩ : ∃ s, x - k = s + 1 := ⟨x - k - 1, by omega⟩
          have hs2 : x - (k + 1) = s := by omega
          refine ⟨⟨r, ks ++ [kd], Ar, cr, true, k + 1, _, A8, c8, rfl, rfl, rfl, by go_num, ?_, ?_, ?_, ?_, ?_, ?_⟩, ?_⟩
          · show _ = _
            rw [hR.out, hs, hs2]
            simp only [rdS, HSO.out]
          · exact HSR.out.below ((HWB.out.trans (hb8.mono (by omega))).setCell (p := ⟨w.heap.size, 2, none⟩) (by omega) _)
          · show _ = _
            rw [hl8]
            rw [heap_setCell_same _ _ 2 _ _ _ hr8]
            simp
          · show OC _ _ _ _
            have := hv8.setOld (g := w.heap.size) (i := 2) (x := .slice A8 (ks.length + 1) c8) (Nat.lt_succ_self _)
            exact this
          · exact ((hbel.trans (HBW.out.mono HSW.out)).trans (hb8.mono (Nat.le_succ _))).setCell (p := ⟨w.heap.size, 2, none⟩) (Nat.le_refl _) _
          · exact ⟨by rw [hl8, hlk], by omega, by omega⟩
          · simp; omega
      · have hki : ¬ (k : Int) < (x : Int) := by omega
        have hrw := hrow.out
        have z0 := cell_of_row _ _ 0 _ _ _ hrw
        have z1 := cell_of_row _ _ 1 _ _ _ hrw
        have z2 := cell_of_row _ _ 2 _ _ _ hrw
        have y0 := frozen_of_row _ _ 0 _ _ hrw
        have y1 := frozen_of_row _ _ 1 _ _ hrw
        have y2 := frozen_of_row _ _ 2 _ _ hrw
        clear hrw
        go_wp2_with fail
        have hx0 : x - k = 0 := by omega
        have hRs : R = some (.mk (y : Int) 0 ks, bk) := by
          rw [HR.out, ← HX.out, hR.out, hx0, ← HY.out]
          rfl
        refine bodyPost_ret (results_cell3 rfl _ _ w.heap.size 24 #[.int .i64 y, .int .i64 0, .slice Ak ks.length ck] (0, 0) _ rfl (row3_set _ _ _ _ _ _ _ _ _ hrow.out) Tryd.underlying24 rfl (by kernel_rfl)) rfl ?_
        exact ⟨set3_below hbel _ (Nat.le_refl _) _ _ _, .inr ⟨.mk (y : Int) 0 ks, bk, Ak, ck, A, c, hRs, rfl, (((hoc.out.setOld (Nat.lt_succ_self _)).setOld (Nat.lt_succ_self _)).setOld (Nat.lt_succ_self _)).kc.fromMore (Nat.le_succ _), hsl.out.below (set3_below (Below.refl B0 wr) _ hle _ _ _)⟩⟩

end Go.Proofs.YtjkbfogjfgnhiaaDoor
