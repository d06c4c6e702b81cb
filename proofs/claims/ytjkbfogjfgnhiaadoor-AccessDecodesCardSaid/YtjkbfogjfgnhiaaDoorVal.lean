/-
  The walk of valid, and of Check.
-/
import Derived.Test.YtjkbfogjfgnhiaaDoorVnd
namespace Go.Proofs.YtjkbfogjfgnhiaaDoor
set_option linter.unusedVariables false
set_option linter.unusedSimpArgs false
open Go.RowKit

/-- The block of a walk: nodes, depth. -/
def wrow (m d : Nat) : Obj := .cells #[.int .i64 (m : Int), .int .i64 (d : Int)] 55 (0, 0)
def ValP (c : Cn) (b m d e : Nat) (w : World) (r : Ending) (w' : World) : Prop :=
  r = .returned (.bool c.ok) ∧ Kb b w w' ∧ (c.ok = true → w'.heap[b]? = some (wrow (m + c.cnt) (max d (e + depK c.kids))))
def ValC (c : Cn) : Prop := ∀ (v : Value) (b B m d e : Nat) (w : World), B ≤ b → b < w.heap.size → 0 < B → w.heap[b]? = some (wrow m d) → KL w B v c.kids → Tb w → m + c.cnt ≤ 1000 → d ≤ 1000 → e + c.dep ≤ 1000 →
  Calls Tryd.prog 39 #[.pointer (some ⟨b, 0, none⟩), .agg #[.int .i64 c.op, .int .i64 c.n, v], .int .i64 (e : Int)] w (ValP c b m d e w)

set_option maxRecDepth 100000 in
set_option maxHeartbeats 3200000 in
theorem pval_step (c : Cn) (ih : ∀ c' : Cn, c'.dep < c.dep → ValC c') : ValC c := by
  obtain ⟨op, n, ts⟩ := c
  intro v b B m d e w hBb hbs hB0 hrow hk hT hm hd he
  have IH := Lib.hid ih
  clear ih
  have hkd := dep_kids (.mk op n ts)
  have hkc := cnt_kids (.mk op n ts)
  have HOK := Lib.hid (ok_parts (.mk op n ts))
  simp only [Cn.kids, Cn.op, Cn.n] at hk hkd hkc HOK ⊢
  have HP : Hid (ValP (.mk op n ts) b m d e w = ValP (.mk op n ts) b m d e w) := rfl
  clear HP
  generalize hc : Cn.mk op n ts = c at *
  obtain ⟨A, cap, rfl, h1, h2, h3⟩ := hk
  unfold maxLen at h2
  have hb0 := alloc_below w (Obj.cells #[Value.int IntKind.i64 op, Value.int IntKind.i64 n, Value.slice A ts.length cap] 24)
  have hr0 := (hb0.block b hbs).trans hrow
  have hsz0 : (w.alloc (Obj.cells #[Value.int IntKind.i64 op, Value.int IntKind.i64 n, Value.slice A ts.length cap] 24)).heap.size = w.heap.size + 1 := alloc_size _ _
  have hnew := heap_alloc_new w (Obj.cells #[Value.int IntKind.i64 op, Value.int IntKind.i64 n, Value.slice A ts.length cap] 24)
  have HEN := Lib.hid (penter_any b m d e _ hr0 (by omega) (by omega) (by omega))
  have HT := Lib.hid hT
  have HB0 := Lib.hid hb0
  have HSZ := Lib.hid hsz0
  have HNEW := Lib.hid hnew
  have HROW := Lib.hid hrow
  clear hb0 hr0 hsz0 hnew hT hrow
  have HC := Lib.hid hc
  clear hc
  go_enter Tryd.func39, Tryd.ntmps39
  go_wp2_with fail
  refine HEN.out.mono ?_
  rintro r w1 ⟨rfl, hk1, hr1⟩
  have hk01 := (Kb.of_below (b := b) HB0.out).trans hk1
  have hT1 : Tb w1 := HT.out.below (hk01.below (B := B) hBb (by omega)) hB0
  have hs1 : w.heap.size < w1.heap.size := by have := hk1.size; rw [HSZ.out] at this; omega
  have hn1 : w1.heap[w.heap.size]? = some (.cells #[Value.int IntKind.i64 op, Value.int IntKind.i64 n, Value.slice A ts.length cap] 24 (0, 0)) := (hk1.block w.heap.size (by rw [HSZ.out]; omega) (by omega)).trans HNEW.out
  have g0 := cell_of_row _ _ 0 _ _ _ hn1
  have g1 := cell_of_row _ _ 1 _ _ _ hn1
  have g2 := cell_of_row _ _ 2 _ _ _ hn1
  have HVN := Lib.hid (pvn_any op n A ts.length cap w1 hT1)
  have HK01 := Lib.hid hk01
  have HR1 := Lib.hid hr1
  have HT1 := Lib.hid hT1
  have HN1 := Lib.hid hn1
  clear hk1 hk01 hr1 hT1 hn1
  obtain ⟨X, hX⟩ : ∃ X, X = okN op n ts.length := ⟨_, rfl⟩
  rw [← hX] at HVN HOK
  clear hX
  go_wp2_with fail
  refine HVN.out.mono ?_
  rintro r w2 ⟨rfl, hb2⟩
  have hk02 := HK01.out.trans (Kb.of_below (b := b) hb2)
  have hs2 := hb2.size
  have hr2 : w2.heap[b]? = some (wrow (m + 1) (max d e)) := (hb2.block b (by omega)).trans HR1.out
  have hn2 := (hb2.block w.heap.size hs1).trans HN1.out
  have q2 := cell_of_row _ _ 2 _ _ _ hn2
  have HK02 := Lib.hid hk02
  have HR2 := Lib.hid hr2
  have HT2 := Lib.hid (HT1.out.on hb2)
  clear hb2 hk02 hr2 hn2 g0 g1 g2
  cases X with
  | false =>
    go_wp2_with fail
    go_ret
    exact ⟨ret_bool (by rw [HOK.out]; rfl), HK02.out, fun h => by rw [HOK.out] at h; cases h⟩
  | true =>
    have HOK2 : Hid (c.ok = okK ts) := by show _ = _; rw [HOK.out, Bool.true_and]
    clear HOK
    go_wp2_with fail
    go_loopw [19] (fun i wr => ∃ (k M D : Nat), k ≤ ts.length ∧ i = .int .i64 k ∧ M + cntK (ts.drop k) = m + c.cnt ∧ e ≤ D ∧ D ≤ 1000 ∧ Hid (max d (e + depK ts) = max D (e + depK (ts.drop k))) ∧ Hid (c.ok = okK (ts.drop k)) ∧ Hid (Kb b w wr) ∧ Hid (wr.heap[b]? = some (wrow M D))) (fun i _ => ts.length - (intOf i).toNat)
    case atStart => exact ⟨0, m + 1, max d e, Nat.zero_le _, rfl, by rw [List.drop_zero]; omega, by omega, by omega, by show _ = _; rw [List.drop_zero]; omega, by show _ = _; rw [List.drop_zero]; exact HOK2.out, HK02, HR2⟩
    case round =>
      obtain ⟨k, M, D, hkl, rfl, hM, hD1, hD2, HD, HO, HK, HR⟩ := hrel
      by_cases hlt : k < ts.length
      · obtain ⟨b1, o1, rfl, hb1, hts⟩ := h3.out (by omega)
        have hta := CnsAt.get hts hlt
        have hdp := depK_get ts k hlt
        have hcd := cntK_drop ts k hlt
        have hdd := depK_drop ts k hlt
        have hod := okK_drop ts k hlt
        obtain ⟨t, ht⟩ : ∃ t, t = ts[k] := ⟨_, rfl⟩
        rw [← ht] at hta hdp hcd hdd hod
        have hkt := dep_kids t
        have hta' := CnAt.keep (Nat.le_refl B) (fun p hp => HK.out.cell (by omega) (by omega)) t b1 _ hb1 hta
        obtain ⟨A2, c2, g1, g2, g3, hu⟩ := hta'.cells
        have hsr := HK.out.size
        have hb2 := alloc_below wr (Obj.cells #[Value.int IntKind.i64 t.op, Value.int IntKind.i64 t.n, Value.slice A2 t.kids.length c2] 24)
        have hz2 := alloc_size wr (Obj.cells #[Value.int IntKind.i64 t.op, Value.int IntKind.i64 t.n, Value.slice A2 t.kids.length c2] 24)
        have hTr : Tb wr := HT.out.below (HK.out.below (B := B) hBb (by omega)) hB0
        have hv := IH.out t (by omega) (.slice A2 t.kids.length c2) b B M D (e + 1) _ hBb (by omega) hB0 ((hb2.block b (by omega)).trans HR.out) (hu.keep (Nat.le_refl B) fun p hp => hb2.cell (by omega)) (hTr.on hb2) (by omega) (by omega) (by omega)
        rw [show ((e + 1 : Nat) : Int) = (e : Int) + 1 by omega] at hv
        have HV := Lib.hid hv
        have HB2 := Lib.hid hb2
        have HOD := Lib.hid hod
        have HDD := Lib.hid hdd
        obtain ⟨X, hX⟩ : ∃ X, X = t.ok := ⟨_, rfl⟩
        have HX := Lib.hid hX
        clear hv hb2 hz2 hod hdd hX hta hta' hts ht hu
        go_wp2_with fail
        refine HV.out.mono ?_
        rintro r w3 ⟨rfl, hk3, hr3⟩
        have hk03 := HK.out.trans ((Kb.of_below (b := b) HB2.out).trans hk3)
        rw [← HX.out]
        have HK3 := Lib.hid hk03
        have HR3 := Lib.hid hr3
        clear hk3 hk03 hr3
        cases X with
        | false =>
          go_wp2_with fail
          go_ret
          have hf : c.ok = false := by rw [HO.out, HOD.out, ← HX.out]; rfl
          exact ⟨ret_bool hf.symm, HK3.out, fun h => by rw [hf] at h; cases h⟩
        | true =>
          go_wp2_with fail
          go_roundw
          case rel =>
            refine ⟨k + 1, M + t.cnt, max D (e + 1 + depK t.kids), by omega, by go_num, by omega, by omega, by omega, ?_, ?_, HK3, HR3.out HX.out.symm⟩
            · show _ = _
              rw [HD.out, HDD.out]
              omega
            · show _ = _
              rw [HO.out, HOD.out, ← HX.out, Bool.true_and]
          case measure => simp [intOf]; omega
      · have hke : k = ts.length := by omega
        have HOK3 : Hid (c.ok = true) := by show _ = _; rw [HO.out, hke, List.drop_length, okK]
        have HD3 : Hid (max d (e + depK ts) = D) := by show _ = _; rw [HD.out, hke, List.drop_length, depK]; omega
        have HM3 : Hid (M = m + c.cnt) := by
          show _ = _
          rw [hke, List.drop_length, cntK] at hM
          omega
        clear hM
        subst hke
        go_wp2_with fail
        go_ret
        refine ⟨ret_bool HOK3.out.symm, HK.out, fun _ => ?_⟩
        rw [← HC.out]
        show wr.heap[b]? = some (wrow (m + (Cn.mk op n ts).cnt) (max d (e + depK ts)))
        rw [HC.out, HD3.out, ← HM3.out]
        exact HR.out

theorem pval_any : ∀ (n : Nat) (c : Cn), c.dep < n → ValC c
  | 0, c, h => absurd h (by omega)
  | n + 1, c, h => pval_step c fun c' h' => pval_any n c' (by omega)

set_option maxRecDepth 100000 in
set_option maxHeartbeats 1600000 in
theorem pchk_any (c : Cn) (v : Value) (w : World) (hk : KL w w.heap.size v c.kids) (hT : Tb w) (hc : c.cnt ≤ 400) :
    Calls Tryd.prog 17 #[.agg #[.int .i64 c.op, .int .i64 c.n, v]] w fun e w' => e = .returned (.int .i64 (chkC 1 3 c)) ∧ Below w.heap.size w w' := by
  have hdc := Cn.dep_cnt c
  have hz := hT.size
  obtain ⟨A, cap, rfl, h1, h2, h3⟩ := id hk
  have ha := alloc2_below w (Obj.cells #[Value.int IntKind.i64 c.op, Value.int IntKind.i64 c.n, Value.slice A c.kids.length cap] 24) (wrow 0 0)
  have hn := heap_alloc_new (w.alloc (Obj.cells #[Value.int IntKind.i64 c.op, Value.int IntKind.i64 c.n, Value.slice A c.kids.length cap] 24)) (wrow 0 0)
  have hs1 := alloc_size w (Obj.cells #[Value.int IntKind.i64 c.op, Value.int IntKind.i64 c.n, Value.slice A c.kids.length cap] 24)
  have hs2 := alloc_size (w.alloc (Obj.cells #[Value.int IntKind.i64 c.op, Value.int IntKind.i64 c.n, Value.slice A c.kids.length cap] 24)) (wrow 0 0)
  rw [hs1] at hn hs2
  have hv := pval_any (c.dep + 1) c (by omega) (.slice A c.kids.length cap) (w.heap.size + 1) w.heap.size 0 0 1 _ (by omega) (by rw [hs2]; omega) hz hn (hk.below ha) (hT.on ha) (by omega) (by omega) (by omega)
  have HV := Lib.hid hv
  have HA := Lib.hid ha
  have HC : Hid (chkC 1 3 c = if c.ok then (if 16 < c.cnt ∨ 8 < c.dep then 3 else 0) else 1) := rfl
  have hkd := dep_kids c
  obtain ⟨X, hX⟩ : ∃ X, X = c.ok := ⟨_, rfl⟩
  have HX := Lib.hid hX
  have HS2 := Lib.hid hs2
  rw [← hX] at HC
  clear hv ha hn hs1 hs2 h3 hk hX
  go_enter Tryd.func17, Tryd.ntmps17
  go_wp2_with fail
  refine HV.out.mono ?_
  rintro r w3 ⟨rfl, hk3, hr3⟩
  have hb3 := HA.out.trans (hk3.below (B := w.heap.size) (by omega) (by rw [HS2.out]; omega))
  rw [← HX.out] at hr3 ⊢
  cases X with
  | false =>
    clear hr3
    go_wp2_with fail
    go_ret
    exact ⟨ret_int HC.out.symm, hb3⟩
  | true =>
    have hr4 := hr3 rfl
    have g0 := cell_of_row _ _ 0 _ _ _ hr4
    have g1 := cell_of_row _ _ 1 _ _ _ hr4
    clear hr3 hr4
    go_wp2_with fail
    all_goals
      go_ret
      refine ⟨ret_int ?_, hb3⟩
      rw [HC.out, if_pos trivial]
      first
        | rw [if_neg (by omega)]
        | rw [if_pos (by omega)]
end Go.Proofs.YtjkbfogjfgnhiaaDoor
