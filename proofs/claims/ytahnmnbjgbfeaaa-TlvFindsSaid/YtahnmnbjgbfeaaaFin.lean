/-
  copied in general.
  IndexFunc with the closure of Find.
  Find of the program.
  Find of the reference.
  The walk of the law TlvFinds; lists of numbers that came in.
-/
import Derived.Test.YtahnmnbjgbfeaaaDme
import Derived.Test.YtahnmnbjgbfeaaaTcr
import Derived.Test.YtahnmnbjgbfeaaaOpt
namespace Go.Proofs.Ytahnmnbjgbfeaaa
set_option linter.unusedVariables false
set_option linter.unusedSimpArgs false
open Go.RowKit

theorem KI.tlS {w : World} {base : Nat} {v : Value} {ts : List T} (h : KI w (From w base) v ts) : TL w w.heap.size v ts := h.tl fun _ hb => hb.2


/-- What copied gives. -/
def CpP (w : World) (t : T) (e : Ending) (w' : World) : Prop := ∃ A1 c1 A2 c2, e = .returned (.tuple #[.agg #[.int .i64 t.tag, .slice A1 t.val.length c1, .slice A2 t.kids.length c2], .bool true]) ∧
  VI w' (From w' w.heap.size) (.slice A1 t.val.length c1) t.val ∧ KI w' (From w' w.heap.size) (.slice A2 t.kids.length c2) t.kids ∧ Below w.heap.size w w'
def CpC (t : T) : Prop := ∀ (v k : Value) (d : Nat) (w : World), SL w w.heap.size v t.val → TL w w.heap.size k t.kids → d + t.dep ≤ 60000 →
  Calls Try.prog 79 #[.agg #[.int .i64 t.tag, v, k], .int .i64 d] w fun e w' => CpP w t e w'

theorem set_grown (w : World) (b i : Nat) (u : Value) : w.grownBy (w.setCell ⟨b, i, none⟩ u) (some b) :=
  ⟨rfl, rfl, rfl, ((Below.refl 0 w).setCell (p := ⟨b, i, none⟩) (Nat.zero_le _) u).size, fun k _ h => heap_setCell_other _ _ _ _ (fun e => h (by rw [e]))⟩
theorem OD.setLow {w : World} {base b i : Nat} {v : Value} {ts : List T} (h : OD w base v ts) (hb : b < base) (u : Value) : OD (w.setCell ⟨b, i, none⟩ u) base v ts := by
  have hl := h.ltB
  obtain ⟨cs, h1, h2⟩ := h
  refine ⟨cs, ?_, h2.keep fun c hS => ⟨⟨hS.1, Nat.lt_of_lt_of_le hS.2.1 ((Below.refl 0 w).setCell (p := ⟨b, i, none⟩) (Nat.zero_le _) u).size, hS.2.2⟩, fun o => far_set _ _ (by show c ≠ b; have := hS.1; omega)⟩⟩
  exact h1.kept (row := some b) (set_grown w b i u) (by
    cases hv : v.ownBlock with
    | none => exact .inl rfl
    | some k => exact .inr (by intro e; have := (hl k hv).1; have := Option.some.inj e; omega))
theorem cell_heap {w w' : World} {b : Nat} (h : w.heap[b]? = w'.heap[b]?) (o : Nat) : w.cell? ⟨b, o, none⟩ = w'.cell? ⟨b, o, none⟩ := by
  simp only [World.cell?, h]
theorem row3_last (w : World) (g : Nat) (ty : TypeId) (a b c z : Value) (hg : w.heap[g]? = some (.cells #[a, b, c] ty (0, 0))) :
    (w.setCell ⟨g, 2, none⟩ z).heap[g]? = some (.cells #[a, b, z] ty (0, 0)) := by
  have h3 := heap_setCell_same w g 2 _ ty z hg
  rw [h3]
  simp
theorem wtL_get : ∀ (ts : List T) (k : Nat) (h : k < ts.length), (ts[k]).wt ≤ wtL ts
  | t :: ts, 0, _ => by rw [wtL]; simp
  | t :: ts, k + 1, h => by
    have := wtL_get ts k (by simpa using h)
    rw [wtL]
    simp only [List.getElem_cons_succ]
    omega
theorem wtL_len : ∀ ts : List T, ts.length ≤ wtL ts
  | [] => by rw [wtL]; exact Nat.le_refl _
  | t :: ts => by
    have h1 := wtL_len ts
    have h2 := wt_parts t
    rw [wtL, List.length_cons]
    omega
set_option maxRecDepth 100000 in
set_option maxHeartbeats 6400000 in
theorem cp_step (t : T) (ih : ∀ u : T, u.dep < t.dep → u.wt ≤ 100000 → CpC u) (hs : t.wt ≤ 100000) : CpC t := by
  intro v k d w hv hk hd
  obtain ⟨A1, c1, rfl, hv1, hv2, hv3⟩ := id hv
  obtain ⟨A2, c2, rfl, hk1, hk2, hk3⟩ := id hk
  unfold maxLen at hv2 hk2
  have HV := Lib.hid hv
  have HK := Lib.hid hk
  have IH := Lib.hid ih
  have HD := Lib.hid hd
  have HS := Lib.hid hs
  have hd1 : ¬ (65536 : Int) < (d : Int) := by omega
  clear ih hv hk hv3 hk3 hd hs
  go_enter Try.func79, Try.ntmps79
  go_wp2_with fail
  obtain ⟨w1, hw1⟩ : ∃ w1, w1 = (w.alloc (Obj.cells #[Value.int IntKind.i64 t.tag, Value.slice A1 t.val.length c1, Value.slice A2 t.kids.length c2] 58)).alloc (Obj.cells #[Value.int IntKind.i64 0, Value.slice none 0 0, Value.slice none 0 0] 58) := ⟨_, rfl⟩
  rw [← hw1]
  have hb1 : Below w.heap.size w w1 := by rw [hw1]; exact alloc2_below w _ _
  have hz1 : w1.heap.size = w.heap.size + 2 := by rw [hw1, alloc_size, alloc_size]
  have hr0 : w1.heap[w.heap.size]? = some (.cells #[.int .i64 t.tag, .slice A1 t.val.length c1, .slice A2 t.kids.length c2] 58 (0, 0)) := by rw [hw1]; exact heap_alloc2_old w _ _
  have hr1 : w1.heap[w.heap.size + 1]? = some (.cells #[.int .i64 0, .slice none 0 0, .slice none 0 0] 58 (0, 0)) := by rw [hw1]; exact heap2_new w _ _
  have x0 := cell_of_row _ _ 0 _ _ _ hr0
  have x1 := cell_of_row _ _ 1 _ _ _ hr0
  have HR0 := Lib.hid hr0
  have HR1 := Lib.hid hr1
  have HZ1 := Lib.hid hz1
  have HB1 := Lib.hid hb1
  have HCL : Hid (∀ W, Below w1.heap.size w1 W → Calls Try.prog 66 #[.slice A1 t.val.length c1] W fun e w' => ∃ A c, e = .returned (.slice A t.val.length c) ∧ VI w' (From w' W.heap.size) (.slice A t.val.length c) t.val ∧ Below W.heap.size W w') := fun W hW => by
    have hs : SL W W.heap.size (.slice A1 t.val.length c1) t.val := ((HV.out.on hb1).on hW)
    refine (clone_own t.val _ W hs (by have := HS.out; have := wt_parts t; omega)).mono ?_
    rintro e w' ⟨v', rfl, hv', hb'⟩
    obtain ⟨A, c, rfl⟩ := hv'.value
    exact ⟨A, c, rfl, VI.of_fs hv'.fs, hb'⟩
  have hlt0 : w.heap.size < w1.heap.size := by omega
  clear hw1 hr0 hr1 hz1 hb1
  have ha1 := alloc_below w1 (Obj.cells #[Value.int IntKind.i64 0, Value.slice none 0 0, Value.slice none 0 0] 58)
  have hza : (w1.alloc (Obj.cells #[Value.int IntKind.i64 0, Value.slice none 0 0, Value.slice none 0 0] 58)).heap.size = w1.heap.size + 1 := alloc_size _ _
  have xa0 := (ha1.cell (p := ⟨w.heap.size, 0, none⟩) hlt0).trans x0
  have xa1 := (ha1.cell (p := ⟨w.heap.size, 1, none⟩) hlt0).trans x1
  have HA1 := Lib.hid ha1
  have HZA := Lib.hid hza
  clear ha1 hza
  go_region_held3 (fun w' => w'.cell? ⟨w.heap.size, 0, none⟩ = some (.int .i64 t.tag) ∧ w'.cell? ⟨w.heap.size, 1, none⟩ = some (.slice A1 t.val.length c1))
    (first
      | with_reducible exact ⟨x0, x1⟩
      | with_reducible exact ⟨xa0, xa1⟩
      | with_reducible exact ⟨q0, q1⟩
      | (go_keep; done)
      | (refine ⟨?_, ?_⟩ <;> (rw [far_set _ _ (show w.heap.size ≠ w1.heap.size by omega), far_set _ _ (show w.heap.size ≠ w1.heap.size by omega), far_set _ _ (show w.heap.size ≠ w1.heap.size by omega)]; assumption)))
    (first
      | (go_at_call 66; (with_reducible refine (HCL.out w1.drew (Below.refl _ _).drew).mono ?_); rintro e w3 ⟨A3, c3, rfl, hv3, hb3⟩; have q0 : w3.cell? ⟨w.heap.size, 0, none⟩ = some (.int .i64 t.tag) := (hb3.cell (p := ⟨w.heap.size, 0, none⟩) hlt0).trans x0; have q1 : w3.cell? ⟨w.heap.size, 1, none⟩ = some (.slice A1 t.val.length c1) := (hb3.cell (p := ⟨w.heap.size, 1, none⟩) hlt0).trans x1; have hlt3 : w.heap.size < w3.heap.size := Nat.lt_of_lt_of_le hlt0 hb3.size; have HV3 := Lib.hid hv3; have HB3 := Lib.hid hb3; clear hv3 hb3)
      | (go_at_call 66; refine (HCL.out (w1.alloc (Obj.cells #[Value.int IntKind.i64 0, Value.slice none 0 0, Value.slice none 0 0] 58)).drew HA1.out.drew).mono ?_; rintro e w3 ⟨A3, c3, rfl, hv3, hb3⟩; have hlta : w.heap.size < (w1.alloc (Obj.cells #[Value.int IntKind.i64 0, Value.slice none 0 0, Value.slice none 0 0] 58)).drew.heap.size := Nat.lt_of_lt_of_le hlt0 HA1.out.size; have q0 : w3.cell? ⟨w.heap.size, 0, none⟩ = some (.int .i64 t.tag) := (hb3.cell (p := ⟨w.heap.size, 0, none⟩) hlta).trans xa0; have q1 : w3.cell? ⟨w.heap.size, 1, none⟩ = some (.slice A1 t.val.length c1) := (hb3.cell (p := ⟨w.heap.size, 1, none⟩) hlta).trans xa1; have hlt3 : w.heap.size < w3.heap.size := Nat.lt_of_lt_of_le hlta hb3.size; have hrc : w3.heap[w1.heap.size]? = some (.cells #[.int .i64 0, .slice none 0 0, .slice none 0 0] 58 (0, 0)) := (hb3.block _ (by show w1.heap.size < (w1.alloc _).heap.size; rw [alloc_size]; exact Nat.lt_succ_self _)).trans (heap_alloc_new w1 _); have n0 := cell_of_row _ _ 0 _ _ _ hrc; have n1 := cell_of_row _ _ 1 _ _ _ hrc; have n2 := cell_of_row _ _ 2 _ _ _ hrc; have m0 := frozen_of_row _ _ 0 _ _ hrc; have m1 := frozen_of_row _ _ 1 _ _ hrc; have m2 := frozen_of_row _ _ 2 _ _ hrc; have HRC := Lib.hid hrc; have HV3 := Lib.hid hv3; have HB3 := Lib.hid hb3; clear hrc hv3 hb3))
  all_goals first
    | (obtain ⟨cb, hcb⟩ : ∃ x, x = w3.heap.size := ⟨_, rfl⟩
       obtain ⟨w5, hw5⟩ : ∃ x, x = w3.alloc (Obj.cells #[Value.int IntKind.i64 t.tag, Value.slice A3 t.val.length c3, Value.slice none 0 0] 58) := ⟨_, rfl⟩
       rw [← hw5, ← hcb]
       have hz5 : w5.heap.size = w3.heap.size + 1 := by rw [hw5]; exact alloc_size _ _
       have hs3 : w1.heap.size ≤ w3.heap.size := HB3.out.size
       have e0 : w.heap.size < w3.heap.size := by have := HZ1.out; omega
       have e1 : w.heap.size + 1 < w3.heap.size := by have := HZ1.out; omega
       have a5 := alloc_below w3 (Obj.cells #[Value.int IntKind.i64 t.tag, Value.slice A3 t.val.length c3, Value.slice none 0 0] 58)
       rw [← hw5] at a5
       have F0 : Hid (w.heap.size + 2 ≤ cb ∧ cb < w5.heap.size) := ⟨by have := HZ1.out; omega, by omega⟩
       have F1 : Hid (w5.heap[cb]? = some (.cells #[.int .i64 t.tag, .slice A3 t.val.length c3, .slice none 0 0] 58 (0, 0))) := by show _ = _; rw [hw5, hcb]; exact heap_alloc_new w3 _
       have F2 : Hid (w5.heap[w.heap.size]? = some (.cells #[.int .i64 t.tag, .slice A1 t.val.length c1, .slice A2 t.kids.length c2] 58 (0, 0))) := (a5.block _ e0).trans ((HB3.out.block _ hlt0).trans HR0.out)
       have F3 : Hid (w5.heap[w.heap.size + 1]? = some (.cells #[.int .i64 0, .slice none 0 0, .slice none 0 0] 58 (0, 0))) := (a5.block _ e1).trans ((HB3.out.block _ (show w.heap.size + 1 < w1.heap.size by have := HZ1.out; omega)).trans HR1.out)
       have F5 : Hid (Below w.heap.size w w5) := (HB1.out.drew.trans (HB3.out.mono (show w.heap.size ≤ w1.heap.size by omega))).trans (a5.mono (Nat.le_of_lt e0))
       have F4 : Hid (VI w5 (fun b => w.heap.size + 2 ≤ b ∧ b < w5.heap.size ∧ b ≠ cb) (.slice A3 t.val.length c3) t.val) := HV3.out.keep fun b hb => ⟨⟨by have h : w1.heap.size ≤ b := hb.1; have := HZ1.out; omega, by have := hb.2; omega, by have := hb.2; omega⟩, fun o => a5.cell (p := ⟨b, o, none⟩) hb.2⟩
       clear hcb hw5 hz5 a5)
    | (obtain ⟨cb, hcb⟩ : ∃ x, x = w1.heap.size := ⟨_, rfl⟩
       obtain ⟨w5, hw5⟩ : ∃ x, x = ((w3.setCell ⟨w1.heap.size, 0, none⟩ (.int .i64 t.tag)).setCell ⟨w1.heap.size, 1, none⟩ (.slice A3 t.val.length c3)).setCell ⟨w1.heap.size, 2, none⟩ (.slice none 0 0) := ⟨_, rfl⟩
       rw [← hw5, ← hcb]
       have z5 : Below 0 w3 w5 := by rw [hw5]; exact set3_below (Below.refl _ _) _ (Nat.zero_le _) _ _ _
       have hs5 := z5.size
       have hza : cb + 1 ≤ w3.heap.size := by have := HB3.out.size; have h : (w1.alloc (Obj.cells #[Value.int IntKind.i64 0, Value.slice none 0 0, Value.slice none 0 0] 58)).heap.size ≤ w3.heap.size := this; have := HZA.out; omega
       have e2 : w.heap.size + 2 = cb := by have := HZ1.out; omega
       have F0 : Hid (w.heap.size + 2 ≤ cb ∧ cb < w5.heap.size) := ⟨by omega, by omega⟩
       have F1 : Hid (w5.heap[cb]? = some (.cells #[.int .i64 t.tag, .slice A3 t.val.length c3, .slice none 0 0] 58 (0, 0))) := by show _ = _; rw [hw5, hcb]; exact row3_set _ _ _ _ _ _ _ _ _ HRC.out
       have hbl : ∀ k, k < cb → w3.heap[k]? = w1.heap[k]? := fun k hk => (HB3.out.block k (by show k < (w1.alloc _).heap.size; rw [HZA.out]; omega)).trans (HA1.out.block k (by omega))
       have F2 : Hid (w5.heap[w.heap.size]? = some (.cells #[.int .i64 t.tag, .slice A1 t.val.length c1, .slice A2 t.kids.length c2] 58 (0, 0))) := by show _ = _; rw [hw5, set3_other _ _ _ _ _ _ (by omega), hbl _ (by omega)]; exact HR0.out
       have F3 : Hid (w5.heap[w.heap.size + 1]? = some (.cells #[.int .i64 0, .slice none 0 0, .slice none 0 0] 58 (0, 0))) := by show _ = _; rw [hw5, set3_other _ _ _ _ _ _ (by omega), hbl _ (by omega)]; exact HR1.out
       have F5 : Hid (Below w.heap.size w w5) := by
         show Below _ _ _
         rw [hw5]
         refine set3_below (((HB1.out.trans (HA1.out.mono (by omega))).drew).trans (HB3.out.mono ?_)) _ (by omega) _ _ _
         show w.heap.size ≤ (w1.alloc _).heap.size
         rw [HZA.out]; omega
       have F4 : Hid (VI w5 (fun b => w.heap.size + 2 ≤ b ∧ b < w5.heap.size ∧ b ≠ cb) (.slice A3 t.val.length c3) t.val) := HV3.out.keep fun b hb => by
         have h1 : (w1.alloc (Obj.cells #[Value.int IntKind.i64 0, Value.slice none 0 0, Value.slice none 0 0] 58)).heap.size ≤ b := hb.1
         have h2 := hb.2
         rw [HZA.out] at h1
         refine ⟨⟨by omega, by omega, by omega⟩, fun o => ?_⟩
         rw [hw5]; exact set3_cell _ _ _ _ _ _ (by omega) _
       clear hcb hw5 z5 n0 n1 n2 m0 m1 m2)
  all_goals
    have g2 : w5.cell? ⟨w.heap.size, 2, none⟩ = some (.slice A2 t.kids.length c2) := cell_of_row _ _ 2 _ _ _ F2.out
    go_wp2_with fail
    go_loopw [23] (fun i wr => ∃ (k : Nat) (Ak : Option Addr) (ck : Nat), k ≤ t.kids.length ∧ i = .int .i64 k ∧ Below w.heap.size w wr ∧ w5.heap.size ≤ wr.heap.size ∧ Hid (∀ j, j < w5.heap.size → j ≠ cb → wr.heap[j]? = w5.heap[j]?) ∧
      Hid (wr.heap[cb]? = some (.cells #[.int .i64 t.tag, .slice A3 t.val.length c3, .slice Ak k ck] 58 (0, 0))) ∧ Hid (OD wr w5.heap.size (.slice Ak k ck) (t.kids.take k))) (fun i _ => t.kids.length - (intOf i).toNat)
    case atStart => exact ⟨0, none, 0, Nat.zero_le _, rfl, F5.out, Nat.le_refl _, fun j _ _ => rfl, F1.out, OD.nil _ _⟩
    case round =>
      obtain ⟨k, Ak, ck, hk, rfl, hbel, hs5, hkp, hrc, hod⟩ := hrel
      by_cases hkl : k < t.kids.length
      · obtain ⟨A', c', e', _, _, h3⟩ := HK.out
        obtain ⟨e1, _, e3⟩ := Value.slice.inj e'
        subst e1 e3
        obtain ⟨b, o, rfl, hb, hts⟩ := h3.out (by omega)
        have hta := TsAt.get hts hkl
        have hdp := depL_get t.kids k hkl
        have hwt := wtL_get t.kids k hkl
        obtain ⟨u, hu⟩ : ∃ u, u = t.kids[k] := ⟨_, rfl⟩
        rw [← hu] at hta hdp hwt
        have hsz := hbel.size
        have hta' := TAt.keep (Nat.le_refl _) (fun p hp => hbel.cell hp) u b _ hb hta
        obtain ⟨B1, d1, B2, d2, g0, g1, g2', hv1, hu1⟩ := hta'.cells
        have HCP : Hid (∀ W, Below wr.heap.size wr W → Calls Try.prog 79 #[.agg #[.int .i64 u.tag, .slice B1 u.val.length d1, .slice B2 u.kids.length d2], .int .i64 ((d : Int) + 1)] W fun e w' => CpP W u e w') := fun W hW => by
          have hd := HD.out
          have hw := HS.out
          have e1 := dep_kids t
          have e2 := wt_parts t
          have := IH.out u (by omega) (by omega) (.slice B1 u.val.length d1) (.slice B2 u.kids.length d2) (d + 1) W ((hv1.more hsz).on hW) ((hu1.more hsz).on hW) (by omega)
          rwa [show ((d + 1 : Nat) : Int) = (d : Int) + 1 by omega] at this
        have HU := Lib.hid hu
        clear e' h3 hts hta hdp hwt hu hta' hv1 hu1
        have hcb := F0.out
        have hcr : cb < wr.heap.size := by omega
        have HB8 : Hid (w5.heap.size ≤ wr.heap.size) := hs5
        have hodl := hod.out.ltB
        have HODL := Lib.hid hodl
        have hkt : (t.kids.take k).length = k := by rw [List.length_take]; omega
        have HOD : Hid (OD wr w5.heap.size (.slice Ak k ck) (t.kids.take k)) := hod
        have HKT := Lib.hid hkt
        clear hodl hkt hod
        go_wp2_with (first
          | (go_at_call 79; refine (HCP.out _ (alloc_below wr _)).mono ?_; rintro e w6 ⟨A6, c6, A7, c7, rfl, hv6, hk6, hb6⟩; have ha6 := alloc_below wr (Obj.cells #[Value.int IntKind.i64 u.tag, Value.slice B1 u.val.length d1, Value.slice B2 u.kids.length d2] 58); have hb6' : Below wr.heap.size wr w6 := ha6.trans (hb6.mono ha6.size); have hr6 := (hb6'.block cb hcr).trans hrc.out; have p0 := cell_of_row _ _ 0 _ _ _ hr6; have p1 := cell_of_row _ _ 1 _ _ _ hr6; have p2 := cell_of_row _ _ 2 _ _ _ hr6; have hcb6 : cb < w6.heap.size := Nat.lt_of_lt_of_le hcr hb6'.size; have HV6 := Lib.hid hv6; have HK6 := Lib.hid hk6; have HB6 := Lib.hid hb6'; have HA6 := Lib.hid ha6.size; clear hv6 hk6 hb6 hb6' hr6 ha6)
          | (at_builtin; have hW : Below wr.heap.size wr ((w6.alloc (Obj.cells #[Value.int IntKind.i64 u.tag, Value.slice A6 u.val.length c6, Value.slice A7 u.kids.length c7] 58)).alloc (Obj.cells #[Value.int IntKind.i64 u.tag, Value.slice A6 u.val.length c6, Value.slice A7 u.kids.length c7] 58)) := HB6.out.trans ((alloc2_below w6 _ _).mono HB6.out.size); refine wpList_appD rfl (.tmp 38) (.tmp 40) rfl w5.heap.size _ (t.kids.take k) u (.slice A6 u.val.length c6) (.slice A7 u.kids.length c7) (w6.heap.size + 1) (wr.alloc (Obj.cells #[Value.int IntKind.i64 u.tag, Value.slice B1 u.val.length d1, Value.slice B2 u.kids.length d2] 58)).heap.size rfl rfl (HOD.out.later hW) (HV6.out.on (alloc2_below w6 _ _)) (HK6.out.on (alloc2_below w6 _ _)) (fun b hb => Nat.lt_of_lt_of_le (HODL.out b hb).2 HA6.out) (Nat.le_trans hs5 HA6.out) (heap2_new w6 _ _) (by have := HS.out; have := wt_parts t; have := wtL_len t.kids; have := HKT.out; omega) (Nat.le_trans hs5 hW.size) ?_; intro v8 w8 hod8 hb8; obtain ⟨A8, c8, rfl⟩ := hod8.value; have hr8 := (hb8.block cb hcb.2).trans ((hW.block cb hcr).trans hrc.out); have z0 := cell_of_row _ _ 0 _ _ _ hr8; have z1 := cell_of_row _ _ 1 _ _ _ hr8; have z2 := cell_of_row _ _ 2 _ _ _ hr8; have y2 := frozen_of_row _ _ 2 _ _ hr8; rw [List.length_append, HKT.out] at *; have HOD8 := Lib.hid hod8; have HBB8 := Lib.hid hb8; have HBW := Lib.hid hW; have HR8 := Lib.hid hr8; clear hod8 hb8 hW hr8))
        have hset := ((Below.refl 0 w8).setCell (p := ⟨cb, 2, none⟩) (Nat.zero_le _) (.slice A8 (k + 1) c8)).size
        have h5w : w.heap.size ≤ w5.heap.size := by omega
        have hbw : Below w.heap.size w (w8.setCell ⟨cb, 2, none⟩ (.slice A8 (k + 1) c8)) := ((hbel.trans (HBW.out.mono hsz)).trans (HBB8.out.mono h5w)).setCell (p := ⟨cb, 2, none⟩) (by show w.heap.size ≤ cb; omega) _
        have hs8 : w5.heap.size ≤ (w8.setCell ⟨cb, 2, none⟩ (.slice A8 (k + 1) c8)).heap.size := Nat.le_trans hs5 (Nat.le_trans HBW.out.size (Nat.le_trans HBB8.out.size hset))
        have htk : t.kids.take (k + 1) = t.kids.take k ++ [u] := by rw [HU.out, List.take_succ_eq_append_getElem hkl]
        have HOD9 : Hid (OD (w8.setCell ⟨cb, 2, none⟩ (.slice A8 (k + 1) c8)) w5.heap.size (.slice A8 (k + 1) c8) (t.kids.take (k + 1))) := by
          show OD _ _ _ _
          rw [htk]
          exact HOD8.out.setLow hcb.2 _
        go_roundw
        case rel => exact ⟨k + 1, A8, c8, by omega, by go_num, hbw, hs8, fun j hj hjc => by
          rw [heap_setCell_other _ _ _ _ (by exact hjc), HBB8.out.block j hj, HBW.out.block j (by omega)]
          exact hkp.out j hj hjc, row3_last _ _ _ _ _ _ _ HR8.out, HOD9⟩
        case measure => simp [intOf]; omega
      · have hke : k = t.kids.length := by omega
        subst hke
        have HOD : Hid (OD wr w5.heap.size (.slice Ak t.kids.length ck) t.kids) := by
          show OD _ _ _ _
          have := hod.out
          rwa [List.take_length] at this
        have hcb := F0.out
        have q0 := cell_of_row _ _ 0 _ _ _ hrc.out
        have q1 := cell_of_row _ _ 1 _ _ _ hrc.out
        have q2 := cell_of_row _ _ 2 _ _ _ hrc.out
        have hr9 : wr.heap[w.heap.size + 1]? = some (.cells #[.int .i64 0, .slice none 0 0, .slice none 0 0] 58 (0, 0)) := (hkp.out _ (by omega) (by omega)).trans F3.out
        have z0 := cell_of_row _ _ 0 _ _ _ hr9
        have z1 := cell_of_row _ _ 1 _ _ _ hr9
        have z2 := cell_of_row _ _ 2 _ _ _ hr9
        have y0 := frozen_of_row _ _ 0 _ _ hr9
        have y1 := frozen_of_row _ _ 1 _ _ hr9
        have y2 := frozen_of_row _ _ 2 _ _ hr9
        have HR9 := Lib.hid hr9
        clear hr9 hod
        go_wp2_with fail
        refine bodyPost_ret (results_cellA rfl _ _ (w.heap.size + 1) 58 #[.int .i64 t.tag, .slice A3 t.val.length c3, .slice Ak t.kids.length ck] (0, 0) _ rfl (row3_set _ _ _ _ _ _ _ _ _ HR9.out) Try.underlying58 rfl (by kernel_rfl)) rfl
          ⟨_, _, _, _, rfl, F4.out.keep fun b hb => ⟨⟨by omega, ?_⟩, fun o => ?_⟩, HOD.out.ki.keep fun b hb => ⟨⟨by have := hb.1; omega, ?_⟩, fun o => ?_⟩, set3_below hbel _ (Nat.le_succ _) _ _ _⟩
        · exact Nat.lt_of_lt_of_le hb.2.1 (Nat.le_trans hs5 (set3_below (Below.refl 0 wr) _ (Nat.zero_le _) _ _ _).size)
        · rw [set3_cell _ _ _ _ _ _ (by omega)]
          exact cell_heap (hkp.out b hb.2.1 hb.2.2) o
        · exact Nat.lt_of_lt_of_le hb.2 (set3_below (Below.refl 0 wr) _ (Nat.zero_le _) _ _ _).size
        · exact set3_cell _ _ _ _ _ _ (by have := hb.1; omega) _
theorem cp_any : ∀ (n : Nat) (t : T), t.dep < n → t.wt ≤ 100000 → CpC t
  | 0, _, h, _ => absurd h (by omega)
  | n + 1, t, h, hw => cp_step t (fun u hu hwu => cp_any n u (by omega) hwu) hw



set_option maxRecDepth 100000 in
set_option maxHeartbeats 3200000 in
theorem pcl_any (t : Int) (v k : Value) (p : Int) (tb : Nat) (w : World) (ht : w.cell? ⟨tb, 0, none⟩ = some (.int .i64 p)) :
    Calls Try.prog 78 #[.agg #[.int .i64 t, v, k], .pointer (some ⟨tb, 0, none⟩)] w fun e w' => e = .returned (.bool (decide (t = p))) ∧ Below w.heap.size w w' := by
  have hlt := World.block_lt_of_cell? w _ ht
  by_cases h : t = p
  · subst h
    rw [decide_eq_true rfl]
    go_enter Try.func78, Try.ntmps78
    go_wp2_with fail
    go_ret
    exact ⟨rfl, alloc_below _ _⟩
  · rw [decide_eq_false h]
    have hb : (t == p) = false := by simpa using h
    go_enter Try.func78, Try.ntmps78
    go_wp2_with fail
    go_ret
    exact ⟨rfl, alloc_below _ _⟩
/-- Where the first object with the tag p stands. -/
def IxP (p : Int) (ts : List T) (r : Int) : Prop := (∃ (k : Nat) (h : k < ts.length), r = (k : Int) ∧ (ts[k]).tag = p ∧ ∀ (j : Nat) (hj : j < k), (ts[j]'(by omega)).tag ≠ p) ∨ (r = -1 ∧ ∀ (j : Nat) (hj : j < ts.length), (ts[j]).tag ≠ p)
set_option maxRecDepth 100000 in
set_option maxHeartbeats 3200000 in
theorem pix_any (ts : List T) (v : Value) (p : Int) (tb : Nat) (w : World) (hv : TL w w.heap.size v ts) (ht : w.cell? ⟨tb, 0, none⟩ = some (.int .i64 p)) :
    Calls Try.prog 77 #[v, .func (Fn.func 78) #[] #[.pointer (some ⟨tb, 0, none⟩)]] w fun e w' => ∃ r, e = .returned (.int .i64 r) ∧ IxP p ts r ∧ Below w.heap.size w w' := by
  have hlt := World.block_lt_of_cell? w _ ht
  have HV := Lib.hid hv
  have HT := Lib.hid ht
  obtain ⟨A, c, rfl, h1, h2, h3⟩ := hv
  unfold maxLen at h2
  clear ht
  go_enter Try.func77, Try.ntmps77
  go_wp2_with fail
  go_loopw [8] (fun i wr => ∃ k : Nat, k ≤ ts.length ∧ i = .int .i64 k ∧ Below w.heap.size w wr ∧ Hid (∀ (j : Nat) (hj : j < ts.length), j < k → (ts[j]).tag ≠ p)) (fun i _ => ts.length - (intOf i).toNat)
  case atStart => exact ⟨0, Nat.zero_le _, rfl, Below.refl _ _, fun j _ h => absurd h (by omega)⟩
  case round =>
    obtain ⟨k, hk, rfl, hbel, hno⟩ := hrel
    by_cases hkl : k < ts.length
    · obtain ⟨b, o, rfl, hb, hts⟩ := h3.out (by omega)
      have hta := TsAt.get hts hkl
      obtain ⟨t, htt⟩ : ∃ t, t = ts[k] := ⟨_, rfl⟩
      rw [← htt] at hta
      have hta' := TAt.keep hbel.size (fun p hp => hbel.cell hp) t b _ hb hta
      obtain ⟨A1, c1, A2, c2, g1, g2, g3, hv1, hu1⟩ := hta'.cells
      have hsz := hbel.size
      have HTT := Lib.hid htt
      have HCL := Lib.hid (pcl_any t.tag (.slice A1 t.val.length c1) (.slice A2 t.kids.length c2) p tb wr ((hbel.cell (p := ⟨tb, 0, none⟩) hlt).trans HT.out))
      clear hts hta hta' htt hv1 hu1
      by_cases he : t.tag = p
      · rw [decide_eq_true he] at HCL
        have HE := Lib.hid he
        clear he
        go_wp2_with (go_at_call 78; refine HCL.out.mono ?_; rintro e w2 ⟨rfl, hb2⟩)
        go_ret
        exact ⟨_, rfl, .inl ⟨k, hkl, rfl, by rw [← HTT.out]; exact HE.out, fun j hj => hno.out j (by omega) hj⟩, hbel.trans (hb2.mono hsz)⟩
      · rw [decide_eq_false he] at HCL
        have HE := Lib.hid he
        clear he
        go_wp2_with (go_at_call 78; refine HCL.out.mono ?_; rintro e w2 ⟨rfl, hb2⟩)
        go_roundw
        case rel => exact ⟨k + 1, by omega, by go_num, hbel.trans (hb2.mono hsz), fun j hj hjk => by
          rcases Nat.lt_or_ge j k with h | h
          · exact hno.out j hj h
          · obtain rfl : j = k := by omega
            rw [← HTT.out]; exact HE.out⟩
        case measure => simp [intOf]; omega
    · have hke : k = ts.length := by omega
      subst hke
      go_wp2_with fail
      go_ret
      exact ⟨_, rfl, .inr ⟨rfl, fun j hj => hno.out j hj hj⟩, hbel⟩



def fnd : T → List T → List Int → Option T
  | x, _, [] => some x
  | _, l, p :: ps => match l.find? (fun t => decide (t.tag = p)) with
    | none => none
    | some t => fnd t t.kids ps
theorem fnd_hit (x : T) (l : List T) (p : Int) (ps : List Int) (k : Nat) (h : k < l.length) (h1 : (l[k]).tag = p) (h2 : ∀ (j : Nat) (hj : j < k), (l[j]'(by omega)).tag ≠ p) : fnd x l (p :: ps) = fnd l[k] (l[k]).kids ps := by
  have : l.find? (fun t => decide (t.tag = p)) = some l[k] := by
    rw [List.find?_eq_some_iff_getElem]
    refine ⟨decide_eq_true h1, k, h, rfl, fun j hj => ?_⟩
    rw [decide_eq_false (h2 j hj)]; rfl
  rw [fnd, this]
theorem fnd_miss (x : T) (l : List T) (p : Int) (ps : List Int) (h2 : ∀ (j : Nat) (hj : j < l.length), (l[j]).tag ≠ p) : fnd x l (p :: ps) = none := by
  have : l.find? (fun t => decide (t.tag = p)) = none := by
    rw [List.find?_eq_none]
    intro t ht
    obtain ⟨j, hj, rfl⟩ := List.getElem_of_mem ht
    simpa using h2 j hj
  rw [fnd, this]
/-- v is a slice that reads as the numbers l. -/
def IL (w : World) (B : Nat) (v : Value) (l : List Int) : Prop := ∃ A c, v = .slice A l.length c ∧ l.length ≤ c ∧ c ≤ maxLen ∧ Hid (0 < l.length → ∃ b o, A = some ⟨b, o, none⟩ ∧ b < B ∧ ∀ k, k < l.length → w.cell? ⟨b, o + k, none⟩ = some (.int .i64 (l.getD k 0)))
/-- The object that Find gives. -/
def findO (l : List T) (ps : List Int) : Option T := if ps.length = 0 then none else fnd T.zero l ps
/-- What Find gives. -/
def FnP (w : World) (r : Option T) (e : Ending) (w' : World) : Prop := Below w.heap.size w w' ∧ ∃ u A1 c1 A2 c2, (r = some u ∨ (r = none ∧ u = T.zero)) ∧ e = .returned (.tuple #[.agg #[.int .i64 u.tag, .slice A1 u.val.length c1, .slice A2 u.kids.length c2], .bool r.isSome]) ∧
  SL w' w'.heap.size (.slice A1 u.val.length c1) u.val ∧ TL w' w'.heap.size (.slice A2 u.kids.length c2) u.kids

set_option maxRecDepth 100000 in
set_option maxHeartbeats 6400000 in
theorem pfind_any (ts : List T) (ps : List Int) (v pv : Value) (w : World) (hv : TL w w.heap.size v ts) (hp : IL w w.heap.size pv ps) (hd : depL ts ≤ 50000) (hw : wtL ts ≤ 90000) :
    Calls Try.prog 56 #[v, pv] w fun e w' => FnP w (findO ts ps) e w' := by
  have HV := Lib.hid hv
  have HP := Lib.hid hp
  obtain ⟨A, c, rfl, h1, h2, h3⟩ := hv
  obtain ⟨B, d, rfl, k1, k2, k3⟩ := hp
  unfold maxLen at h2 k2
  by_cases h0 : ps.length = 0
  · have hf : findO ts ps = none := by unfold findO; rw [if_pos h0]
    rw [hf, h0]
    clear h3 k3 h0 hf
    go_enter Try.func56, Try.ntmps56
    go_wp2_with fail
    exact bodyPost_ret (results_cellA rfl _ _ w.heap.size 58 #[.int .i64 0, .slice none 0 0, .slice none 0 0] (0, 0) _ rfl (heap_alloc_new w _) Try.underlying58 rfl (by kernel_rfl)) rfl
      ⟨alloc_below _ _, T.zero, none, 0, none, 0, .inr ⟨rfl, rfl⟩, rfl, SL.nil _ _ _ _ (Nat.zero_le _), TL.nil _ _ _ _ (Nat.zero_le _)⟩
  · have hf : findO ts ps = fnd T.zero ts ps := by unfold findO; rw [if_neg h0]
    rw [hf]
    have h00 : ((ps.length : Int) == 0) = false := by
      rw [beq_eq_false_iff_ne]; omega
    clear hf
    obtain ⟨R, hR⟩ : ∃ R, R = fnd T.zero ts ps := ⟨_, rfl⟩
    rw [← hR]
    have HRR := Lib.hid hR
    clear hR
    go_enter Try.func56, Try.ntmps56
    go_wp2_with fail
    have hal := alloc2_below w (Obj.cells #[Value.int IntKind.i64 0, Value.slice none 0 0, Value.slice none 0 0] 58) (Obj.cells #[Value.int IntKind.i64 0, Value.slice none 0 0, Value.slice none 0 0] 58)
    go_loopw [0, 16] (fun v0 i wr => ∃ (k : Nat) (x : T) (l : List T) (A0 : Option Addr) (c0 : Nat) (A1 : Option Addr) (c1 : Nat) (A2 : Option Addr) (c2 : Nat), k ≤ ps.length ∧ v0 = .slice A0 l.length c0 ∧ i = .int .i64 k ∧ Hid (R = fnd x l (ps.drop k)) ∧ Below w.heap.size w wr ∧
      Hid (TL w w.heap.size (.slice A0 l.length c0) l) ∧ Hid (wr.heap[w.heap.size]? = some (.cells #[.int .i64 0, .slice none 0 0, .slice none 0 0] 58 (0, 0))) ∧ Hid (wr.heap[w.heap.size + 1]? = some (.cells #[.int .i64 x.tag, .slice A1 x.val.length c1, .slice A2 x.kids.length c2] 58 (0, 0))) ∧
      Hid (SL w w.heap.size (.slice A1 x.val.length c1) x.val) ∧ Hid (TL w w.heap.size (.slice A2 x.kids.length c2) x.kids) ∧ Hid (w.heap.size + 2 ≤ wr.heap.size) ∧ Hid (x.dep ≤ 50001 ∧ depL l ≤ 50000 ∧ x.wt ≤ 90001 ∧ wtL l ≤ 90000)) (fun _ i _ => ps.length - (intOf i).toNat)
    case atStart =>
      exact ⟨0, T.zero, ts, A, c, none, 0, none, 0, Nat.zero_le _, rfl, rfl, HRR.out, hal, HV.out, heap_alloc2_old w _ _, heap2_new w _ _, SL.nil _ _ _ _ (Nat.zero_le _), TL.nil _ _ _ _ (Nat.zero_le _), by show _ ≤ _; rw [alloc_size, alloc_size]; omega,
        by simp [T.zero, T.dep, T.wt, depL, wtL], hd, by simp [T.zero, T.dep, T.wt, depL, wtL], hw⟩
    case round =>
      obtain ⟨k, x, l, A0, c0, A1, c1, A2, c2, hk, rfl, rfl, hcm, hbel, htl, hr0, hr1, hsx, hkx, hsz2, hbd⟩ := hrel
      have hsz2' := hsz2.out
      have hcr0 : w.heap.size < wr.heap.size := by omega
      have hcr1 : w.heap.size + 1 < wr.heap.size := by omega
      by_cases hkl : k < ps.length
      · obtain ⟨b, o, rfl, hb, hcs⟩ := k3.out (by omega)
        have gp := (hbel.cell (p := ⟨b, o + k, none⟩) hb).trans (hcs k hkl)
        have hdr : ps.drop k = ps.getD k 0 :: ps.drop (k + 1) := by
          rw [List.drop_eq_getElem_cons hkl]
          simp [List.getD, List.getElem?_eq_getElem hkl]
        obtain ⟨p, hp⟩ : ∃ p, p = ps.getD k 0 := ⟨_, rfl⟩
        rw [← hp] at gp hdr
        have HDR := Lib.hid hdr
        obtain ⟨w2, hw2⟩ : ∃ w2, w2 = wr.alloc (Obj.cells #[Value.int IntKind.i64 p] 3) := ⟨_, rfl⟩
        have ha2 : Below wr.heap.size wr w2 := by rw [hw2]; exact alloc_below _ _
        have hb2 : Below w.heap.size w w2 := hbel.trans (ha2.mono (Nat.le_of_lt hcr0))
        have hz2 : w2.heap.size = wr.heap.size + 1 := by rw [hw2]; exact alloc_size _ _
        have hn2 : w2.cell? ⟨wr.heap.size, 0, none⟩ = some (.int .i64 p) := by rw [hw2]; exact (cell_of_row _ _ 0 _ _ _ (heap_alloc_new wr _)).trans rfl
        have HIX := Lib.hid (pix_any l (.slice A0 l.length c0) p wr.heap.size w2 (htl.out.on hb2) hn2)
        have HA2 := Lib.hid ha2
        have HB2 := Lib.hid hb2
        have HW2 := Lib.hid hw2
        clear hdr hp hcs ha2 hb2 hz2 hn2 hw2
        go_wp2_with fail
        rw [← HW2.out]
        refine HIX.out.mono ?_
        rintro e w3 ⟨r, rfl, hix, hb3⟩
        have hb23 : Below wr.heap.size wr w3 := HA2.out.trans (hb3.mono HA2.out.size)
        have hbw3 : Below w.heap.size w w3 := hbel.trans (hb23.mono (Nat.le_of_lt hcr0))
        have q0 := (hb23.block _ hcr0).trans hr0.out
        have q1 := (hb23.block _ hcr1).trans hr1.out
        have HB23 := Lib.hid hb23
        have HBW3 := Lib.hid hbw3
        clear hb3 hb23
        rcases hix with ⟨kk, hkk, rfl, hit, hbef⟩ | ⟨rfl, hno⟩
        · obtain ⟨A0', c0', e', _, _, h3'⟩ := htl.out
          obtain ⟨e1, _, e3⟩ := Value.slice.inj e'
          subst e1 e3
          obtain ⟨b', o', rfl, hb', hts⟩ := h3'.out (by omega)
          have hta := TsAt.get hts hkk
          have hfn := fnd_hit x l p (ps.drop (k + 1)) kk hkk hit hbef
          have hdp := depL_get l kk hkk
          have hwt := wtL_get l kk hkk
          obtain ⟨t, htt⟩ : ∃ t, t = l[kk] := ⟨_, rfl⟩
          rw [← htt] at hta hfn hdp hwt
          obtain ⟨B1, d1, B2, d2, g0, g1, g2, hv1, hu1⟩ := hta.cells
          have g0' := (hbw3.cell (p := ⟨b', o' + kk * 3, none⟩) hb').trans g0
          have g1' := (hbw3.cell (p := ⟨b', o' + kk * 3 + 1, none⟩) hb').trans g1
          have g2' := (hbw3.cell (p := ⟨b', o' + kk * 3 + 2, none⟩) hb').trans g2
          have f0 := cell_of_row _ _ 0 _ _ _ q1
          have f1 := cell_of_row _ _ 1 _ _ _ q1
          have f2 := cell_of_row _ _ 2 _ _ _ q1
          have y0 := frozen_of_row _ _ 0 _ _ q1
          have y1 := frozen_of_row _ _ 1 _ _ q1
          have y2 := frozen_of_row _ _ 2 _ _ q1
          have i0 : (0 : Int) ≤ (kk : Int) := by omega
          have i1 : (kk : Int) < (l.length : Int) := by omega
          have i2 : ¬ (kk : Int) < 0 := by omega
          have HFN := Lib.hid hfn
          have Q0 := Lib.hid q0
          have Q1 := Lib.hid q1
          have HV1 := Lib.hid hv1
          have HU1 := Lib.hid hu1
          have HDP := Lib.hid (And.intro hdp hwt)
          clear e' h3' hts hta hfn hdp hwt htt g0 g1 g2 hv1 hu1 hit hbef q0 q1 hbw3
          go_wp2_with fail
          go_roundw
          case rel => exact ⟨k + 1, t, t.kids, B2, d2, B1, d1, B2, d2, by omega, rfl, by go_num, by show _ = _; rw [hcm.out, HDR.out, HFN.out], set3_below HBW3.out _ (Nat.le_succ _) _ _ _, HU1.out,
            (set3_other _ _ _ _ _ _ (by omega)).trans Q0.out, row3_set _ _ _ _ _ _ _ _ _ Q1.out, HV1.out, HU1.out, Nat.le_trans hsz2' (Nat.le_trans HB23.out.size (set3_below (Below.refl 0 w3) _ (Nat.zero_le _) _ _ _).size),
            by have := HDP.out; have := hbd.out; have := dep_kids t; have := wt_parts t; exact ⟨by omega, by omega, by omega, by omega⟩⟩
          case measure => simp [intOf]; omega
        · have hfn := fnd_miss x l p (ps.drop (k + 1)) hno
          have hR : R = none := by rw [hcm.out, HDR.out, hfn]
          have z0 := cell_of_row _ _ 0 _ _ _ q0
          have z1 := cell_of_row _ _ 1 _ _ _ q0
          have z2 := cell_of_row _ _ 2 _ _ _ q0
          have y0 := frozen_of_row _ _ 0 _ _ q0
          have y1 := frozen_of_row _ _ 1 _ _ q0
          have y2 := frozen_of_row _ _ 2 _ _ q0
          have HR := Lib.hid hR
          have Q0 := Lib.hid q0
          clear hfn hR hno q0 q1 hbw3
          go_wp2_with fail
          rw [HR.out]
          exact bodyPost_ret (results_cellA rfl _ _ w.heap.size 58 #[.int .i64 0, .slice none 0 0, .slice none 0 0] (0, 0) _ rfl (row3_set _ _ _ _ _ _ _ _ _ Q0.out) Try.underlying58 rfl (by kernel_rfl)) rfl
            ⟨set3_below HBW3.out _ (Nat.le_refl _) _ _ _, T.zero, none, 0, none, 0, .inr ⟨rfl, rfl⟩, rfl, SL.nil _ _ _ _ (Nat.zero_le _), TL.nil _ _ _ _ (Nat.zero_le _)⟩
      · have hke : k = ps.length := by omega
        subst hke
        have hR : R = some x := by rw [hcm.out, List.drop_length, fnd]
        have hbd' := hbd.out
        have HCP := Lib.hid (cp_any (x.dep + 1) x (Nat.lt_succ_self _) (by omega) (.slice A1 x.val.length c1) (.slice A2 x.kids.length c2) 1 wr (hsx.out.on hbel) (hkx.out.on hbel) (by omega))
        have q0 := hr0.out
        have q1 := hr1.out
        have f0 := cell_of_row _ _ 0 _ _ _ q1
        have f1 := cell_of_row _ _ 1 _ _ _ q1
        have f2 := cell_of_row _ _ 2 _ _ _ q1
        have HR := Lib.hid hR
        clear hR q1 hbd' q0
        go_wp2_with (go_at_call 79; refine HCP.out.mono ?_; rintro e w3 ⟨B1, d1, B2, d2, rfl, hv3, hk3, hb3⟩; have q0 := (hb3.block _ hcr0).trans hr0.out; have z0 := cell_of_row _ _ 0 _ _ _ q0; have z1 := cell_of_row _ _ 1 _ _ _ q0; have z2 := cell_of_row _ _ 2 _ _ _ q0; have y0 := frozen_of_row _ _ 0 _ _ q0; have y1 := frozen_of_row _ _ 1 _ _ q0; have y2 := frozen_of_row _ _ 2 _ _ q0; have Q0 := Lib.hid q0; have HV3 := Lib.hid hv3; have HK3 := Lib.hid hk3; have HB3 := Lib.hid hb3; clear q0 hv3 hk3 hb3)
        rw [HR.out]
        have hS := set3_from (w := w3) (lo := wr.heap.size) (lo' := wr.heap.size) hcr0 (Nat.le_refl _) (.int .i64 x.tag) (.slice B1 x.val.length d1) (.slice B2 x.kids.length d2)
        exact bodyPost_ret (results_cellA rfl _ _ w.heap.size 58 #[.int .i64 x.tag, .slice B1 x.val.length d1, .slice B2 x.kids.length d2] (0, 0) _ rfl (row3_set _ _ _ _ _ _ _ _ _ Q0.out) Try.underlying58 rfl (by kernel_rfl)) rfl
          ⟨set3_below (hbel.trans (HB3.out.mono (Nat.le_of_lt hcr0))) _ (Nat.le_refl _) _ _ _, x, B1, d1, B2, d2, .inl rfl, rfl, (HV3.out.keep hS).sl fun _ hb => hb.2, (HK3.out.keep hS).tl fun _ hb => hb.2⟩



set_option maxRecDepth 100000 in
set_option maxHeartbeats 6400000 in
theorem rfind_any (ts : List T) (ps : List Int) (v pv : Value) (w : World) (hv : TL w w.heap.size v ts) (hp : IL w w.heap.size pv ps) :
    Calls Try.prog 57 #[v, pv] w fun e w' => FnP w (findO ts ps) e w' := by
  have HV := Lib.hid hv
  have HP := Lib.hid hp
  obtain ⟨A, c, rfl, h1, h2, h3⟩ := hv
  obtain ⟨B, d, rfl, k1, k2, k3⟩ := hp
  unfold maxLen at h2 k2
  obtain ⟨R, hR⟩ : ∃ R, R = findO ts ps := ⟨_, rfl⟩
  rw [← hR]
  have HRR := Lib.hid hR
  clear hR
  go_enter Try.func57, Try.ntmps57
  go_wp2_with fail
  have hal := alloc2_below w (Obj.cells #[Value.int IntKind.i64 0, Value.slice none 0 0, Value.slice none 0 0] 58) (Obj.cells #[Value.int IntKind.i64 0, Value.slice none 0 0, Value.slice none 0 0] 58)
  go_loopw [0, 7] (fun v0 i wr => ∃ (k : Nat) (x : T) (l : List T) (A0 : Option Addr) (c0 : Nat) (A1 : Option Addr) (c1 : Nat) (A2 : Option Addr) (c2 : Nat), k ≤ ps.length ∧ v0 = .slice A0 l.length c0 ∧ i = .int .i64 k ∧ Hid (0 < ps.length → R = fnd x l (ps.drop k)) ∧ Below w.heap.size w wr ∧
    Hid (TL w w.heap.size (.slice A0 l.length c0) l) ∧ Hid (wr.heap[w.heap.size]? = some (.cells #[.int .i64 0, .slice none 0 0, .slice none 0 0] 58 (0, 0))) ∧ Hid (wr.heap[w.heap.size + 1]? = some (.cells #[.int .i64 x.tag, .slice A1 x.val.length c1, .slice A2 x.kids.length c2] 58 (0, 0))) ∧
    Hid (SL w w.heap.size (.slice A1 x.val.length c1) x.val) ∧ Hid (TL w w.heap.size (.slice A2 x.kids.length c2) x.kids) ∧ Hid (w.heap.size + 2 ≤ wr.heap.size) ∧ Hid (ps.length = 0 → x = T.zero)) (fun _ i _ => ps.length - (intOf i).toNat)
  case atStart =>
    exact ⟨0, T.zero, ts, A, c, none, 0, none, 0, Nat.zero_le _, rfl, rfl, fun h => by rw [HRR.out]; unfold findO; rw [if_neg (by omega)]; rfl, hal, HV.out, heap_alloc2_old w _ _, heap2_new w _ _, SL.nil _ _ _ _ (Nat.zero_le _), TL.nil _ _ _ _ (Nat.zero_le _), by show _ ≤ _; rw [alloc_size, alloc_size]; omega,
      fun _ => rfl⟩
  case round =>
    obtain ⟨k, x, l, A0, c0, A1, c1, A2, c2, hk, rfl, rfl, hcm, hbel, htl, hr0, hr1, hsx, hkx, hsz2, hz0⟩ := hrel
    obtain ⟨wo, hwo⟩ : ∃ z, z = wr := ⟨wr, rfl⟩
    subst hwo
    have hsz2' := hsz2.out
    have hcr0 : w.heap.size < wo.heap.size := by omega
    have hcr1 : w.heap.size + 1 < wo.heap.size := by omega
    by_cases hkl : k < ps.length
    · obtain ⟨b, o, rfl, hb, hcs⟩ := k3.out (by omega)
      have gp := (hbel.cell (p := ⟨b, o + k, none⟩) hb).trans (hcs k hkl)
      have hdr : ps.drop k = ps.getD k 0 :: ps.drop (k + 1) := by
        rw [List.drop_eq_getElem_cons hkl]
        simp [List.getD, List.getElem?_eq_getElem hkl]
      obtain ⟨p, hp⟩ : ∃ p, p = ps.getD k 0 := ⟨_, rfl⟩
      rw [← hp] at gp hdr
      have HDR := Lib.hid hdr
      have HGP := Lib.hid gp
      have hcm' := hcm.out (by omega)
      have HCM := Lib.hid hcm'
      have hll : (l.length : Int) ≤ 9223372036854775807 := by obtain ⟨A, c, _, h1, h2, _⟩ := htl.out; unfold maxLen at h2; omega
      clear hdr hp hcs gp hcm'
      go_wp2_with fail
      go_loopw [8, 9] (fun a m wi => ∃ (q : Nat), q ≤ l.length ∧ m = .int .i64 q ∧ Hid (Below wo.heap.size wo wi) ∧ ((a = .int .i64 (-1) ∧ Hid (∀ (j : Nat) (hj : j < l.length), j < q → (l[j]).tag ≠ p)) ∨ (∃ (kk : Nat), a = .int .i64 kk ∧ Hid (∃ (h : kk < l.length), (l[kk]).tag = p ∧ ∀ (j : Nat) (hj : j < kk), (l[j]'(by omega)).tag ≠ p)))) (fun _ m _ => l.length - (intOf m).toNat)
      case atStart => exact ⟨0, Nat.zero_le _, rfl, Below.refl _ _, .inl ⟨rfl, fun j _ h => absurd h (by omega)⟩⟩
      case round =>
        obtain ⟨q, hq, rfl, hbi, hcase⟩ := hrel
        have hbw := Lib.hid (hbel.trans (hbi.out.mono (Nat.le_of_lt hcr0)))
        rcases hcase with ⟨rfl, hno⟩ | ⟨kk, rfl, hit⟩
        · by_cases hql : q < l.length
          · obtain ⟨A0', c0', e', _, _, h3'⟩ := htl.out
            obtain ⟨e1, _, e3⟩ := Value.slice.inj e'
            subst e1 e3
            obtain ⟨b', o', rfl, hb', hts⟩ := h3'.out (by omega)
            have hta := TsAt.get hts hql
            obtain ⟨t, htt⟩ : ∃ t, t = l[q] := ⟨_, rfl⟩
            rw [← htt] at hta
            obtain ⟨B1, d1, B2, d2, g0, g1, g2, hv1, hu1⟩ := hta.cells
            have g0' := (hbw.out.cell (p := ⟨b', o' + q * 3, none⟩) hb').trans g0
            have gp' := (hbi.out.cell (p := ⟨b, o + k, none⟩) (Nat.lt_trans hb hcr0)).trans HGP.out
            have HTT := Lib.hid htt
            clear e' h3' hts hta htt g0 g1 g2 hv1 hu1
            by_cases he : t.tag = p
            · have HE := Lib.hid he
              rw [he] at g0'
              clear he
              go_wp2_with fail
              go_region
              go_wp2_with fail
              go_roundw
              case rel => exact ⟨q + 1, by omega, by go_num, hbi.out.drew, .inr ⟨q, rfl, hql, by rw [← HTT.out]; exact HE.out, fun j hj => hno.out j (by omega) hj⟩⟩
              case measure => simp [intOf]; omega
            · have HE := Lib.hid he
              have heb : (t.tag == p) = false := by simpa using he
              go_wp2_with fail
              go_region
              go_wp2_with fail
              go_roundw
              case rel => exact ⟨q + 1, by omega, by go_num, hbi.out.drew, .inl ⟨rfl, fun j hj hjk => by
                rcases Nat.lt_or_ge j q with h | h
                · exact hno.out j hj h
                · obtain rfl : j = q := by omega
                  rw [← HTT.out]; exact HE.out⟩⟩
              case measure => simp [intOf]; omega
          · have hqe : q = l.length := by omega
            subst hqe
            have hfn := fnd_miss x l p (ps.drop (k + 1)) fun j hj => hno.out j hj hj
            have hR : R = none := by rw [HCM.out, HDR.out, hfn]
            have q0 := (hbi.out.block _ hcr0).trans hr0.out
            have z0 := cell_of_row _ _ 0 _ _ _ q0
            have z1 := cell_of_row _ _ 1 _ _ _ q0
            have z2 := cell_of_row _ _ 2 _ _ _ q0
            have y0 := frozen_of_row _ _ 0 _ _ q0
            have y1 := frozen_of_row _ _ 1 _ _ q0
            have y2 := frozen_of_row _ _ 2 _ _ q0
            have HR := Lib.hid hR
            have Q0 := Lib.hid q0
            clear hfn hR hno q0
            go_wp2_with fail
            rw [HR.out]
            exact bodyPost_ret (results_cellA rfl _ _ w.heap.size 58 #[.int .i64 0, .slice none 0 0, .slice none 0 0] (0, 0) _ rfl (row3_set _ _ _ _ _ _ _ _ _ Q0.out) Try.underlying58 rfl (by kernel_rfl)) rfl
              ⟨set3_below hbw.out _ (Nat.le_refl _) _ _ _, T.zero, none, 0, none, 0, .inr ⟨rfl, rfl⟩, rfl, SL.nil _ _ _ _ (Nat.zero_le _), TL.nil _ _ _ _ (Nat.zero_le _)⟩
        · obtain ⟨hkk, hitt, hbef⟩ := hit.out
          obtain ⟨A0', c0', e', _, _, h3'⟩ := htl.out
          obtain ⟨e1, _, e3⟩ := Value.slice.inj e'
          subst e1 e3
          obtain ⟨b', o', rfl, hb', hts⟩ := h3'.out (by omega)
          have hta := TsAt.get hts hkk
          have hfn := fnd_hit x l p (ps.drop (k + 1)) kk hkk hitt hbef
          obtain ⟨t, htt⟩ : ∃ t, t = l[kk] := ⟨_, rfl⟩
          rw [← htt] at hta hfn
          obtain ⟨B1, d1, B2, d2, g0, g1, g2, hv1, hu1⟩ := hta.cells
          have g0' := (hbw.out.cell (p := ⟨b', o' + kk * 3, none⟩) hb').trans g0
          have g1' := (hbw.out.cell (p := ⟨b', o' + kk * 3 + 1, none⟩) hb').trans g1
          have g2' := (hbw.out.cell (p := ⟨b', o' + kk * 3 + 2, none⟩) hb').trans g2
          have q0 := (hbi.out.block _ hcr0).trans hr0.out
          have q1 := (hbi.out.block _ hcr1).trans hr1.out
          have f0 := cell_of_row _ _ 0 _ _ _ q1
          have f1 := cell_of_row _ _ 1 _ _ _ q1
          have f2 := cell_of_row _ _ 2 _ _ _ q1
          have y0 := frozen_of_row _ _ 0 _ _ q1
          have y1 := frozen_of_row _ _ 1 _ _ q1
          have y2 := frozen_of_row _ _ 2 _ _ q1
          have i0 : (0 : Int) ≤ (kk : Int) := by omega
          have i1 : (kk : Int) < (l.length : Int) := by omega
          have i2 : ¬ (kk : Int) < 0 := by omega
          have HFN := Lib.hid hfn
          have Q0 := Lib.hid q0
          have Q1 := Lib.hid q1
          have HV1 := Lib.hid hv1
          have HU1 := Lib.hid hu1
          clear e' h3' hts hta hfn htt g0 g1 g2 hv1 hu1 hitt hbef q0 q1
          by_cases hql : q < l.length
          all_goals
            go_wp2_with fail
            go_roundw
            case rel => exact ⟨k + 1, t, t.kids, B2, d2, B1, d1, B2, d2, by omega, rfl, by go_num, fun _ => by rw [HCM.out, HDR.out, HFN.out], set3_below hbw.out _ (Nat.le_succ _) _ _ _, HU1.out,
              (set3_other _ _ _ _ _ _ (by omega)).trans Q0.out, row3_set _ _ _ _ _ _ _ _ _ Q1.out, HV1.out, HU1.out, Nat.le_trans hsz2' (Nat.le_trans hbi.out.size (set3_below (Below.refl 0 wr) _ (Nat.zero_le _) _ _ _).size), fun h => absurd h (by omega)⟩
            case measure => simp [intOf]; omega
    · have hke : k = ps.length := by omega
      subst hke
      have q0 := hr0.out
      have q1 := hr1.out
      have z0 := cell_of_row _ _ 0 _ _ _ q0
      have z1 := cell_of_row _ _ 1 _ _ _ q0
      have z2 := cell_of_row _ _ 2 _ _ _ q0
      have y0 := frozen_of_row _ _ 0 _ _ q0
      have y1 := frozen_of_row _ _ 1 _ _ q0
      have y2 := frozen_of_row _ _ 2 _ _ q0
      have f0 := cell_of_row _ _ 0 _ _ _ q1
      have f1 := cell_of_row _ _ 1 _ _ _ q1
      have f2 := cell_of_row _ _ 2 _ _ _ q1
      have Q0 := Lib.hid q0
      have hS := set3_below hbel w.heap.size (Nat.le_refl _) (.int .i64 x.tag) (.slice A1 x.val.length c1) (.slice A2 x.kids.length c2)
      have HS := Lib.hid hS
      clear q0 q1 hS
      by_cases hp : 0 < ps.length
      · have hR : R = some x := by rw [hcm.out hp, List.drop_length, fnd]
        have HR := Lib.hid hR
        have hpi : (0 : Int) < (ps.length : Int) := by omega
        clear hR
        go_wp2_with fail
        rw [HR.out]
        exact bodyPost_ret (results_cellA rfl _ _ w.heap.size 58 #[.int .i64 x.tag, .slice A1 x.val.length c1, .slice A2 x.kids.length c2] (0, 0) _ rfl (row3_set _ _ _ _ _ _ _ _ _ Q0.out) Try.underlying58 rfl (by kernel_rfl)) rfl
          ⟨HS.out, x, A1, c1, A2, c2, .inl rfl, rfl, hsx.out.on HS.out, hkx.out.on HS.out⟩
      · have e0 : ps.length = 0 := by omega
        have hR : R = none := by rw [HRR.out]; unfold findO; rw [if_pos e0]
        have hx := hz0.out e0
        subst hx
        have HR := Lib.hid hR
        rw [e0]
        clear hR hp e0
        go_wp2_with fail
        rw [HR.out]
        exact bodyPost_ret (results_cellA rfl _ _ w.heap.size 58 #[.int .i64 T.zero.tag, .slice A1 T.zero.val.length c1, .slice A2 T.zero.kids.length c2] (0, 0) _ rfl (row3_set _ _ _ _ _ _ _ _ _ Q0.out) Try.underlying58 rfl (by kernel_rfl)) rfl
          ⟨HS.out, T.zero, A1, c1, A2, c2, .inr ⟨rfl, rfl⟩, rfl, hsx.out.on HS.out, hkx.out.on HS.out⟩



theorem open_ils {H : Type} {enc : TypeId × Value → H} {W : World} {fuel : Nat} {v : Value} {x : DataW H × List MemPlace}
    (h : Go.DataW.trod enc Try.prog W 0 (fun _ => true) true fuel 56 [v] = some x) : ∃ l : List Int, IL W W.heap.size v l := by
  rcases Go.ChangeShapes.open_ints Try.underlying56 Try.underlying3 c3 h with ⟨hcs, _⟩ | ⟨x, l, c, zs, hcs, _, hl, hm, hz, hx, hcell, hwz⟩
  · simp only [List.cons.injEq, and_true] at hcs
    subst hcs
    exact ⟨[], none, 0, rfl, Nat.le_refl _, Nat.zero_le _, fun hp => absurd hp (by simp)⟩
  · simp only [List.cons.injEq, and_true] at hcs
    subst hcs
    simp only [if_true] at hz
    have hlen : (zs.take l).length = l := by simp; omega
    refine ⟨zs.take l, some x, c, by rw [hlen], by omega, hm, fun hp => ?_⟩
    rw [hlen] at hp
    obtain ⟨b, o, sp⟩ := x
    have h0 := hcell 0 (by omega)
    have hsp : sp = none := World.cell?_spot (by simpa [Addr.add] using h0)
    subst hsp
    have hblk := World.block_lt_of_cell? W _ h0
    refine ⟨b, o, rfl, by simpa [Addr.add] using hblk, fun k hk => ?_⟩
    rw [hlen] at hk
    have hc := hcell k (by omega)
    rw [addr_add] at hc
    rw [hc]
    have hkz : k < zs.length := by omega
    have e1 : zs.getD k 0 = zs[k] := by simp [List.getD, List.getElem?_eq_getElem hkz]
    have e2 : (zs.take l).getD k 0 = zs[k] := by
      simp [List.getD, hk, List.getElem?_eq_getElem hkz]
    rw [e1, e2]

mutual
theorem dep_wtF : ∀ t : T, t.dep ≤ t.wt
  | .mk tag val ks => by
    have h := depL_wtF ks
    rw [T.dep, T.wt]
    omega
theorem depL_wtF : ∀ ts : List T, depL ts ≤ wtL ts
  | [] => by rw [depL, wtL]; omega
  | t :: ts => by
    have h1 := dep_wtF t
    have h2 := depL_wtF ts
    rw [depL, wtL]
    omega
end
theorem IL.on {w W : World} {v : Value} {l : List Int} (h : IL w w.heap.size v l) (hb : Below w.heap.size w W) : IL W W.heap.size v l := by
  obtain ⟨A, c, hv, h1, h2, h3⟩ := h
  refine ⟨A, c, hv, h1, h2, fun hp => ?_⟩
  obtain ⟨b, o, hA, hlt, hc⟩ := h3.out hp
  exact ⟨b, o, hA, Nat.lt_of_lt_of_le hlt hb.size, fun k hk => (hb.cell (p := ⟨b, o + k, none⟩) hlt).trans (hc k hk)⟩
theorem FnP.eq {r : Option T} {u x : T} (h1 : r = some u ∨ (r = none ∧ u = T.zero)) (h2 : r = some x ∨ (r = none ∧ x = T.zero)) : u = x := by
  rcases h1 with h1 | ⟨h1, rfl⟩ <;> rcases h2 with h2 | ⟨h2, rfl⟩
  · rw [h1] at h2; exact Option.some.inj h2
  · rw [h1] at h2; cases h2
  · rw [h1] at h2; cases h2
  · rfl
set_option maxRecDepth 100000 in
set_option maxHeartbeats 6400000 in
theorem law_finds (ts : List T) (ps : List Int) (v pv : Value) (w : World) (hv : TL w w.heap.size v ts) (hp : IL w w.heap.size pv ps) :
    Calls Try.prog 13 #[v, pv] w fun e w' => e = .returned (.bool true) ∧ Below w.heap.size w w' := by
  obtain ⟨A1, c1, rfl, _⟩ := id hv
  obtain ⟨A2, c2, rfl, h11, h12, _⟩ := id hp
  unfold maxLen at h12
  have HF := Lib.hid (few_any ts _ w hv)
  have HA := Lib.hid fun (W : World) => works_any W
  have HV := Lib.hid hv
  have HP := Lib.hid hp
  clear hv hp
  by_cases hf : 0 ≤ leftL ts 6000
  · rw [decide_eq_true hf] at HF
    by_cases hl : 100 < ps.length
    · have hli : (100 : Int) < (ps.length : Int) := by omega
      clear hf
      go_enter Try.func13, Try.ntmps13
      go_wp2_with (go_at_call 49; refine HF.out.mono ?_; rintro e w1 ⟨rfl, hb1⟩)
      refine (HA.out _).mono ?_
      rintro e w3 ⟨rfl, hb3⟩
      go_wp2_with fail
      go_ret
      exact ⟨rfl, hb1.trans (hb3.mono hb1.size)⟩
    · have hli : ¬ (100 : Int) < (ps.length : Int) := by omega
      have hw6 : wtL ts ≤ 6000 := by have h1 := leftL_range ts 6000 (by omega) (by omega); have := h1.2.2 hf; omega
      have hdp : depL ts ≤ 50000 := by have := depL_wtF ts; omega
      have hwt : wtL ts ≤ 90000 := by omega
      have HQ1 := Lib.hid fun (W : World) (hW : Below w.heap.size w W) => pfind_any ts ps _ _ W (HV.out.on hW) (HP.out.on hW) hdp hwt
      have HQ2 := Lib.hid fun (W : World) (hW : Below w.heap.size w W) => rfind_any ts ps _ _ W (HV.out.on hW) (HP.out.on hW)
      have HS : Hid (∀ (us : List T) (va vb : Value) (W : World), TL W W.heap.size va us → TL W W.heap.size vb us → Calls Try.prog 55 #[va, vb] W fun e w' => e = .returned (.bool true) ∧ Below W.heap.size W w') := fun us va vb W ha hb => by
        have := rsa_any _ us (Nat.lt_succ_self _) us va vb W ha hb
        rwa [samT_refl us] at this
      generalize findO ts ps = R at *
      obtain ⟨ok, hok⟩ : ∃ b, b = R.isSome := ⟨_, rfl⟩
      unfold FnP at HQ1 HQ2
      rw [← hok] at HQ1 HQ2
      clear hf hl hw6 hwt hdp hok
      go_enter Try.func13, Try.ntmps13
      go_wp2_with (go_at_call 49; refine HF.out.mono ?_; rintro e w1 ⟨rfl, hb1⟩; have HB1 := Lib.hid hb1; clear hb1)
      refine (HQ1.out _ HB1.out).mono ?_
      rintro e w2 ⟨hb2, u, B1, d1, B2, d2, hu, rfl, hs2, hk2⟩
      have HB2 := Lib.hid (HB1.out.trans (hb2.mono HB1.out.size))
      have HU := Lib.hid hu
      have HS2 := Lib.hid hs2
      have HK2 := Lib.hid hk2
      clear hb2 hs2 hk2 hu
      go_wp2_with fail
      have HB3 := Lib.hid (HB2.out.trans ((alloc_below w2 (.cells #[.int .i64 u.tag, .slice B1 u.val.length d1, .slice B2 u.kids.length d2] 58)).mono HB2.out.size))
      have hn3 := heap_alloc_new w2 (.cells #[.int .i64 u.tag, .slice B1 u.val.length d1, .slice B2 u.kids.length d2] 58)
      have hz3 : (w2.alloc (.cells #[.int .i64 u.tag, .slice B1 u.val.length d1, .slice B2 u.kids.length d2] 58)).heap.size = w2.heap.size + 1 := alloc_size _ _
      have HS3 := Lib.hid (HS2.out.on (alloc_below w2 (.cells #[.int .i64 u.tag, .slice B1 u.val.length d1, .slice B2 u.kids.length d2] 58)))
      have HK3 := Lib.hid (HK2.out.on (alloc_below w2 (.cells #[.int .i64 u.tag, .slice B1 u.val.length d1, .slice B2 u.kids.length d2] 58)))
      refine (HQ2.out _ HB3.out).mono ?_
      generalize w2.alloc (.cells #[.int .i64 u.tag, .slice B1 u.val.length d1, .slice B2 u.kids.length d2] 58) = w3 at *
      rintro e w4 ⟨hb4, x, C1, e1, C2, e2, hx, rfl, hs4, hk4⟩
      obtain rfl : x = u := FnP.eq hx HU.out
      have hn4 := (hb4.block w2.heap.size (by rw [hz3]; exact Nat.lt_succ_self _)).trans hn3
      have hz4 : w2.heap.size < w4.heap.size := by have := hb4.size; rw [hz3] at this; exact this
      have hn5 := (Below.heap_alloc w4 (.cells #[.int .i64 x.tag, .slice C1 x.val.length e1, .slice C2 x.kids.length e2] 58) w2.heap.size hz4).trans hn4
      have c0 := cell_of_row _ w2.heap.size 0 _ _ _ hn5
      have c1' := cell_of_row _ w2.heap.size 1 _ _ _ hn5
      have c2' := cell_of_row _ w2.heap.size 2 _ _ _ hn5
      have S4 := Lib.hid (HS3.out.on hb4)
      have K4 := Lib.hid (HK3.out.on hb4)
      have HS4 := Lib.hid hs4
      have HK4 := Lib.hid hk4
      have HB4 := Lib.hid (HB3.out.trans (hb4.mono HB3.out.size))
      clear hs4 hk4 hb4
      go_wp2_with fail
      generalize hoB : (Obj.cells #[.int .i64 x.tag, .slice B1 x.val.length d1, .slice B2 x.kids.length d2] 58) = oB at *
      generalize hoC : (Obj.cells #[.int .i64 x.tag, .slice C1 x.val.length e1, .slice C2 x.kids.length e2] 58) = oC at *
      have b5 := alloc_below w4 oC
      have z5 : (w4.alloc oC).heap.size = w4.heap.size + 1 := alloc_size _ _
      have b6 := alloc_below (w4.alloc oC) oB
      have z6 : ((w4.alloc oC).alloc oB).heap.size = w4.heap.size + 1 + 1 := (alloc_size _ _).trans (by rw [z5])
      have b7 := alloc_below ((w4.alloc oC).alloc oB) oC
      have z7 : (((w4.alloc oC).alloc oB).alloc oC).heap.size = w4.heap.size + 1 + 1 + 1 := (alloc_size _ _).trans (by rw [z6])
      have t1 := TL.one (w4.alloc oC) _ z5 x _ _ (z5 ▸ S4.out.on b5) (z5 ▸ K4.out.on b5)
      rw [hoB] at t1
      have t2 := TL.one ((w4.alloc oC).alloc oB) _ z6 x _ _ (z6 ▸ (HS4.out.on b5).on b6) (z6 ▸ (HK4.out.on b5).on b6)
      rw [hoC] at t2
      rw [← z6] at t1
      rw [← z7] at t2
      have t1' := t1.on b7
      have hb7 := HB4.out.trans (((b5.trans (b6.mono b5.size)).trans (b7.mono (Nat.le_trans b5.size b6.size))).mono HB4.out.size)
      clear t1 b5 b6 b7 z5 z6 hoB hoC
      refine (HS.out [x] _ _ _ t1' t2).mono ?_
      rintro e w8 ⟨rfl, hb8⟩
      go_wp2_with fail
      refine (HA.out _).mono ?_
      rintro e w9 ⟨rfl, hb9⟩
      go_wp2_with fail
      go_ret
      exact ⟨rfl, (hb7.trans (hb8.mono hb7.size)).trans (hb9.mono (Nat.le_trans hb7.size hb8.size))⟩
  · rw [decide_eq_false hf] at HF
    clear hf
    go_enter Try.func13, Try.ntmps13
    go_wp2_with (go_at_call 49; refine HF.out.mono ?_; rintro e w1 ⟨rfl, hb1⟩)
    refine (HA.out _).mono ?_
    rintro e w3 ⟨rfl, hb3⟩
    go_wp2_with fail
    go_ret
    exact ⟨rfl, hb1.trans (hb3.mono hb1.size)⟩

end Go.Proofs.Ytahnmnbjgbfeaaa
