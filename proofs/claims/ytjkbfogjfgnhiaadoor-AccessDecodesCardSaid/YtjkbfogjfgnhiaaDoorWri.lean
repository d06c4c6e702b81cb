/-
  The walk of write.
-/
import Derived.Test.YtjkbfogjfgnhiaaDoorLta
import Derived.Test.YtjkbfogjfgnhiaaDoorRsa
import Derived.Deep.AppendLies
namespace Go.Proofs.YtjkbfogjfgnhiaaDoor
set_option linter.unusedVariables false
set_option linter.unusedSimpArgs false
open Go.RowKit

/-- The bytes ahead of the kids. -/
def hdF (op n : Int) (k : Nat) : List UInt8 :=
  if 0 < (kindOf op.toNat).hi then [UInt8.ofNat op.toNat, UInt8.ofNat n.toNat] else if (kindOf op.toNat).kd then [UInt8.ofNat op.toNat, UInt8.ofNat k] else [UInt8.ofNat op.toNat]
mutual
/-- The encoding of a condition. -/
def Cn.enc : Cn → List UInt8 | .mk op n kids => hdF op n kids.length ++ encS kids
def encS : List Cn → List UInt8 | [] => [] | t :: ts => t.enc ++ encS ts
end
theorem cenc_parts (t : Cn) : t.enc = hdF t.op t.n t.kids.length ++ encS t.kids := by cases t; rw [Cn.enc]; rfl
theorem hdF_length (op n : Int) (k : Nat) : (hdF op n k).length ≤ 2 := by unfold hdF; split; simp; split <;> simp
mutual
theorem Cn.enc_cnt : ∀ t : Cn, t.enc.length ≤ 2 * t.cnt
  | .mk op n kids => by
    have h := encS_cnt kids
    have h1 := hdF_length op n kids.length
    rw [Cn.enc, Cn.cnt, List.length_append]
    omega
theorem encS_cnt : ∀ ts : List Cn, (encS ts).length ≤ 2 * cntK ts
  | [] => by simp [encS]
  | t :: ts => by
    have h1 := Cn.enc_cnt t
    have h2 := encS_cnt ts
    rw [encS, cntK, List.length_append]
    omega
end
theorem encS_drop (ts : List Cn) (k : Nat) (h : k < ts.length) : encS (ts.drop k) = (ts[k]).enc ++ encS (ts.drop (k + 1)) := by rw [List.drop_eq_getElem_cons h, encS]

/-- A byte appended to what the call owns; what else is in memory is kept. -/
theorem wpList_app1L {ops : Array Oper} {rest : List Oper} {o : Oper} {a : Act} {W : World} {Q : Exit → Act → World → Prop} (hgd : o.guard = none) (s x : Operand)
    (ho : o.op = .call { callee := .builtin .append, args := #[s, x], argTypes := #[42, 42] }) (base : Nat) (v : Value) (l : List UInt8) (y : UInt8) (z : Int) (B : Nat)
    (hs : a.eval s = v) (hx : a.eval x = .slice (some ⟨B, 0, none⟩) 1 1) (hown : OB W base v l) (hB : W.heap[B]? = some (.cells #[.int .u8 z] 5 (0, 0)))
    (hz : z = (y.toNat : Int)) (hlen : l.length ≤ 10000000) (hbase : base ≤ W.heap.size) (H : Nat) (hH : W.heap.size = H)
    (h : ∀ g cap w', OB w' base (.slice (some ⟨g, 0, none⟩) (l.length + 1) cap) (l ++ [y]) → W.grownBy w' v.ownBlock → (v.ownBlock = some g ∨ g = H) → wpList Tryd.prog ops Q rest (a.put o.dst (.slice (some ⟨g, 0, none⟩) (l.length + 1) cap)) w') : wpList Tryd.prog ops Q (o :: rest) a W := by
  obtain ⟨i0, hi0, hz0, hz1, hz2⟩ := info_parts info5
  refine wpList_append_lies W hgd s x 42 ho base 5 i0 (.int .u8 0) 1 1 Tryd.underlying42 hi0 hz0 hz1 hz2 rfl (by omega) v l.length (l.map bv) hs hown ⟨B, 0, none⟩ 1 1 ([y].map bv) hx (by simp)
    (fun j u hu => by
      have hj : j = 0 := by have := (List.getElem?_eq_some_iff.1 hu).1; simpa using this
      subst hj
      rw [addr_add, cell_of_row W B _ _ 5 (0, 0) hB, hz, ← hu]; rfl) (map_bv_one _) (by omega) (by simp only [maxLen]; omega) (by omega) hbase H hH fun g cap w' k1 k2 k3 k4 => ?_
  refine h g cap w' ?_ k2 k3
  unfold OB
  rw [List.length_append, List.map_append]
  exact k1
theorem OB.ltB {w : World} {base : Nat} {v : Value} {l : List UInt8} (h : OB w base v l) : ∀ k, v.ownBlock = some k → base ≤ k ∧ k < w.heap.size := fun k hk => h.lt k hk

set_option maxRecDepth 100000 in
theorem numd_any (nm : ByteArray) (kd : Bool) (lo hi bs : Int) (w : World) :
    Calls Tryd.prog 77 #[.agg #[.string nm, .bool kd, .int .i64 lo, .int .i64 hi, .int .i64 bs]] w fun e w' => e = .returned (.bool (decide (0 < hi))) ∧ Below w.heap.size w w' := by
  go_enter Tryd.func77, Tryd.ntmps77
  go_wp2_with fail
  go_ret
  exact ⟨rfl, alloc_below _ _⟩

theorem app_box {W w' : World} {v : Value} {M : Nat} {o : Obj} (hg : W.grownBy w' v.ownBlock) (hne : v.ownBlock ≠ some M) (h : W.heap[M]? = some o) : w'.heap[M]? = some o := by
  have hlt : M < W.heap.size := (Array.getElem?_eq_some_iff.1 h).1
  exact (hg.block M hlt (fun e => hne e.symm)).trans h

def WrP (base : Nat) (w : World) (l : List UInt8) (e : Ending) (w' : World) : Prop :=
  ∃ g cap, e = .returned (.slice (some ⟨g, 0, none⟩) l.length cap) ∧ OB w' base (.slice (some ⟨g, 0, none⟩) l.length cap) l ∧ Below base w w'
def WrC (c : Cn) : Prop := ∀ (base : Nat) (l : List UInt8) (v u : Value) (w : World), c.ok = true → c.cnt ≤ 400 → l.length ≤ 1000 → l.length + c.enc.length ≤ 1000 → 0 < base → base ≤ w.heap.size → Tb w → OB w base v l → KL w base u c.kids →
  Calls Tryd.prog 53 #[v, .agg #[.int .i64 c.op, .int .i64 c.n, u]] w (WrP base w (l ++ c.enc))

set_option maxRecDepth 100000 in
set_option maxHeartbeats 6400000 in
theorem wri_step (c : Cn) (ih : ∀ c' : Cn, c'.dep < c.dep → WrC c') : WrC c := by
  intro base l v u w hok hcn hl hle hb0 hbs hT hown hk
  have hp := ok_parts c
  rw [hok] at hp
  have hp' : okN c.op c.n c.kids.length = true ∧ okK c.kids = true := by simpa using hp.symm
  have ho := okN_op hp'.1
  have hkd := dep_kids c
  have hkc := cnt_kids c
  have hen := cenc_parts c
  have IH := Lib.hid ih
  clear ih hp hok
  obtain ⟨op, n, ts⟩ := c
  simp only [Cn.op, Cn.n, Cn.kids] at *
  generalize (Cn.mk op n ts).enc = EN at *
  generalize (Cn.mk op n ts).cnt = CN at *
  generalize (Cn.mk op n ts).dep = DD at *
  obtain ⟨A, cap, rfl, h1, h2, h3⟩ := hk
  unfold maxLen at h2
  obtain ⟨hop, ho2, ho4, ho5, ho6, hok6, _⟩ := ho
  obtain ⟨o, rfl⟩ := Int.eq_ofNat_of_zero_le (show 0 ≤ op by omega)
  have ho8 : o < 8 := by omega
  have hlts : ts.length ≤ CN := by have := cntK_len ts; omega
  have hn51 : n ≤ 51 := by omega
  have hn0 : 0 ≤ n := by omega
  obtain ⟨A0, c0, rfl⟩ := hown.value
  have HOK := Lib.hid hp'.2
  have HEN := Lib.hid hen
  have HKD := Lib.hid (hT.kd o ho8)
  have HT := Lib.hid hT
  have HOW := Lib.hid hown
  have hlt := Lib.hid fun k hk => hown.ltB k hk
  have HHD : Hid (hdF (o : Int) n ts.length = if 0 < (kindOf o).hi then [UInt8.ofNat o, UInt8.ofNat n.toNat] else if (kindOf o).kd then [UInt8.ofNat o, UInt8.ofNat ts.length] else [UInt8.ofNat o]) := rfl
  generalize hdF (o : Int) n ts.length = HD at *
  generalize kindOf o = x at *
  obtain ⟨nm, kd, lo, hi, bs⟩ := x
  clear hen hT hown hp' hop ho2 ho4 ho5 ho6 hok6
  simp only at HHD
  have hsz1 := alloc_size w (bx (o : Int) n A ts.length cap)
  have HS2 := Lib.hid (show ((w.alloc (bx (o : Int) n A ts.length cap)).alloc (Obj.cells #[Value.int IntKind.u8 (o : Int)] 5 (0, 0))).heap.size = w.heap.size + 2 by rw [alloc_size, alloc_size])
  have HB1 : Hid (((w.alloc (bx (o : Int) n A ts.length cap)).alloc (Obj.cells #[Value.int IntKind.u8 (o : Int)] 5 (0, 0))).heap[w.heap.size + 1]? = some (Obj.cells #[Value.int IntKind.u8 (o : Int)] 5 (0, 0))) := by
    have := heap_alloc_new (w.alloc (bx (o : Int) n A ts.length cap)) (Obj.cells #[Value.int IntKind.u8 (o : Int)] 5 (0, 0))
    rw [hsz1] at this
    exact this
  have HN0 := Lib.hid ((Below.heap_alloc (w.alloc (bx (o : Int) n A ts.length cap)) (Obj.cells #[Value.int IntKind.u8 (o : Int)] 5 (0, 0)) w.heap.size (by rw [hsz1]; omega)).trans (heap_alloc_new w (bx (o : Int) n A ts.length cap)))
  have HA2 := Lib.hid (alloc2_below w (bx (o : Int) n A ts.length cap) (Obj.cells #[Value.int IntKind.u8 (o : Int)] 5 (0, 0)))
  have HZ : Hid ((o : Int) = ((UInt8.ofNat o).toNat : Int)) := by show _ = _; simp; omega
  clear hsz1
  have HLE : Hid (EN.length = HD.length + (encS ts).length) := by show _ = _; rw [HEN.out, List.length_append]
  have hltN : (Value.slice A0 l.length c0).ownBlock ≠ some w.heap.size := fun e => by have := (hlt.out _ e).2; omega
  by_cases h0 : 0 < hi
  · have HHD2 : Hid (HD = [UInt8.ofNat o, UInt8.ofNat n.toNat]) := by show _ = _; rw [HHD.out, if_pos h0]
    have HLN : Hid ((l ++ [UInt8.ofNat o] ++ [UInt8.ofNat n.toNat]).length + (encS ts).length ≤ 1000) := by show _ ≤ _; rw [HLE.out, HHD2.out] at hle; simp at hle ⊢; omega
    have HZ2 : Hid (n = ((UInt8.ofNat n.toNat).toNat : Int)) := by show _ = _; simp; omega
    go_enter Tryd.func53, Tryd.ntmps53
    go_wp2_with (at_builtin; refine wpList_app1L rfl (.tmp 8) (.tmp 12) rfl base _ l (UInt8.ofNat o) _ (w.heap.size + 1) rfl rfl (HOW.out.later HA2.out) HB1.out HZ.out (by omega) (by simp; omega) (w.heap.size + 2) HS2.out ?_; intro g1 cap1 w1 hob1 hg1 hgg1; have hbl1 : Below base w w1 := (HA2.out.mono hbs).grown hg1 (Nat.le_trans (by omega) (Nat.le_of_eq HS2.out.symm)) (fun k hk => (hlt.out k hk).1); have hN1 := app_box hg1 hltN HN0.out; have hs1 : w.heap.size + 2 ≤ w1.heap.size := Nat.le_trans (Nat.le_of_eq HS2.out.symm) hg1.size; have hne1 : g1 ≠ w.heap.size := by { rcases hgg1 with e | e; exact (fun e2 => hltN (Eq.trans e (congrArg some e2))); omega }; have q0 := cell_of_row _ _ 0 _ _ _ hN1; have z0 : w1.cell? ⟨0, o * 5, none⟩ = some (.string nm) := (hbl1.cell (p := ⟨0, o * 5, none⟩) hb0).trans HKD.out.1; have z1 : w1.cell? ⟨0, o * 5 + 1, none⟩ = some (.bool kd) := (hbl1.cell (p := ⟨0, o * 5 + 1, none⟩) hb0).trans HKD.out.2.1; have z2 : w1.cell? ⟨0, o * 5 + 2, none⟩ = some (.int .i64 lo) := (hbl1.cell (p := ⟨0, o * 5 + 2, none⟩) hb0).trans HKD.out.2.2.1; have z3 : w1.cell? ⟨0, o * 5 + 3, none⟩ = some (.int .i64 hi) := (hbl1.cell (p := ⟨0, o * 5 + 3, none⟩) hb0).trans HKD.out.2.2.2.1; have z4 : w1.cell? ⟨0, o * 5 + 4, none⟩ = some (.int .i64 bs) := (hbl1.cell (p := ⟨0, o * 5 + 4, none⟩) hb0).trans HKD.out.2.2.2.2; have HN1 := Lib.hid hN1; have HBL1 := Lib.hid hbl1; have HOB1 := Lib.hid hob1; clear hbl1 hN1 hg1 hgg1 hob1)
    refine (numd_any nm _ lo hi bs _).mono ?_
    rintro e w2 ⟨rfl, hb2⟩
    have hkc2 := new_cell hb2 1 _ rfl
    have hb12 := after_alloc hb2
    have hN2 := (hb12.block w.heap.size (by omega)).trans HN1.out
    have q1 := cell_of_row _ _ 1 _ _ _ hN2
    have q2 := cell_of_row _ _ 2 _ _ _ hN2
    have hs2 := hb12.size
    have HOB2 := Lib.hid (HOB1.out.later hb12)
    have HBL2 := Lib.hid (HBL1.out.trans (hb12.mono (show base ≤ w1.heap.size by omega)))
    have HN2 := Lib.hid hN2
    clear q0 z0 z1 z2 z3 z4 hb2 hb12 hN2
    go_wp2_with (at_builtin; refine wpList_app1L rfl (.tmp 21) (.tmp 25) rfl base _ (l ++ [UInt8.ofNat o]) (UInt8.ofNat n.toNat) _ w2.heap.size rfl rfl (HOB2.out.later (alloc_below _ _)) (heap_alloc_new _ _) (by first | exact HZ2.out | (simp; omega)) (by simp; omega) (by simp; omega) (w2.heap.size + 1) (by simp) ?_; intro g3 cap3 w3 hob3 hg3 hgg3; have hbl3 : Below base w w3 := (HBL2.out.trans ((alloc_below _ _).mono (by omega))).grown hg3 (by simp; omega) (fun k hk => (HOB2.out.ltB k hk).1); have hN3 := app_box hg3 (fun e => hne1 (Option.some.inj e)) (((alloc_below w2 _).block w.heap.size (by omega)).trans HN2.out); have r2 := cell_of_row _ _ 2 _ _ _ hN3; have HBL3 := Lib.hid hbl3; have HOB3 := Lib.hid hob3; clear hbl3 hN3 hg3 hgg3 hob3)

    go_loopw [0, 40] (fun b i wr => ∃ (k : Nat) (q : List UInt8) (g cp : Nat), k ≤ ts.length ∧ i = .int .i64 k ∧ b = .slice (some ⟨g, 0, none⟩) q.length cp ∧ q.length + (encS (ts.drop k)).length ≤ 1000 ∧ Hid (l ++ EN = q ++ encS (ts.drop k)) ∧ Hid (OB wr base (.slice (some ⟨g, 0, none⟩) q.length cp) q) ∧ Hid (Below base w wr)) (fun _ i _ => ts.length - (intOf i).toNat)
    case atStart => exact ⟨0, l ++ [UInt8.ofNat o] ++ [UInt8.ofNat n.toNat], g3, cap3, Nat.zero_le _, rfl, by simp, by rw [List.drop_zero]; exact HLN.out, by show _ = _; rw [List.drop_zero, HEN.out, HHD2.out]; simp, by show OB _ _ _ _; simpa using HOB3.out, HBL3⟩
    case round =>
      obtain ⟨k, q, g, cp, hkl, rfl, rfl, hql, HQ, HO, HB⟩ := hrel
      by_cases hlt2 : k < ts.length
      · obtain ⟨b1, o1, rfl, hb1, hts⟩ := h3.out (by omega)
        have hta := CnsAt.get hts hlt2
        have hdp := depK_get ts k hlt2
        have hcd := cntK_get ts k hlt2
        have hed := encS_drop ts k hlt2
        have hokt := okK_get ts k hlt2 HOK.out
        obtain ⟨t, ht⟩ : ∃ t, t = ts[k] := ⟨_, rfl⟩
        rw [← ht] at hta hdp hcd hed hokt
        have hta' := CnAt.keep (Nat.le_refl base) (fun p hp => HB.out.cell hp) t b1 _ hb1 hta
        obtain ⟨A2, c2, g1', g2', g3', hu⟩ := hta'.cells
        have hba := alloc_below wr (Obj.cells #[Value.int IntKind.i64 t.op, Value.int IntKind.i64 t.n, Value.slice A2 t.kids.length c2] 24)
        have hsb : base ≤ wr.heap.size := Nat.le_trans hbs HB.out.size
        have hl2 : q.length + t.enc.length + (encS (ts.drop (k + 1))).length ≤ 1000 := by
          rw [hed, List.length_append] at hql
          omega
        have HV := Lib.hid (IH.out t (by omega) base q _ (.slice A2 t.kids.length c2) _ hokt (by omega) (by omega) (by omega) hb0 (Nat.le_trans hsb hba.size) ((HT.out.below HB.out hb0).on hba) (HO.out.later hba) (hu.keep (Nat.le_refl _) fun p hp => hba.cell (by omega)))
        have HED := Lib.hid hed
        have HBA := Lib.hid hba
        clear hta hta' hts ht hu hcd hed hokt hba hql
        go_wp2_with fail
        refine HV.out.mono ?_
        rintro e w5 ⟨g5, cp5, rfl, hob5, hb5⟩
        have HB5 := Lib.hid (HB.out.trans ((HBA.out.mono hsb).trans hb5))
        have HO5 := Lib.hid hob5
        clear hb5 hob5
        go_wp2_with fail
        go_roundw
        case rel => exact ⟨k + 1, q ++ t.enc, g5, cp5, by omega, by go_num, by rw [List.length_append], by rw [List.length_append]; exact hl2, by show _ = _; rw [HQ.out, HED.out, List.append_assoc], HO5, HB5⟩
        case measure => simp [intOf]; omega
      · have HQ2 : Hid (l ++ EN = q) := by show _ = _; rw [HQ.out, show k = ts.length by omega, List.drop_length, encS, List.append_nil]
        go_wp2_with fail
        go_ret
        rw [HQ2.out]
        exact ⟨g, cp, rfl, HO.out, HB.out⟩
  · cases kd with
    | true =>
      have HHD2 : Hid (HD = [UInt8.ofNat o, UInt8.ofNat ts.length]) := by show _ = _; rw [HHD.out, if_neg h0, if_pos rfl]
      have HLN : Hid ((l ++ [UInt8.ofNat o] ++ [UInt8.ofNat ts.length]).length + (encS ts).length ≤ 1000) := by show _ ≤ _; rw [HLE.out, HHD2.out] at hle; simp at hle ⊢; omega
      have hd0 : decide (0 < hi) = false := decide_eq_false h0
      have HZ2 : Hid (((ts.length % 256 : Nat) : Int) = ((UInt8.ofNat ts.length).toNat : Int)) := by show _ = _; simp
      have HM : Hid (ts.length % 256 = ts.length % 256) := rfl
      go_enter Tryd.func53, Tryd.ntmps53
      go_wp2_with (at_builtin; refine wpList_app1L rfl (.tmp 8) (.tmp 12) rfl base _ l (UInt8.ofNat o) _ (w.heap.size + 1) rfl rfl (HOW.out.later HA2.out) HB1.out HZ.out (by omega) (by simp; omega) (w.heap.size + 2) HS2.out ?_; intro g1 cap1 w1 hob1 hg1 hgg1; have hbl1 : Below base w w1 := (HA2.out.mono hbs).grown hg1 (Nat.le_trans (by omega) (Nat.le_of_eq HS2.out.symm)) (fun k hk => (hlt.out k hk).1); have hN1 := app_box hg1 hltN HN0.out; have hs1 : w.heap.size + 2 ≤ w1.heap.size := Nat.le_trans (Nat.le_of_eq HS2.out.symm) hg1.size; have hne1 : g1 ≠ w.heap.size := by { rcases hgg1 with e | e; exact (fun e2 => hltN (Eq.trans e (congrArg some e2))); omega }; have q0 := cell_of_row _ _ 0 _ _ _ hN1; have z0 : w1.cell? ⟨0, o * 5, none⟩ = some (.string nm) := (hbl1.cell (p := ⟨0, o * 5, none⟩) hb0).trans HKD.out.1; have z1 : w1.cell? ⟨0, o * 5 + 1, none⟩ = some (.bool true) := (hbl1.cell (p := ⟨0, o * 5 + 1, none⟩) hb0).trans HKD.out.2.1; have z2 : w1.cell? ⟨0, o * 5 + 2, none⟩ = some (.int .i64 lo) := (hbl1.cell (p := ⟨0, o * 5 + 2, none⟩) hb0).trans HKD.out.2.2.1; have z3 : w1.cell? ⟨0, o * 5 + 3, none⟩ = some (.int .i64 hi) := (hbl1.cell (p := ⟨0, o * 5 + 3, none⟩) hb0).trans HKD.out.2.2.2.1; have z4 : w1.cell? ⟨0, o * 5 + 4, none⟩ = some (.int .i64 bs) := (hbl1.cell (p := ⟨0, o * 5 + 4, none⟩) hb0).trans HKD.out.2.2.2.2; have HN1 := Lib.hid hN1; have HBL1 := Lib.hid hbl1; have HOB1 := Lib.hid hob1; clear hbl1 hN1 hg1 hgg1 hob1)
      refine (numd_any nm _ lo hi bs _).mono ?_
      rintro e w2 ⟨rfl, hb2⟩
      have hkc2 := new_cell hb2 1 _ rfl
      have hb12 := after_alloc hb2
      have hN2 := (hb12.block w.heap.size (by omega)).trans HN1.out
      have q1 := cell_of_row _ _ 1 _ _ _ hN2
      have q2 := cell_of_row _ _ 2 _ _ _ hN2
      have hs2 := hb12.size
      have HOB2 := Lib.hid (HOB1.out.later hb12)
      have HBL2 := Lib.hid (HBL1.out.trans (hb12.mono (show base ≤ w1.heap.size by omega)))
      have HN2 := Lib.hid hN2
      clear q0 z0 z1 z2 z3 z4 hb2 hb12 hN2
      go_wp2_with (at_builtin; refine wpList_app1L rfl (.tmp 30) (.tmp 35) rfl base _ (l ++ [UInt8.ofNat o]) (UInt8.ofNat ts.length) _ w2.heap.size rfl rfl (HOB2.out.later (alloc_below _ _)) (heap_alloc_new _ _) (by first | exact HZ2.out | (simp; omega) | simp) (by simp; omega) (by simp; omega) (w2.heap.size + 1) (by simp) ?_; intro g3 cap3 w3 hob3 hg3 hgg3; have hbl3 : Below base w w3 := (HBL2.out.trans ((alloc_below _ _).mono (by omega))).grown hg3 (by simp; omega) (fun k hk => (HOB2.out.ltB k hk).1); have hN3 := app_box hg3 (fun e => hne1 (Option.some.inj e)) (((alloc_below w2 _).block w.heap.size (by omega)).trans HN2.out); have r2 := cell_of_row _ _ 2 _ _ _ hN3; have HBL3 := Lib.hid hbl3; have HOB3 := Lib.hid hob3; clear hbl3 hN3 hg3 hgg3 hob3)

      go_loopw [0, 40] (fun b i wr => ∃ (k : Nat) (q : List UInt8) (g cp : Nat), k ≤ ts.length ∧ i = .int .i64 k ∧ b = .slice (some ⟨g, 0, none⟩) q.length cp ∧ q.length + (encS (ts.drop k)).length ≤ 1000 ∧ Hid (l ++ EN = q ++ encS (ts.drop k)) ∧ Hid (OB wr base (.slice (some ⟨g, 0, none⟩) q.length cp) q) ∧ Hid (Below base w wr)) (fun _ i _ => ts.length - (intOf i).toNat)
      case atStart => exact ⟨0, l ++ [UInt8.ofNat o] ++ [UInt8.ofNat ts.length], g3, cap3, Nat.zero_le _, rfl, by simp, by rw [List.drop_zero]; exact HLN.out, by show _ = _; rw [List.drop_zero, HEN.out, HHD2.out]; simp, by show OB _ _ _ _; simpa using HOB3.out, HBL3⟩
      case round =>
        obtain ⟨k, q, g, cp, hkl, rfl, rfl, hql, HQ, HO, HB⟩ := hrel
        by_cases hlt2 : k < ts.length
        · obtain ⟨b1, o1, rfl, hb1, hts⟩ := h3.out (by omega)
          have hta := CnsAt.get hts hlt2
          have hdp := depK_get ts k hlt2
          have hcd := cntK_get ts k hlt2
          have hed := encS_drop ts k hlt2
          have hokt := okK_get ts k hlt2 HOK.out
          obtain ⟨t, ht⟩ : ∃ t, t = ts[k] := ⟨_, rfl⟩
          rw [← ht] at hta hdp hcd hed hokt
          have hta' := CnAt.keep (Nat.le_refl base) (fun p hp => HB.out.cell hp) t b1 _ hb1 hta
          obtain ⟨A2, c2, g1', g2', g3', hu⟩ := hta'.cells
          have hba := alloc_below wr (Obj.cells #[Value.int IntKind.i64 t.op, Value.int IntKind.i64 t.n, Value.slice A2 t.kids.length c2] 24)
          have hsb : base ≤ wr.heap.size := Nat.le_trans hbs HB.out.size
          have hl2 : q.length + t.enc.length + (encS (ts.drop (k + 1))).length ≤ 1000 := by
            rw [hed, List.length_append] at hql
            omega
          have HV := Lib.hid (IH.out t (by omega) base q _ (.slice A2 t.kids.length c2) _ hokt (by omega) (by omega) (by omega) hb0 (Nat.le_trans hsb hba.size) ((HT.out.below HB.out hb0).on hba) (HO.out.later hba) (hu.keep (Nat.le_refl _) fun p hp => hba.cell (by omega)))
          have HED := Lib.hid hed
          have HBA := Lib.hid hba
          clear hta hta' hts ht hu hcd hed hokt hba hql
          go_wp2_with fail
          refine HV.out.mono ?_
          rintro e w5 ⟨g5, cp5, rfl, hob5, hb5⟩
          have HB5 := Lib.hid (HB.out.trans ((HBA.out.mono hsb).trans hb5))
          have HO5 := Lib.hid hob5
          clear hb5 hob5
          go_wp2_with fail
          go_roundw
          case rel => exact ⟨k + 1, q ++ t.enc, g5, cp5, by omega, by go_num, by rw [List.length_append], by rw [List.length_append]; exact hl2, by show _ = _; rw [HQ.out, HED.out, List.append_assoc], HO5, HB5⟩
          case measure => simp [intOf]; omega
        · have HQ2 : Hid (l ++ EN = q) := by show _ = _; rw [HQ.out, show k = ts.length by omega, List.drop_length, encS, List.append_nil]
          go_wp2_with fail
          go_ret
          rw [HQ2.out]
          exact ⟨g, cp, rfl, HO.out, HB.out⟩
    | false =>
      have HHD2 : Hid (HD = [UInt8.ofNat o]) := by show _ = _; rw [HHD.out, if_neg h0, if_neg (by simp)]
      have HLN : Hid ((l ++ [UInt8.ofNat o]).length + (encS ts).length ≤ 1000) := by show _ ≤ _; rw [HLE.out, HHD2.out] at hle; simp at hle ⊢; omega
      have hd0 : decide (0 < hi) = false := decide_eq_false h0
      go_enter Tryd.func53, Tryd.ntmps53
      go_wp2_with (at_builtin; refine wpList_app1L rfl (.tmp 8) (.tmp 12) rfl base _ l (UInt8.ofNat o) _ (w.heap.size + 1) rfl rfl (HOW.out.later HA2.out) HB1.out HZ.out (by omega) (by simp; omega) (w.heap.size + 2) HS2.out ?_; intro g1 cap1 w1 hob1 hg1 hgg1; have hbl1 : Below base w w1 := (HA2.out.mono hbs).grown hg1 (Nat.le_trans (by omega) (Nat.le_of_eq HS2.out.symm)) (fun k hk => (hlt.out k hk).1); have hN1 := app_box hg1 hltN HN0.out; have hs1 : w.heap.size + 2 ≤ w1.heap.size := Nat.le_trans (Nat.le_of_eq HS2.out.symm) hg1.size; have hne1 : g1 ≠ w.heap.size := by { rcases hgg1 with e | e; exact (fun e2 => hltN (Eq.trans e (congrArg some e2))); omega }; have q0 := cell_of_row _ _ 0 _ _ _ hN1; have z0 : w1.cell? ⟨0, o * 5, none⟩ = some (.string nm) := (hbl1.cell (p := ⟨0, o * 5, none⟩) hb0).trans HKD.out.1; have z1 : w1.cell? ⟨0, o * 5 + 1, none⟩ = some (.bool false) := (hbl1.cell (p := ⟨0, o * 5 + 1, none⟩) hb0).trans HKD.out.2.1; have z2 : w1.cell? ⟨0, o * 5 + 2, none⟩ = some (.int .i64 lo) := (hbl1.cell (p := ⟨0, o * 5 + 2, none⟩) hb0).trans HKD.out.2.2.1; have z3 : w1.cell? ⟨0, o * 5 + 3, none⟩ = some (.int .i64 hi) := (hbl1.cell (p := ⟨0, o * 5 + 3, none⟩) hb0).trans HKD.out.2.2.2.1; have z4 : w1.cell? ⟨0, o * 5 + 4, none⟩ = some (.int .i64 bs) := (hbl1.cell (p := ⟨0, o * 5 + 4, none⟩) hb0).trans HKD.out.2.2.2.2; have HN1 := Lib.hid hN1; have HBL1 := Lib.hid hbl1; have HOB1 := Lib.hid hob1; clear hbl1 hN1 hg1 hgg1 hob1)
      refine (numd_any nm _ lo hi bs _).mono ?_
      rintro e w2 ⟨rfl, hb2⟩
      have hkc2 := new_cell hb2 1 _ rfl
      have hb12 := after_alloc hb2
      have hN2 := (hb12.block w.heap.size (by omega)).trans HN1.out
      have q1 := cell_of_row _ _ 1 _ _ _ hN2
      have q2 := cell_of_row _ _ 2 _ _ _ hN2
      have hs2 := hb12.size
      have HOB2 := Lib.hid (HOB1.out.later hb12)
      have HBL2 := Lib.hid (HBL1.out.trans (hb12.mono (show base ≤ w1.heap.size by omega)))
      have HN2 := Lib.hid hN2
      clear q0 z0 z1 z2 z3 z4 hb2 hb12 hN2
      go_wp2_with fail

      go_loopw [0, 40] (fun b i wr => ∃ (k : Nat) (q : List UInt8) (g cp : Nat), k ≤ ts.length ∧ i = .int .i64 k ∧ b = .slice (some ⟨g, 0, none⟩) q.length cp ∧ q.length + (encS (ts.drop k)).length ≤ 1000 ∧ Hid (l ++ EN = q ++ encS (ts.drop k)) ∧ Hid (OB wr base (.slice (some ⟨g, 0, none⟩) q.length cp) q) ∧ Hid (Below base w wr)) (fun _ i _ => ts.length - (intOf i).toNat)
      case atStart => exact ⟨0, l ++ [UInt8.ofNat o], g1, cap1, Nat.zero_le _, rfl, by simp, by rw [List.drop_zero]; exact HLN.out, by show _ = _; rw [List.drop_zero, HEN.out, HHD2.out]; simp, by show OB _ _ _ _; simpa using HOB2.out, HBL2⟩
      case round =>
        obtain ⟨k, q, g, cp, hkl, rfl, rfl, hql, HQ, HO, HB⟩ := hrel
        by_cases hlt2 : k < ts.length
        · obtain ⟨b1, o1, rfl, hb1, hts⟩ := h3.out (by omega)
          have hta := CnsAt.get hts hlt2
          have hdp := depK_get ts k hlt2
          have hcd := cntK_get ts k hlt2
          have hed := encS_drop ts k hlt2
          have hokt := okK_get ts k hlt2 HOK.out
          obtain ⟨t, ht⟩ : ∃ t, t = ts[k] := ⟨_, rfl⟩
          rw [← ht] at hta hdp hcd hed hokt
          have hta' := CnAt.keep (Nat.le_refl base) (fun p hp => HB.out.cell hp) t b1 _ hb1 hta
          obtain ⟨A2, c2, g1', g2', g3', hu⟩ := hta'.cells
          have hba := alloc_below wr (Obj.cells #[Value.int IntKind.i64 t.op, Value.int IntKind.i64 t.n, Value.slice A2 t.kids.length c2] 24)
          have hsb : base ≤ wr.heap.size := Nat.le_trans hbs HB.out.size
          have hl2 : q.length + t.enc.length + (encS (ts.drop (k + 1))).length ≤ 1000 := by
            rw [hed, List.length_append] at hql
            omega
          have HV := Lib.hid (IH.out t (by omega) base q _ (.slice A2 t.kids.length c2) _ hokt (by omega) (by omega) (by omega) hb0 (Nat.le_trans hsb hba.size) ((HT.out.below HB.out hb0).on hba) (HO.out.later hba) (hu.keep (Nat.le_refl _) fun p hp => hba.cell (by omega)))
          have HED := Lib.hid hed
          have HBA := Lib.hid hba
          clear hta hta' hts ht hu hcd hed hokt hba hql
          go_wp2_with fail
          refine HV.out.mono ?_
          rintro e w5 ⟨g5, cp5, rfl, hob5, hb5⟩
          have HB5 := Lib.hid (HB.out.trans ((HBA.out.mono hsb).trans hb5))
          have HO5 := Lib.hid hob5
          clear hb5 hob5
          go_wp2_with fail
          go_roundw
          case rel => exact ⟨k + 1, q ++ t.enc, g5, cp5, by omega, by go_num, by rw [List.length_append], by rw [List.length_append]; exact hl2, by show _ = _; rw [HQ.out, HED.out, List.append_assoc], HO5, HB5⟩
          case measure => simp [intOf]; omega
        · have HQ2 : Hid (l ++ EN = q) := by show _ = _; rw [HQ.out, show k = ts.length by omega, List.drop_length, encS, List.append_nil]
          go_wp2_with fail
          go_ret
          rw [HQ2.out]
          exact ⟨g, cp, rfl, HO.out, HB.out⟩
theorem wri_any : ∀ (n : Nat) (c : Cn), c.dep < n → WrC c
  | 0, c, h => absurd h (by omega)
  | n + 1, c, h => wri_step c fun c' h' => wri_any n c' (by omega)
end Go.Proofs.YtjkbfogjfgnhiaaDoor
