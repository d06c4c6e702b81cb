/-
  The walk of text and Text.
-/
import Derived.Test.YtjkbfogjfgnhiaaDoorJns
namespace Go.Proofs.YtjkbfogjfgnhiaaDoor
set_option linter.unusedVariables false
set_option linter.unusedSimpArgs false
open Go.RowKit

def nmL (x : Kd) : List UInt8 := x.nm.data.toList
mutual
/-- The text of a condition. -/
def Cn.txt : Cn → List UInt8
  | .mk op n kids => if 0 < (kindOf op.toNat).hi then nmL (kindOf op.toNat) ++ 32 :: decF n.toNat else if (kindOf op.toNat).kd then nmL (kindOf op.toNat) ++ 40 :: (jn (txtS kids) ++ [41]) else nmL (kindOf op.toNat)
def txtS : List Cn → List (List UInt8) | [] => [] | t :: ts => t.txt :: txtS ts
end
theorem txt_parts (t : Cn) : t.txt = if 0 < (kindOf t.op.toNat).hi then nmL (kindOf t.op.toNat) ++ 32 :: decF t.n.toNat else if (kindOf t.op.toNat).kd then nmL (kindOf t.op.toNat) ++ 40 :: (jn (txtS t.kids) ++ [41]) else nmL (kindOf t.op.toNat) := by
  cases t; rw [Cn.txt]; rfl
theorem txtS_length : ∀ ts : List Cn, (txtS ts).length = ts.length
  | [] => by simp [txtS]
  | t :: ts => by simp [txtS, txtS_length ts]
theorem txtS_take : ∀ (ts : List Cn) (k : Nat) (h : k < ts.length), (txtS ts).take (k + 1) = (txtS ts).take k ++ [ts[k].txt]
  | t :: ts, 0, _ => by simp [txtS]
  | t :: ts, k + 1, h => by
    have := txtS_take ts k (by simpa using h)
    simp only [txtS, List.take_succ_cons, this]
    simp
theorem nm_len (k : Nat) : (nmL (kindOf k)).length ≤ 6 := by
  match k with
  | 0 | 1 | 2 | 3 | 4 | 5 | 6 => decide
  | n + 7 => show (nmL (kindOf 7)).length ≤ 6; decide
theorem decF_len (n : Nat) : (decF n).length ≤ 2 := by unfold decF; split <;> simp
theorem jn_len (ls : List (List UInt8)) : (jn ls).length ≤ sumL ls + 2 * ls.length := by
  cases ls with
  | nil => simp [jn]
  | cons x r =>
    rw [jn_rest, List.length_append, rest_len]
    simp only [sumL, List.map_cons, List.sum_cons, List.length_cons]
    omega
mutual
theorem Cn.txt_len : ∀ t : Cn, t.txt.length + 2 ≤ 11 * t.cnt
  | .mk op n kids => by
    have h1 := nm_len op.toNat
    have h2 := decF_len n.toNat
    have h3 := jn_len (txtS kids)
    have h4 := txtS_len kids
    have h5 := txtS_length kids
    have h6 := cntK_len kids
    rw [Cn.txt, Cn.cnt]
    split
    · simp only [List.length_append, List.length_cons]; omega
    · split
      · simp only [List.length_append, List.length_cons, List.length_nil]; omega
      · omega
theorem txtS_len : ∀ ts : List Cn, sumL (txtS ts) + 2 * ts.length ≤ 11 * cntK ts
  | [] => by simp [txtS, sumL, cntK]
  | t :: ts => by
    have h1 := Cn.txt_len t
    have h2 := txtS_len ts
    rw [txtS, cntK]
    simp only [sumL, List.map_cons, List.sum_cons, List.length_cons] at h2 ⊢
    omega
end

def sv (l : List UInt8) : Value := .string ⟨l.toArray⟩
/-- An own row of strings. -/
def OS (w : World) (base : Nat) (v : Value) (ls : List (List UInt8)) : Prop := w.ownsRow base 9 1 v ls.length (ls.map sv)
theorem info9 : (Tryd.prog.info? 9).map (fun i => (i.zero, i.size, i.bytes)) = some (some (.string ⟨#[]⟩), 1, 16) := by kernel_rfl
theorem OS.nil (w : World) (base : Nat) : OS w base (.slice none 0 0) [] := World.ownsRow_nil ..
theorem OS.later {w W : World} {base : Nat} {v : Value} {ls : List (List UInt8)} (h : OS w base v ls) (hb : Below w.heap.size w W) : OS W base v ls :=
  World.ownsRow.kept (row := none) h ⟨hb.os, hb.tape, hb.output, hb.size, fun k hk _ => hb.block k hk⟩ (by
    cases hv : v.ownBlock with
    | none => exact .inl rfl
    | some k => exact .inr (by simp))
theorem OS.value {w : World} {base : Nat} {v : Value} {ls : List (List UInt8)} (h : OS w base v ls) : ∃ A c, v = .slice A ls.length c := by
  rcases h.2 with ⟨rfl, h0⟩ | ⟨g, cap, cur, rfl, _⟩
  · exact ⟨none, 0, by rw [h0]⟩
  · exact ⟨_, _, rfl⟩
theorem OS.ql {w : World} {base : Nat} {v : Value} {ls : List (List UInt8)} (h : OS w base v ls) : QL w w.heap.size v ls := by
  rcases id h.2 with ⟨rfl, h0⟩ | ⟨g, cap, cur, rfl, hb, hg, hn, hm, hs, ht⟩
  · exact ⟨none, 0, by rw [h0], by omega, Nat.zero_le _, fun hp => absurd hp (by omega)⟩
  · refine ⟨some ⟨g, 0, none⟩, cap, rfl, hn, hm, fun _ => ⟨g, 0, rfl, ?_, fun k hk => ?_⟩⟩
    · rcases Nat.lt_or_ge g w.heap.size with hlt | hge
      · exact hlt
      · rw [Array.getElem?_eq_none hge] at hg; cases hg
    · have := World.ownsRow.cellAt (w := w) (base := base) (e := 9) (size := 1) (g := g) (n := ls.length) (cap := cap) (xs := ls.map sv) h (0 + k) (by omega)
      rw [this, Nat.zero_add]
      simp [List.getElem?_map, List.getElem?_eq_getElem hk, List.getD, sv]
theorem wpList_appQ {ops : Array Oper} {rest : List Oper} {o : Oper} {a : Act} {W : World} {Q : Exit → Act → World → Prop} (hgd : o.guard = none) (s x : Operand)
    (ho : o.op = .call { callee := .builtin .append, args := #[s, x], argTypes := #[106, 106] }) (base : Nat) (v : Value) (ls : List (List UInt8)) (l : List UInt8) (B : Nat)
    (hs : a.eval s = v) (hx : a.eval x = .slice (some ⟨B, 0, none⟩) 1 1) (hown : OS W base v ls) (hB : W.heap[B]? = some (.cells #[sv l] 9 (0, 0)))
    (hlen : ls.length ≤ 1000) (hbase : base ≤ W.heap.size)
    (h : ∀ v' w', OS w' base v' (ls ++ [l]) → Below base W w' → wpList Tryd.prog ops Q rest (a.put o.dst v') w') : wpList Tryd.prog ops Q (o :: rest) a W := by
  obtain ⟨i0, hi0, hz0, hz1, hz2⟩ := info_parts info9
  refine wpList_append_lies W hgd s x 106 ho base 9 i0 (.string ⟨#[]⟩) 1 16 Tryd.underlying106 hi0 hz0 hz1 hz2 rfl (by omega) v ls.length (ls.map sv) hs hown ⟨B, 0, none⟩ 1 1 [sv l] hx rfl
    (World.news_of_block (cs := #[sv l]) hB) (by intro y hy; simp at hy; subst hy; rfl) (by omega) (by simp only [maxLen]; omega) (by omega) hbase W.heap.size rfl fun g cap w' k1 k2 k3 k4 => ?_
  refine h _ w' ?_ ((Below.refl _ _).grown k2 hbase (fun k hk => (hown.lt k hk).1))
  unfold OS
  rw [List.length_append, List.map_append]
  exact k1

theorem bsz (l : List UInt8) : ByteArray.size ⟨l.toArray⟩ = l.length := by simp [ByteArray.size]
theorem add_run (a b : ByteArray) (h : a.size + b.size ≤ 1000000) (W : World) : Sem.run Tryd.prog (Op.stringOp .add a b) W = .ok (.string (a ++ b)) W := run_string_add_sum W a b (by omega)
theorem app_mk (a b : List UInt8) : (⟨a.toArray⟩ : ByteArray) ++ ⟨b.toArray⟩ = ⟨(a ++ b).toArray⟩ := by
  apply ByteArray.ext
  simp
theorem nm_mk (b : ByteArray) : b = ⟨b.data.toList.toArray⟩ := by cases b; simp

theorem itoa_q (n : Nat) (hn : n < 100) (w : World) : Calls Tryd.prog 86 #[.int .i64 (n : Int)] w fun e w' => e = .returned (.string ⟨(decF n).toArray⟩) ∧ w' = w := (itoa_any n hn w).mono fun _ _ ⟨h1, h2⟩ => ⟨h1, h2.symm⟩
def TxtC (c : Cn) : Prop := ∀ (v : Value) (w : World), c.ok = true → c.cnt ≤ 400 → KL w w.heap.size v c.kids → Tb w →
  Calls Tryd.prog 64 #[.agg #[.int .i64 c.op, .int .i64 c.n, v]] w fun e w' => e = .returned (.string ⟨c.txt.toArray⟩) ∧ Below w.heap.size w w'

set_option maxRecDepth 100000 in
set_option maxHeartbeats 6400000 in
theorem txt_step (c : Cn) (ih : ∀ c' : Cn, c'.dep < c.dep → TxtC c') : TxtC c := by
  intro v w hok hcn hk hT
  have hp := ok_parts c
  rw [hok] at hp
  have hp' : okN c.op c.n c.kids.length = true ∧ okK c.kids = true := by simpa using hp.symm
  have ho := okN_op hp'.1
  have hvn := hp'.1
  have hkd := dep_kids c
  have hkc := cnt_kids c
  have htx := txt_parts c
  have IH := Lib.hid ih
  clear ih hp hok
  obtain ⟨op, n, ts⟩ := c
  simp only [Cn.op, Cn.n, Cn.kids] at *
  generalize (Cn.mk op n ts).txt = TX at *
  generalize (Cn.mk op n ts).cnt = CN at *
  generalize (Cn.mk op n ts).dep = DD at *
  obtain ⟨A, cap, rfl, h1, h2, h3⟩ := hk
  unfold maxLen at h2
  obtain ⟨hop, ho2, ho4, ho5, ho6, hok6, ho0⟩ := ho
  obtain ⟨o, rfl⟩ := Int.eq_ofNat_of_zero_le (show 0 ≤ op by omega)
  have ho8 : o < 8 := by omega
  have hn51 : n ≤ 51 := by omega
  obtain ⟨m, rfl⟩ := Int.eq_ofNat_of_zero_le (show 0 ≤ n by omega)
  have hm51 : m < 100 := by omega
  have hkp : (kindOf o).kd = true → 0 < ts.length := by
    intro hk
    have : o = 6 ∨ o = 7 := by
      have : ∀ q : Fin 8, (kindOf q.val).kd = true → q.val = 6 ∨ q.val = 7 := by decide
      exact this ⟨o, ho8⟩ hk
    exact (ho6 (by omega)).2
  have HOK := Lib.hid hp'.2
  have HKP := Lib.hid hkp
  obtain ⟨z0, z1, z2, z3, z4⟩ := hT.kd o ho8
  have hz := hT.size
  have HTX : Hid (TX = if 0 < (kindOf o).hi then nmL (kindOf o) ++ 32 :: decF m else if (kindOf o).kd then nmL (kindOf o) ++ 40 :: (jn (txtS ts) ++ [41]) else nmL (kindOf o)) := htx
  have HT := Lib.hid hT
  have hnl := nm_len o
  generalize kindOf o = x at *
  obtain ⟨nm, kd, lo, hi, bs⟩ := x
  have hns : nm.size ≤ 6 := by simpa [nmL] using hnl
  have HNM : Hid (nmL ⟨nm, kd, lo, hi, bs⟩ = nm.data.toList) := rfl
  clear hnl
  have hb0 := alloc_below w (bx (o : Int) (m : Int) A ts.length cap)
  have y0 : (w.alloc (Obj.cells #[Value.int IntKind.i64 (o : Int), Value.int IntKind.i64 (m : Int), Value.slice A ts.length cap] 24)).cell? ⟨0, o * 5, none⟩ = some (.string nm) := (hb0.cell (p := ⟨0, o * 5, none⟩) hz).trans z0
  have y1 : (w.alloc (Obj.cells #[Value.int IntKind.i64 (o : Int), Value.int IntKind.i64 (m : Int), Value.slice A ts.length cap] 24)).cell? ⟨0, o * 5 + 1, none⟩ = some (.bool kd) := (hb0.cell (p := ⟨0, o * 5 + 1, none⟩) hz).trans z1
  have y2 : (w.alloc (Obj.cells #[Value.int IntKind.i64 (o : Int), Value.int IntKind.i64 (m : Int), Value.slice A ts.length cap] 24)).cell? ⟨0, o * 5 + 2, none⟩ = some (.int .i64 lo) := (hb0.cell (p := ⟨0, o * 5 + 2, none⟩) hz).trans z2
  have y3 : (w.alloc (Obj.cells #[Value.int IntKind.i64 (o : Int), Value.int IntKind.i64 (m : Int), Value.slice A ts.length cap] 24)).cell? ⟨0, o * 5 + 3, none⟩ = some (.int .i64 hi) := (hb0.cell (p := ⟨0, o * 5 + 3, none⟩) hz).trans z3
  have y4 : (w.alloc (Obj.cells #[Value.int IntKind.i64 (o : Int), Value.int IntKind.i64 (m : Int), Value.slice A ts.length cap] 24)).cell? ⟨0, o * 5 + 4, none⟩ = some (.int .i64 bs) := (hb0.cell (p := ⟨0, o * 5 + 4, none⟩) hz).trans z4
  have HN0 := Lib.hid (heap_alloc_new w (bx (o : Int) (m : Int) A ts.length cap))
  have HS0 := Lib.hid (alloc_size w (bx (o : Int) (m : Int) A ts.length cap))
  have HB0 := Lib.hid hb0
  have HLT0 := Lib.hid (show w.heap.size < (w.alloc (bx (o : Int) (m : Int) A ts.length cap)).heap.size by rw [HS0.out]; omega)
  simp only at HTX HKP
  clear hT z0 z1 z2 z3 z4 hb0 hp' hvn hop ho2 ho4 ho5 ho6 hok6 htx hkp ho0
  by_cases h0 : 0 < hi
  · have HR : Hid (TX = nmL ⟨nm, kd, lo, hi, bs⟩ ++ 32 :: decF m) := by show _ = _; rw [HTX.out, if_pos h0]
    go_enter Tryd.func64, Tryd.ntmps64
    go_wp2_with fail
    refine (numd_any nm kd lo hi bs _).mono ?_
    rintro e w2 ⟨rfl, hb2⟩
    have k0 : w2.cell? ⟨w.heap.size + 1, 0, none⟩ = some (.string nm) := by have h := new_cell hb2 0 _ rfl; rw [alloc_size] at h; exact h
    have hb12 := after_alloc hb2
    have hN2 := (hb12.block w.heap.size HLT0.out).trans HN0.out
    have q1 := cell_of_row _ _ 1 _ _ _ hN2
    have HB2 := Lib.hid (HB0.out.trans (hb12.mono HB0.out.size))
    clear hN2 hb2 hb12 y0 y1 y2 y3 y4
    have hd2 := decF_len m
    have hA1 : ∀ W : World, Sem.run Tryd.prog (Op.stringOp .add nm ⟨#[32]⟩) W = .ok (.string (nm ++ ⟨#[32]⟩)) W := (add_run _ _ (by show nm.size + 1 ≤ _; omega))
    have hA2 : ∀ W : World, Sem.run Tryd.prog (Op.stringOp .add (nm ++ ⟨#[32]⟩) ⟨(decF m).toArray⟩) W = .ok (.string (nm ++ ⟨#[32]⟩ ++ ⟨(decF m).toArray⟩)) W := (add_run _ _ (by rw [ByteArray.size_append, bsz (decF m)]; show nm.size + 1 + _ ≤ _; omega))
    have HEQ : Hid (nm ++ ⟨#[32]⟩ ++ ⟨(decF m).toArray⟩ = ⟨TX.toArray⟩) := by
      show _ = _
      rw [HR.out, HNM.out]
      apply ByteArray.ext
      simp
    generalize nm ++ ⟨#[32]⟩ = Z1 at *
    generalize Z1 ++ ⟨(decF m).toArray⟩ = Z2 at *
    clear hd2 hns
    go_wp2_with fail
    go_quiet ((go_at_call 86; exact Calls.quiet_of_same (itoa_q m hm51 _)))
    go_wp2_with fail
    go_ret
    exact ⟨by rw [HEQ.out]; rfl, below_drewN HB2.out _⟩
  · have hd0 : decide (0 < hi) = false := decide_eq_false h0
    cases kd with
    | false =>
      have HR : Hid (TX = nmL ⟨nm, false, lo, hi, bs⟩) := by show _ = _; rw [HTX.out, if_neg h0, if_neg (by simp)]
      have HEQ : Hid (nm = ⟨TX.toArray⟩) := by show _ = _; rw [HR.out, HNM.out]
      go_enter Tryd.func64, Tryd.ntmps64
      go_wp2_with fail
      refine (numd_any nm false lo hi bs _).mono ?_
      rintro e w2 ⟨rfl, hb2⟩
      have k0 : w2.cell? ⟨w.heap.size + 1, 0, none⟩ = some (.string nm) := by have h := new_cell hb2 0 _ rfl; rw [alloc_size] at h; exact h
      have k1 : w2.cell? ⟨w.heap.size + 1, 1, none⟩ = some (.bool false) := by have h := new_cell hb2 1 _ rfl; rw [alloc_size] at h; exact h
      have hb12 := after_alloc hb2
      have HB2 := Lib.hid (HB0.out.trans (hb12.mono HB0.out.size))
      clear hb2 hb12 y0 y1 y2 y3 y4
      go_wp2_with fail
      go_ret
      exact ⟨congrArg (fun z => Ending.returned (Value.string z)) HEQ.out, HB2.out⟩
    | true =>
      have HR : Hid (TX = nmL ⟨nm, true, lo, hi, bs⟩ ++ 40 :: (jn (txtS ts) ++ [41])) := by show _ = _; rw [HTX.out, if_neg h0, if_pos rfl]
      have hpos : 0 < ts.length := HKP.out rfl
      go_enter Tryd.func64, Tryd.ntmps64
      go_wp2_with fail
      refine (numd_any nm true lo hi bs _).mono ?_
      rintro e w2 ⟨rfl, hb2⟩
      have k0 : w2.cell? ⟨w.heap.size + 1, 0, none⟩ = some (.string nm) := by have h := new_cell hb2 0 _ rfl; rw [alloc_size] at h; exact h
      have k1 : w2.cell? ⟨w.heap.size + 1, 1, none⟩ = some (.bool true) := by have h := new_cell hb2 1 _ rfl; rw [alloc_size] at h; exact h
      have hs12 : w.heap.size + 1 < w2.heap.size := by have := hb2.size; simp at this; omega
      have hb12 := after_alloc hb2
      have hN2 := (hb12.block w.heap.size HLT0.out).trans HN0.out
      have q2 := cell_of_row _ _ 2 _ _ _ hN2
      have HB2 := Lib.hid (HB0.out.trans (hb12.mono HB0.out.size))
      clear hb2 hb12 hN2 y0 y1 y2 y3 y4
      go_wp2_with fail
      go_loopw [4, 27] (fun q i wr => ∃ (k : Nat), k ≤ ts.length ∧ i = .int .i64 k ∧ Hid (OS wr w2.heap.size q ((txtS ts).take k)) ∧ Hid (Below w2.heap.size w2 wr)) (fun _ i _ => ts.length - (intOf i).toNat)
      case atStart => exact ⟨0, Nat.zero_le _, rfl, by show OS _ _ _ _; rw [List.take_zero]; exact OS.nil _ _, Below.refl _ _⟩
      case round =>
        obtain ⟨k, hkl, rfl, HO, HB⟩ := hrel
        have HBW := Lib.hid (HB2.out.trans (HB.out.mono (show w.heap.size ≤ w2.heap.size by omega)))
        by_cases hlt : k < ts.length
        · obtain ⟨b1, o1, rfl, hb1, hts⟩ := h3.out (by omega)
          have hta := CnsAt.get hts hlt
          have hdp := depK_get ts k hlt
          have hcd := cntK_get ts k hlt
          have htk := txtS_take ts k hlt
          have hokt := okK_get ts k hlt HOK.out
          obtain ⟨t, ht⟩ : ∃ t, t = ts[k] := ⟨_, rfl⟩
          rw [← ht] at hta hdp hcd htk hokt
          have hta' := CnAt.keep HBW.out.size (fun p hp => HBW.out.cell hp) t b1 _ hb1 hta
          obtain ⟨A2, c2, g1, g2, g3, hu⟩ := hta'.cells
          have hba := alloc_below wr (Obj.cells #[Value.int IntKind.i64 t.op, Value.int IntKind.i64 t.n, Value.slice A2 t.kids.length c2] 24)
          have HV := Lib.hid (IH.out t (by omega) (.slice A2 t.kids.length c2) _ hokt (by omega) (hu.on hba) ((HT.out.on HBW.out).on hba))
          have HTK := Lib.hid htk
          have HBA := Lib.hid hba
          have hsr := HB.out.size
          obtain ⟨A5, c5, hq5⟩ := HO.out.value
          have htl : ((txtS ts).take k).length = k := by rw [List.length_take, txtS_length]; omega
          rw [htl] at hq5
          subst hq5
          have HTL := Lib.hid htl
          clear hta hta' hts ht hu hcd htk hokt hba htl
          generalize t.txt = x at *
          go_wp2_with fail
          refine HV.out.mono ?_
          rintro e w5 ⟨rfl, hb5⟩
          have hb05 := HBA.out.trans (hb5.mono HBA.out.size)
          have HO5 := Lib.hid ((HO.out.later hb05).later (alloc_below w5 (Obj.cells #[sv x] 9)))
          have hs5 := hb05.size
          have HB5 := Lib.hid ((HB.out.trans (hb05.mono hsr)).trans ((alloc_below w5 (Obj.cells #[sv x] 9)).mono (by omega)))
          have HN5 := Lib.hid (heap_alloc_new w5 (Obj.cells #[sv x] 9))
          have hz5 : w2.heap.size ≤ (w5.alloc (Obj.cells #[sv x] 9)).heap.size := by rw [alloc_size]; omega
          have hl5 : ((txtS ts).take k).length ≤ 1000 := by rw [HTL.out]; have := cntK_len ts; omega
          have HZ5 := Lib.hid hz5
          have HL5 := Lib.hid hl5
          clear hb5 hb05 hz5 hl5
          go_wp2_with (at_builtin; refine wpList_appQ rfl (.tmp 31) (.tmp 34) rfl w2.heap.size _ ((txtS ts).take k) x w5.heap.size rfl rfl HO5.out HN5.out HL5.out HZ5.out ?_; intro v6 w6 hos6 hb6; have HO6 := Lib.hid hos6; have HB6 := Lib.hid (HB5.out.trans hb6); clear hos6 hb6)
          go_roundw
          case rel => exact ⟨k + 1, by omega, by go_num, by show OS _ _ _ _; rw [HTK.out]; exact HO6.out, HB6⟩
          case measure => simp [intOf]; omega
        · have hos := HO.out
          rw [show k = ts.length by omega, show (txtS ts).take ts.length = txtS ts by rw [← txtS_length, List.take_length]] at hos
          obtain ⟨A5, c5, hq5⟩ := hos.value
          subst hq5
          have hql := hos.ql
          have hjl := txtS_len ts
          have hjn := jn_len (txtS ts)
          have hcl := cntK_len ts
          have hll := txtS_length ts
          have HJ : Hid (∀ W, Below wr.heap.size wr W → Calls Tryd.prog 87 #[.slice A5 (txtS ts).length c5, .string ⟨#[44, 32]⟩] W fun e w' => e = .returned (.string ⟨(jn (txtS ts)).toArray⟩) ∧ Below W.heap.size W w') := fun W hW => join_any _ _ W (hql.on hW) (by omega) (by omega) (by omega)
          have hjs : (jn (txtS ts)).length ≤ 10000 := by omega
          have hA1 : ∀ W : World, Sem.run Tryd.prog (Op.stringOp .add nm ⟨#[40]⟩) W = .ok (.string (nm ++ ⟨#[40]⟩)) W := (add_run _ _ (by show nm.size + 1 ≤ _; omega))
          have hA2 : ∀ W : World, Sem.run Tryd.prog (Op.stringOp .add (nm ++ ⟨#[40]⟩) ⟨(jn (txtS ts)).toArray⟩) W = .ok (.string (nm ++ ⟨#[40]⟩ ++ ⟨(jn (txtS ts)).toArray⟩)) W := (add_run _ _ (by rw [ByteArray.size_append, bsz (jn (txtS ts))]; show nm.size + 1 + _ ≤ _; omega))
          have hA3 : ∀ W : World, Sem.run Tryd.prog (Op.stringOp .add (nm ++ ⟨#[40]⟩ ++ ⟨(jn (txtS ts)).toArray⟩) ⟨#[41]⟩) W = .ok (.string (nm ++ ⟨#[40]⟩ ++ ⟨(jn (txtS ts)).toArray⟩ ++ ⟨#[41]⟩)) W := (add_run _ _ (by rw [ByteArray.size_append, ByteArray.size_append, bsz (jn (txtS ts))]; show nm.size + 1 + _ + 1 ≤ _; omega))
          have HEQ : Hid (nm ++ ⟨#[40]⟩ ++ ⟨(jn (txtS ts)).toArray⟩ ++ ⟨#[41]⟩ = ⟨TX.toArray⟩) := by
            show _ = _
            rw [HR.out, HNM.out]
            apply ByteArray.ext
            simp
          have n0 := (HB.out.cell (p := ⟨w.heap.size + 1, 0, none⟩) hs12).trans k0
          have hsr := HB.out.size
          generalize (txtS ts).length = TL at *
          generalize jn (txtS ts) = J at *
          generalize nm ++ ⟨#[40]⟩ = Z1 at *
          generalize Z1 ++ ⟨J.toArray⟩ = Z2 at *
          generalize Z2 ++ ⟨#[41]⟩ = Z3 at *
          have hbd := Lib.hid ((Below.refl wr.heap.size wr).drew)
          clear hns hos hql hjl hjn hcl hjs hll q2 k0 k1
          go_wp2_with fail
          go_region_held3 (fun w' => w'.cell? ⟨w.heap.size + 1, 0, none⟩ = some (.string nm))
            (first
              | (go_keep; done)
              | exact (hbx.cell (p := ⟨w.heap.size + 1, 0, none⟩) (show w.heap.size + 1 < wr.heap.size by omega)).trans n0)
            (first
              | (go_at_call 87; (with_reducible refine (HJ.out _ hbd.out).mono ?_); rintro e wx ⟨rfl, hbx⟩))
          go_wp2_with fail
          go_ret
          exact ⟨by rw [HEQ.out]; rfl, HBW.out.trans ((hbd.out.trans hbx).mono HBW.out.size)⟩
theorem txt_any : ∀ (n : Nat) (c : Cn), c.dep < n → TxtC c
  | 0, c, h => absurd h (by omega)
  | n + 1, c, h => txt_step c fun c' h' => txt_any n c' (by omega)

/-- What Text answers. -/
def txtM (c : Cn) : List UInt8 := if chkC 1 3 c = 0 then c.txt else []
set_option maxRecDepth 100000 in
set_option maxHeartbeats 1600000 in
theorem ptxt_any (c : Cn) (v : Value) (w : World) (hk : KL w w.heap.size v c.kids) (hT : Tb w) (hc : c.cnt ≤ 400) :
    Calls Tryd.prog 35 #[.agg #[.int .i64 c.op, .int .i64 c.n, v]] w fun e w' => e = .returned (.string ⟨(txtM c).toArray⟩) ∧ Below w.heap.size w w' := by
  obtain ⟨A, cap, rfl, h1, h2, h3⟩ := id hk
  have ha := alloc_below w (bx c.op c.n A c.kids.length cap)
  have HN0 := Lib.hid (heap_alloc_new w (bx c.op c.n A c.kids.length cap))
  have HLT0 := Lib.hid (show w.heap.size < (w.alloc (bx c.op c.n A c.kids.length cap)).heap.size by rw [alloc_size]; omega)
  have HV := Lib.hid (pchk_any c _ _ (hk.on ha) (hT.on ha) hc)
  have HK := Lib.hid (hk.on ha)
  have HT := Lib.hid (hT.on ha)
  have HA := Lib.hid ha
  clear hk hT ha h3
  by_cases h0 : chkC 1 3 c = 0
  · have HR : Hid (txtM c = c.txt) := if_pos h0
    have hok := chk_ok h0
    have HX := Lib.hid fun (W : World) hu hT => txt_any (c.dep + 1) c (by omega) (.slice A c.kids.length cap) W hok hc hu hT
    rw [h0] at HV
    clear h0 hok
    go_enter Tryd.func35, Tryd.ntmps35
    go_wp2_with fail
    refine HV.out.mono ?_
    rintro e w1 ⟨rfl, hb1⟩
    have k0 := (hb1.block w.heap.size HLT0.out).trans HN0.out
    have g0 := cell_of_row _ _ 0 _ _ _ k0
    have g1 := cell_of_row _ _ 1 _ _ _ k0
    have g2 := cell_of_row _ _ 2 _ _ _ k0
    have HB1 := Lib.hid (HA.out.trans (hb1.mono HA.out.size))
    have HX1 := Lib.hid (HX.out w1 (HK.out.on hb1) (HT.out.on hb1))
    clear hb1 k0
    go_wp2_with fail
    refine HX1.out.mono ?_
    rintro e w2 ⟨rfl, hb2⟩
    go_wp2_with fail
    go_ret
    exact ⟨by rw [HR.out]; rfl, HB1.out.trans (hb2.mono HB1.out.size)⟩
  · have HR : Hid (txtM c = []) := if_neg h0
    generalize chkC 1 3 c = E at *
    have he1 : (E != 0) = true := by simpa using h0
    have he2 : (E == 0) = false := by simpa using h0
    have he3 : decide (E = 0) = false := decide_eq_false h0
    go_enter Tryd.func35, Tryd.ntmps35
    go_wp2_with fail
    refine HV.out.mono ?_
    rintro e w1 ⟨rfl, hb1⟩
    go_wp2_with fail
    go_ret
    exact ⟨by rw [HR.out]; rfl, HA.out.trans (hb1.mono HA.out.size)⟩
end Go.Proofs.YtjkbfogjfgnhiaaDoor
