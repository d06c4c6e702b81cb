/-
  With more rights what is permitted stays permitted: mathematics, and the walk of the law AccessMore.
-/
import Derived.Test.YtjkbfogjfgnhiaaDoorAlw
namespace Go.Proofs.YtjkbfogjfgnhiaaDoor
set_option linter.unusedVariables false
set_option linter.unusedSimpArgs false
open Go.RowKit

theorem ofInt_wrap (z : Int) : BitVec.ofInt 64 (IntKind.i64.wrap z) = BitVec.ofInt 64 z := by
  apply BitVec.eq_of_toNat_eq
  have h1 := ofInt_nat (IntKind.i64.wrap z)
  have h2 := ofInt_nat z
  have h3 : IntKind.i64.wrap z % 18446744073709551616 = z % 18446744073709551616 := by
    simp [IntKind.wrap, IntKind.signed, IntKind.bits]
    try split <;> omega
    try omega
  omega
theorem ofInt_toNat (v : BitVec 64) : BitVec.ofInt 64 (v.toNat : Int) = v := by
  apply BitVec.eq_of_toNat_eq
  have := ofInt_nat (v.toNat : Int)
  have := v.isLt
  omega
theorem ofInt_or (x y : Int) : BitVec.ofInt 64 (bits .or .i64 x y) = BitVec.ofInt 64 x ||| BitVec.ofInt 64 y := by
  show BitVec.ofInt 64 (IntKind.i64.wrap ((BitVec.ofInt 64 x ||| BitVec.ofInt 64 y).toNat : Int)) = _
  rw [ofInt_wrap, ofInt_toNat]
theorem ofInt_and (x y : Int) : BitVec.ofInt 64 (bits .and .i64 x y) = BitVec.ofInt 64 x &&& BitVec.ofInt 64 y := by
  show BitVec.ofInt 64 (IntKind.i64.wrap ((BitVec.ofInt 64 x &&& BitVec.ofInt 64 y).toNat : Int)) = _
  rw [ofInt_wrap, ofInt_toNat]
theorem tb_or (x y : Int) (n : Nat) (hn : n < 9) (h : tbI x n = true) : tbI (bits .or .i64 x y) n = true := by
  rw [← tb_ofInt _ n hn] at h ⊢
  rw [ofInt_or, BitVec.toNat_or, Nat.testBit_or, h]
  rfl
theorem lv_or (l m n : Int) (h : lvB l n = true) : lvB (bits .or .i64 l m) n = true := by
  unfold lvB at h ⊢
  have h1 : bits .and .i64 l n = n := by simpa using h
  have h2 : BitVec.ofInt 64 n = BitVec.ofInt 64 l &&& BitVec.ofInt 64 n := by
    have := ofInt_and l n
    rw [h1] at this
    exact this
  have h3 : (BitVec.ofInt 64 l ||| BitVec.ofInt 64 m) &&& BitVec.ofInt 64 n = BitVec.ofInt 64 l &&& BitVec.ofInt 64 n := by
    rw [← h2]
    apply BitVec.eq_of_getLsbD_eq
    intro i hi
    have h4 := congrArg (fun v => v.getLsbD i) h2
    simp only [BitVec.getLsbD_and, BitVec.getLsbD_or] at h4 ⊢
    revert h4
    cases (BitVec.ofInt 64 l).getLsbD i <;> cases (BitVec.ofInt 64 m).getLsbD i <;> cases (BitVec.ofInt 64 n).getLsbD i <;> simp
  have h5 : bits .and .i64 (bits .or .i64 l m) n = bits .and .i64 l n := by
    show IntKind.i64.wrap ((BitVec.ofInt 64 (bits .or .i64 l m) &&& BitVec.ofInt 64 n).toNat : Int) = IntKind.i64.wrap ((BitVec.ofInt 64 l &&& BitVec.ofInt 64 n).toNat : Int)
    rw [ofInt_or, h3]
  rw [h5, h1]
  simp

/-- What the law lays together. -/
def Sc.plus (s m : Sc) : Sc := ⟨bits .or .i64 s.pins m.pins, bits .or .i64 s.keys m.keys, if s.state < m.state then m.state else s.state, bits .or .i64 s.level m.level⟩
mutual
theorem Cn.sat_plus (s m : Sc) : ∀ c : Cn, c.ok = true → c.sat s = true → c.sat (s.plus m) = true
  | .mk op n kids, hok, h => by
    rw [Cn.ok, Bool.and_eq_true] at hok
    have ho := okN_op hok.1
    have ha := allS_plus s m kids hok.2
    have hy := anyS_plus s m kids hok.2
    rw [Cn.sat] at h ⊢
    obtain ⟨hop, h2, h4, h5, h6, h7⟩ := ho
    rcases hop with rfl | rfl | rfl | rfl | rfl | rfl | rfl | rfl
    · simp at h
    · simp
    · simp at h ⊢; exact tb_or _ _ _ (by omega) h
    · simp at h ⊢; exact tb_or _ _ _ (by omega) h
    · simp at h ⊢; unfold Sc.plus; simp only; split <;> omega
    · simp at h ⊢; exact lv_or _ _ _ h
    · simp at h ⊢; exact ha h
    · simp at h ⊢; exact hy h
theorem allS_plus (s m : Sc) : ∀ ts : List Cn, okK ts = true → allS s ts = true → allS (s.plus m) ts = true
  | [], _, _ => by simp [allS]
  | t :: ts, hok, h => by
    rw [okK, Bool.and_eq_true] at hok
    rw [allS, Bool.and_eq_true] at h ⊢
    exact ⟨Cn.sat_plus s m t hok.1 h.1, allS_plus s m ts hok.2 h.2⟩
theorem anyS_plus (s m : Sc) : ∀ ts : List Cn, okK ts = true → anyS s ts = true → anyS (s.plus m) ts = true
  | [], _, h => by simp [anyS] at h
  | t :: ts, hok, h => by
    rw [okK, Bool.and_eq_true] at hok
    rw [anyS, Bool.or_eq_true] at h ⊢
    rcases h with h | h
    · exact .inl (Cn.sat_plus s m t hok.1 h)
    · exact .inr (anyS_plus s m ts hok.2 h)
end
theorem alw_plus (rs : List Rl) (op : Int) (s m : Sc) (h : alwB rs op s = true) : alwB rs op (s.plus m) = true := by
  unfold alwB at h ⊢
  rw [Bool.and_eq_true, Bool.and_eq_true] at h ⊢
  obtain ⟨⟨h1, h2⟩, h3⟩ := h
  refine ⟨⟨h1, h2⟩, ?_⟩
  have h0 : chkR rs = 0 := of_decide_eq_true h2
  obtain ⟨r, hr, hx⟩ := List.any_eq_true.1 h3
  obtain ⟨k, hk, rfl⟩ := List.getElem_of_mem hr
  refine List.any_eq_true.2 ⟨rs[k], hr, ?_⟩
  unfold alwF at hx ⊢
  rw [Bool.and_eq_true] at hx ⊢
  exact ⟨hx.1, Cn.sat_plus s m _ (chkR_get h0 k hk) hx.2⟩

set_option maxRecDepth 100000 in
set_option maxHeartbeats 6400000 in
theorem law_more (rs : List Rl) (op : Int) (s m : Sc) (v : Value) (w : World) (hk : RL w w.heap.size v rs) (hT : Tb w) :
    Calls Tryd.prog 9 #[v, .int .i64 op, .agg #[.int .i64 s.pins, .int .i64 s.keys, .int .i64 s.state, .int .i64 s.level], .agg #[.int .i64 m.pins, .int .i64 m.keys, .int .i64 m.state, .int .i64 m.level]] w fun e w' => e = .returned (.bool true) ∧ Below w.heap.size w w' := by
  have h2 := alloc2_below w s.row m.row
  have hn0 := (Below.heap_alloc (w.alloc s.row) m.row w.heap.size (by rw [alloc_size]; omega)).trans (heap_alloc_new w s.row)
  have hn1 := heap_alloc_new (w.alloc s.row) m.row
  rw [alloc_size] at hn1
  have hsz : ((w.alloc s.row).alloc m.row).heap.size = w.heap.size + 2 := by rw [alloc_size, alloc_size]
  have HF := Lib.hid (fewr_any rs v _ (hk.on h2))
  have HFC := Lib.hid (@fewR_cnt rs)
  have HP := Lib.hid fun (W : World) (hW : Below w.heap.size w W) (x : Sc) hc => palw_any rs op x v W (hk.on hW) (hT.on hW) hc
  have HA := Lib.hid fun (W : World) (hW : Below w.heap.size w W) => works_any W (hT.on hW)
  have HMO := Lib.hid (alw_plus rs op s m)
  have HN0 := Lib.hid hn0
  have HN1 := Lib.hid hn1
  have HL1 := Lib.hid (show w.heap.size + 1 < ((w.alloc s.row).alloc m.row).heap.size by rw [hsz]; omega)
  have HB2 := Lib.hid h2
  obtain ⟨A, cap, rfl, _, _, _⟩ := id hk
  clear h2 hn0 hn1 hsz hk hT
  generalize fewR rs = F at *
  go_enter Tryd.func9, Tryd.ntmps9
  go_wp2_with fail
  refine HF.out.mono ?_
  rintro e w1 ⟨rfl, hb1⟩
  have HB1 := Lib.hid (HB2.out.trans (hb1.mono HB2.out.size))
  cases F with
  | false =>
    clear hb1
    go_wp2_with fail
    refine (HA.out _ HB1.out).mono ?_
    rintro e w2 ⟨rfl, hb2⟩
    go_wp2_with fail
    go_ret
    exact ⟨rfl, HB1.out.trans (hb2.mono HB1.out.size)⟩
  | true =>
    have HC := Lib.hid (HFC.out (by first | exact trivial | rfl))
    have k0 := (hb1.block w.heap.size (Nat.lt_of_succ_lt HL1.out)).trans HN0.out
    have k1 := (hb1.block (w.heap.size + 1) HL1.out).trans HN1.out
    have hl1 := Nat.lt_of_lt_of_le HL1.out hb1.size
    have p0 := cell_of_row _ _ 0 _ _ _ k0
    have p1 := cell_of_row _ _ 1 _ _ _ k0
    have p2 := cell_of_row _ _ 2 _ _ _ k0
    have p3 := cell_of_row _ _ 3 _ _ _ k0
    have q0 := cell_of_row _ _ 0 _ _ _ k1
    have q1 := cell_of_row _ _ 1 _ _ _ k1
    have q2 := cell_of_row _ _ 2 _ _ _ k1
    have q3 := cell_of_row _ _ 3 _ _ _ k1
    clear hb1 k0 k1
    have hl0 : w.heap.size < w1.heap.size := by omega
    by_cases hst : s.state < m.state
    · have hdum : True := trivial
      have hpl : s.plus m = ⟨bits .or .i64 s.pins m.pins, bits .or .i64 s.keys m.keys, m.state, bits .or .i64 s.level m.level⟩ := by unfold Sc.plus; rw [if_pos hst]
      have hba := alloc_below w1 (Obj.cells #[Value.int IntKind.i64 (bits .or .i64 s.pins m.pins), Value.int IntKind.i64 (bits .or .i64 s.keys m.keys), Value.int IntKind.i64 m.state, Value.int IntKind.i64 (bits .or .i64 s.level m.level)] 31)
      have HNW := Lib.hid (heap_alloc_new w1 (Obj.cells #[Value.int IntKind.i64 (bits .or .i64 s.pins m.pins), Value.int IntKind.i64 (bits .or .i64 s.keys m.keys), Value.int IntKind.i64 m.state, Value.int IntKind.i64 (bits .or .i64 s.level m.level)] 31))
      have HLW := Lib.hid (show w1.heap.size < (w1.alloc (Obj.cells #[Value.int IntKind.i64 (bits .or .i64 s.pins m.pins), Value.int IntKind.i64 (bits .or .i64 s.keys m.keys), Value.int IntKind.i64 m.state, Value.int IntKind.i64 (bits .or .i64 s.level m.level)] 31)).heap.size by rw [alloc_size]; omega)
      have HB4 := Lib.hid (HB1.out.trans (hba.mono HB1.out.size))
      have HQ1 := Lib.hid (HP.out _ HB4.out s HC.out)
      have HQ2 := Lib.hid fun (W : World) (hW : Below w.heap.size w W) => HP.out W hW (s.plus m) HC.out
      rw [hpl] at HQ2 HMO
      generalize alwB rs op ⟨bits .or .i64 s.pins m.pins, bits .or .i64 s.keys m.keys, m.state, bits .or .i64 s.level m.level⟩ = Y at *
      generalize alwB rs op s = X at *
      clear hpl hba
      go_wp2_with fail
      refine HQ1.out.mono ?_
      rintro e w3 ⟨rfl, hb3⟩
      have HB5 := Lib.hid (HB4.out.trans (hb3.mono HB4.out.size))
      have kk := (hb3.block w1.heap.size HLW.out).trans HNW.out
      have t0 := cell_of_row _ _ 0 _ _ _ kk
      have t1 := cell_of_row _ _ 1 _ _ _ kk
      have t2 := cell_of_row _ _ 2 _ _ _ kk
      have t3 := cell_of_row _ _ 3 _ _ _ kk
      clear hb3 kk
      cases X with
      | false =>
        go_wp2_with fail
        refine (HA.out _ HB5.out).mono ?_
        rintro e w4 ⟨rfl, hb4⟩
        go_wp2_with fail
        go_ret
        exact ⟨rfl, HB5.out.trans (hb4.mono HB5.out.size)⟩
      | true =>
        obtain rfl : Y = true := HMO.out (by first | exact trivial | rfl)
        go_wp2_with fail
        refine (HQ2.out _ HB5.out).mono ?_
        rintro e w4 ⟨rfl, hb4⟩
        have HB6 := Lib.hid (HB5.out.trans (hb4.mono HB5.out.size))
        clear hb4
        go_wp2_with fail
        refine (HA.out _ HB6.out).mono ?_
        rintro e w5 ⟨rfl, hb5⟩
        go_wp2_with fail
        go_ret
        exact ⟨rfl, HB6.out.trans (hb5.mono HB6.out.size)⟩
    · have hst2 : decide (s.state < m.state) = false := decide_eq_false hst
      have hpl : s.plus m = ⟨bits .or .i64 s.pins m.pins, bits .or .i64 s.keys m.keys, s.state, bits .or .i64 s.level m.level⟩ := by unfold Sc.plus; rw [if_neg hst]
      have hba := alloc_below w1 (Obj.cells #[Value.int IntKind.i64 (bits .or .i64 s.pins m.pins), Value.int IntKind.i64 (bits .or .i64 s.keys m.keys), Value.int IntKind.i64 s.state, Value.int IntKind.i64 (bits .or .i64 s.level m.level)] 31)
      have HNW := Lib.hid (heap_alloc_new w1 (Obj.cells #[Value.int IntKind.i64 (bits .or .i64 s.pins m.pins), Value.int IntKind.i64 (bits .or .i64 s.keys m.keys), Value.int IntKind.i64 s.state, Value.int IntKind.i64 (bits .or .i64 s.level m.level)] 31))
      have HLW := Lib.hid (show w1.heap.size < (w1.alloc (Obj.cells #[Value.int IntKind.i64 (bits .or .i64 s.pins m.pins), Value.int IntKind.i64 (bits .or .i64 s.keys m.keys), Value.int IntKind.i64 s.state, Value.int IntKind.i64 (bits .or .i64 s.level m.level)] 31)).heap.size by rw [alloc_size]; omega)
      have HB4 := Lib.hid (HB1.out.trans (hba.mono HB1.out.size))
      have HQ1 := Lib.hid (HP.out _ HB4.out s HC.out)
      have HQ2 := Lib.hid fun (W : World) (hW : Below w.heap.size w W) => HP.out W hW (s.plus m) HC.out
      rw [hpl] at HQ2 HMO
      generalize alwB rs op ⟨bits .or .i64 s.pins m.pins, bits .or .i64 s.keys m.keys, s.state, bits .or .i64 s.level m.level⟩ = Y at *
      generalize alwB rs op s = X at *
      clear hpl hba
      go_wp2_with fail
      refine HQ1.out.mono ?_
      rintro e w3 ⟨rfl, hb3⟩
      have HB5 := Lib.hid (HB4.out.trans (hb3.mono HB4.out.size))
      have kk := (hb3.block w1.heap.size HLW.out).trans HNW.out
      have t0 := cell_of_row _ _ 0 _ _ _ kk
      have t1 := cell_of_row _ _ 1 _ _ _ kk
      have t2 := cell_of_row _ _ 2 _ _ _ kk
      have t3 := cell_of_row _ _ 3 _ _ _ kk
      clear hb3 kk
      cases X with
      | false =>
        go_wp2_with fail
        refine (HA.out _ HB5.out).mono ?_
        rintro e w4 ⟨rfl, hb4⟩
        go_wp2_with fail
        go_ret
        exact ⟨rfl, HB5.out.trans (hb4.mono HB5.out.size)⟩
      | true =>
        obtain rfl : Y = true := HMO.out (by first | exact trivial | rfl)
        go_wp2_with fail
        refine (HQ2.out _ HB5.out).mono ?_
        rintro e w4 ⟨rfl, hb4⟩
        have HB6 := Lib.hid (HB5.out.trans (hb4.mono HB5.out.size))
        clear hb4
        go_wp2_with fail
        refine (HA.out _ HB6.out).mono ?_
        rintro e w5 ⟨rfl, hb5⟩
        go_wp2_with fail
        go_ret
        exact ⟨rfl, HB6.out.trans (hb5.mono HB6.out.size)⟩
end Go.Proofs.YtjkbfogjfgnhiaaDoor
