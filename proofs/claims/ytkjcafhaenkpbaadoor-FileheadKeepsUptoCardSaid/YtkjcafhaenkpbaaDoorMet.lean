/-
  What the methods of a header write, for any valid header; what Encode gives.
-/
import Derived.Test.YtkjcafhaenkpbaaDoorOgd
namespace Go.Proofs.YtkjcafhaenkpbaaDoor
set_option linter.unusedVariables false
set_option linter.unusedSimpArgs false
open Go.RowKit

def kindB (K L R : Nat) : List UInt8 := if recK (K : Int) then [UInt8.ofNat K, UInt8.ofNat L, UInt8.ofNat R] else [UInt8.ofNat K]
theorem kindB_len (K L R : Nat) : 0 < (kindB K L R).length ∧ (kindB K L R).length ≤ 3 := by unfold kindB; split <;> simp
theorem recK_lt (K : Nat) : recK (K : Int) = true ∨ recK (K : Int) = false := by cases recK (K : Int) <;> simp

set_option maxRecDepth 100000 in
set_option maxHeartbeats 3200000 in
theorem m_kind (K L R : Nat) (id short size state : Int) (A1 : Option Addr) (c1 n1 : Nat) (A2 : Option Addr) (c2 n2 : Nat) (w : World) (hK : K < 256) (hL : L < 256) (hR : R < 256) : Calls Tryd.prog 52 #[.agg #[.int .i64 id, .int .i64 (K : Int), .slice A1 n1 c1, .int .i64 short, .int .i64 size, .int .i64 (L : Int), .int .i64 (R : Int), .int .i64 state, .slice A2 n2 c2]] w (MetP (kindB K L R) w) := by
  have HK : Hid (∀ W, Calls Tryd.prog 47 #[.int .i64 (K : Int)] W fun e w' => e = .returned (.bool (recK (K : Int))) ∧ W = w') := fun W => hasr_any (K : Int) W
  have HKB : Hid (kindB K L R = if recK (K : Int) then [UInt8.ofNat K, UInt8.ofNat L, UInt8.ofNat R] else [UInt8.ofNat K]) := rfl
  generalize recK (K : Int) = X at *
  cases X
  · have hk : kindB K L R = [UInt8.ofNat K] := HKB.out
    rw [hk]
    have hb := alloc2_below w (Obj.cells #[.int .i64 id, .int .i64 (K : Int), .slice A1 n1 c1, .int .i64 short, .int .i64 size, .int .i64 (L : Int), .int .i64 (R : Int), .int .i64 state, .slice A2 n2 c2] 60) (Obj.cells #[.int .u8 (K : Int)] 5)
    have hf := FS.new (w.alloc (Obj.cells #[.int .i64 id, .int .i64 (K : Int), .slice A1 n1 c1, .int .i64 short, .int .i64 size, .int .i64 (L : Int), .int .i64 (R : Int), .int .i64 state, .slice A2 n2 c2] 60)) #[.int .u8 (K : Int)] [UInt8.ofNat K] (by simp [bv, Nat.mod_eq_of_lt hK]) (by simp)
    rw [alloc_size w] at hf
    have HB := Lib.hid hb
    have HF := Lib.hid (hf.more (Nat.le_succ _))
    clear hb hf hk HKB
    go_enter Tryd.func52, Tryd.ntmps52
    go_wp2_with fail
    refine (HK.out _).mono ?_
    rintro e w1 ⟨rfl, rfl⟩
    go_wp2_with fail
    go_ret
    exact ⟨_, rfl, HF.out, HB.out⟩
  · have hk : kindB K L R = [UInt8.ofNat K, UInt8.ofNat L, UInt8.ofNat R] := HKB.out
    rw [hk]
    have hb := alloc2_below w (Obj.cells #[.int .i64 id, .int .i64 (K : Int), .slice A1 n1 c1, .int .i64 short, .int .i64 size, .int .i64 (L : Int), .int .i64 (R : Int), .int .i64 state, .slice A2 n2 c2] 60) (Obj.cells #[.int .u8 (K : Int), .int .u8 (L : Int), .int .u8 (R : Int)] 5)
    have hf := FS.new (w.alloc (Obj.cells #[.int .i64 id, .int .i64 (K : Int), .slice A1 n1 c1, .int .i64 short, .int .i64 size, .int .i64 (L : Int), .int .i64 (R : Int), .int .i64 state, .slice A2 n2 c2] 60)) #[.int .u8 (K : Int), .int .u8 (L : Int), .int .u8 (R : Int)] [UInt8.ofNat K, UInt8.ofNat L, UInt8.ofNat R] (by simp [bv, Nat.mod_eq_of_lt hK, Nat.mod_eq_of_lt hL, Nat.mod_eq_of_lt hR]) (by simp)
    rw [alloc_size w] at hf
    have HB := Lib.hid hb
    have HF := Lib.hid (hf.more (Nat.le_succ _))
    clear hb hf hk HKB
    go_enter Tryd.func52, Tryd.ntmps52
    go_wp2_with fail
    refine (HK.out _).mono ?_
    rintro e w1 ⟨rfl, rfl⟩
    go_wp2_with fail
    go_ret
    exact ⟨_, rfl, HF.out, HB.out⟩
set_option maxRecDepth 100000 in
set_option maxHeartbeats 3200000 in
theorem m_id (I : Nat) (kind short size len recs state : Int) (A1 : Option Addr) (c1 n1 : Nat) (A2 : Option Addr) (c2 n2 : Nat) (w : World) (hI : I < 65536) : Calls Tryd.prog 53 #[.agg #[.int .i64 (I : Int), .int .i64 kind, .slice A1 n1 c1, .int .i64 short, .int .i64 size, .int .i64 len, .int .i64 recs, .int .i64 state, .slice A2 n2 c2]] w (MetP (putL I 2) w) := by
  have hb := alloc_below w (Obj.cells #[.int .i64 (I : Int), .int .i64 kind, .slice A1 n1 c1, .int .i64 short, .int .i64 size, .int .i64 len, .int .i64 recs, .int .i64 state, .slice A2 n2 c2] 60)
  have h := pair_any I (w.alloc (Obj.cells #[.int .i64 (I : Int), .int .i64 kind, .slice A1 n1 c1, .int .i64 short, .int .i64 size, .int .i64 len, .int .i64 recs, .int .i64 state, .slice A2 n2 c2] 60)) hI
  have HP := Lib.hid h
  have HB := Lib.hid hb
  clear h hb
  go_enter Tryd.func53, Tryd.ntmps53
  go_wp2_with fail
  refine HP.out.mono ?_
  rintro e w1 ⟨v1, rfl, hf, hb⟩
  have hf1 := hf.1
  obtain ⟨A, c, rfl, _⟩ := hf1
  have HF := Lib.hid (hf.more HB.out.size)
  have HB1 := Lib.hid (HB.out.trans (hb.mono HB.out.size))
  clear hf hb
  go_wp2_with fail
  go_ret
  exact ⟨_, rfl, HF.out, HB1.out⟩
set_option maxRecDepth 100000 in
set_option maxHeartbeats 3200000 in
theorem m_name (id kind short size len recs state : Int) (A1 : Option Addr) (c1 n1 : Nat) (A2 : Option Addr) (c2 n2 : Nat) (w : World) : Calls Tryd.prog 54 #[.agg #[.int .i64 id, .int .i64 kind, .slice A1 n1 c1, .int .i64 short, .int .i64 size, .int .i64 len, .int .i64 recs, .int .i64 state, .slice A2 n2 c2]] w fun e w' => e = .returned (.slice A1 n1 c1) ∧ Below w.heap.size w w' := by
  have HB := Lib.hid (alloc_below w (Obj.cells #[.int .i64 id, .int .i64 kind, .slice A1 n1 c1, .int .i64 short, .int .i64 size, .int .i64 len, .int .i64 recs, .int .i64 state, .slice A2 n2 c2] 60))
  go_enter Tryd.func54, Tryd.ntmps54
  go_wp2_with fail
  go_ret
  exact ⟨rfl, HB.out⟩
set_option maxRecDepth 100000 in
set_option maxHeartbeats 3200000 in
theorem m_size2 (I : Nat) (id short len recs state : Int) (A1 : Option Addr) (c1 n1 : Nat) (A2 : Option Addr) (c2 n2 : Nat) (w : World) (hI : I < 65536) : Calls Tryd.prog 55 #[.agg #[.int .i64 id, .int .i64 2, .slice A1 n1 c1, .int .i64 short, .int .i64 (I : Int), .int .i64 len, .int .i64 recs, .int .i64 state, .slice A2 n2 c2]] w (MetP (putL I 2) w) := by
  have hb := alloc_below w (Obj.cells #[.int .i64 id, .int .i64 2, .slice A1 n1 c1, .int .i64 short, .int .i64 (I : Int), .int .i64 len, .int .i64 recs, .int .i64 state, .slice A2 n2 c2] 60)
  have h := pair_any I (w.alloc (Obj.cells #[.int .i64 id, .int .i64 2, .slice A1 n1 c1, .int .i64 short, .int .i64 (I : Int), .int .i64 len, .int .i64 recs, .int .i64 state, .slice A2 n2 c2] 60)) hI
  have HP := Lib.hid h
  have HB := Lib.hid hb
  clear h hb
  go_enter Tryd.func55, Tryd.ntmps55
  go_wp2_with fail
  refine HP.out.mono ?_
  rintro e w1 ⟨v1, rfl, hf, hb⟩
  have hf1 := hf.1
  obtain ⟨A, c, rfl, _⟩ := hf1
  have HF := Lib.hid (hf.more HB.out.size)
  have HB1 := Lib.hid (HB.out.trans (hb.mono HB.out.size))
  clear hf hb
  go_wp2_with fail
  go_ret
  exact ⟨_, rfl, HF.out, HB1.out⟩
set_option maxRecDepth 100000 in
set_option maxHeartbeats 3200000 in
theorem m_size0 (kind : Int) (hk : ¬ kind = 2) (id short size len recs state : Int) (A1 : Option Addr) (c1 n1 : Nat) (A2 : Option Addr) (c2 n2 : Nat) (w : World) : Calls Tryd.prog 55 #[.agg #[.int .i64 id, .int .i64 kind, .slice A1 n1 c1, .int .i64 short, .int .i64 size, .int .i64 len, .int .i64 recs, .int .i64 state, .slice A2 n2 c2]] w (MetP [] w) := by
  have HB := Lib.hid (alloc_below w (Obj.cells #[.int .i64 id, .int .i64 kind, .slice A1 n1 c1, .int .i64 short, .int .i64 size, .int .i64 len, .int .i64 recs, .int .i64 state, .slice A2 n2 c2] 60))
  have b1 : (kind == 2) = false := by simpa using hk
  have b2 : (kind != 2) = true := by simpa using hk
  clear hk
  go_enter Tryd.func55, Tryd.ntmps55
  go_wp2_with fail
  go_ret
  exact ⟨_, rfl, FS.nil _ _ 0 none (Nat.zero_le _), HB.out⟩
set_option maxRecDepth 100000 in
set_option maxHeartbeats 3200000 in
theorem m_short0 (id kind size len recs state : Int) (A1 : Option Addr) (c1 n1 : Nat) (A2 : Option Addr) (c2 n2 : Nat) (w : World) : Calls Tryd.prog 56 #[.agg #[.int .i64 id, .int .i64 kind, .slice A1 n1 c1, .int .i64 0, .int .i64 size, .int .i64 len, .int .i64 recs, .int .i64 state, .slice A2 n2 c2]] w (MetP [] w) := by
  have HB := Lib.hid (alloc_below w (Obj.cells #[.int .i64 id, .int .i64 kind, .slice A1 n1 c1, .int .i64 0, .int .i64 size, .int .i64 len, .int .i64 recs, .int .i64 state, .slice A2 n2 c2] 60))
  go_enter Tryd.func56, Tryd.ntmps56
  go_wp2_with fail
  go_ret
  exact ⟨_, rfl, FS.nil _ _ 0 none (Nat.zero_le _), HB.out⟩
set_option maxRecDepth 100000 in
set_option maxHeartbeats 3200000 in
theorem m_short1 (S : Nat) (id kind size len recs state : Int) (A1 : Option Addr) (c1 n1 : Nat) (A2 : Option Addr) (c2 n2 : Nat) (w : World) (hS : S < 256) (h0 : 0 < S) : Calls Tryd.prog 56 #[.agg #[.int .i64 id, .int .i64 kind, .slice A1 n1 c1, .int .i64 (S : Int), .int .i64 size, .int .i64 len, .int .i64 recs, .int .i64 state, .slice A2 n2 c2]] w (MetP [UInt8.ofNat S] w) := by
  have hb := alloc2_below w (Obj.cells #[.int .i64 id, .int .i64 kind, .slice A1 n1 c1, .int .i64 (S : Int), .int .i64 size, .int .i64 len, .int .i64 recs, .int .i64 state, .slice A2 n2 c2] 60) (Obj.cells #[.int .u8 (S : Int)] 5)
  have hf := FS.new (w.alloc (Obj.cells #[.int .i64 id, .int .i64 kind, .slice A1 n1 c1, .int .i64 (S : Int), .int .i64 size, .int .i64 len, .int .i64 recs, .int .i64 state, .slice A2 n2 c2] 60)) #[.int .u8 (S : Int)] [UInt8.ofNat S] (by simp [bv, Nat.mod_eq_of_lt hS]) (by simp)
  rw [alloc_size w] at hf
  have HB := Lib.hid hb
  have HF := Lib.hid (hf.more (Nat.le_succ _))
  have b1 : ((S : Int) == 0) = false := beq_eq_false_iff_ne.2 (by omega)
  have b2 : decide ((S : Int) = 0) = false := decide_eq_false (by omega)
  have b3 : ¬ (S : Int) = 0 := by omega
  clear hb hf
  go_enter Tryd.func56, Tryd.ntmps56
  go_wp2_with fail
  go_ret
  exact ⟨_, rfl, HF.out, HB.out⟩
set_option maxRecDepth 100000 in
set_option maxHeartbeats 3200000 in
theorem m_state (S : Nat) (id kind short size len recs : Int) (A1 : Option Addr) (c1 n1 : Nat) (A2 : Option Addr) (c2 n2 : Nat) (w : World) (hS : S < 256) : Calls Tryd.prog 57 #[.agg #[.int .i64 id, .int .i64 kind, .slice A1 n1 c1, .int .i64 short, .int .i64 size, .int .i64 len, .int .i64 recs, .int .i64 (S : Int), .slice A2 n2 c2]] w (MetP [UInt8.ofNat S] w) := by
  have hb := alloc2_below w (Obj.cells #[.int .i64 id, .int .i64 kind, .slice A1 n1 c1, .int .i64 short, .int .i64 size, .int .i64 len, .int .i64 recs, .int .i64 (S : Int), .slice A2 n2 c2] 60) (Obj.cells #[.int .u8 (S : Int)] 5)
  have hf := FS.new (w.alloc (Obj.cells #[.int .i64 id, .int .i64 kind, .slice A1 n1 c1, .int .i64 short, .int .i64 size, .int .i64 len, .int .i64 recs, .int .i64 (S : Int), .slice A2 n2 c2] 60)) #[.int .u8 (S : Int)] [UInt8.ofNat S] (by simp [bv, Nat.mod_eq_of_lt hS]) (by simp)
  rw [alloc_size w] at hf
  have HB := Lib.hid hb
  have HF := Lib.hid (hf.more (Nat.le_succ _))



  clear hb hf
  go_enter Tryd.func57, Tryd.ntmps57
  go_wp2_with fail
  go_ret
  exact ⟨_, rfl, HF.out, HB.out⟩
set_option maxRecDepth 100000 in
set_option maxHeartbeats 3200000 in
theorem m_rules (rs : List Rl) (id kind short size len recs state : Int) (A1 : Option Addr) (c1 n1 : Nat) (A2 : Option Addr) (c2 : Nat) (w : World) (hk : RL w w.heap.size (.slice A2 rs.length c2) rs) (hT : Tb w) (hc : ∀ (k : Nat) (h : k < rs.length), rs[k].cond.cnt ≤ 400) :
    Calls Tryd.prog 58 #[.agg #[.int .i64 id, .int .i64 kind, .slice A1 n1 c1, .int .i64 short, .int .i64 size, .int .i64 len, .int .i64 recs, .int .i64 state, .slice A2 rs.length c2]] w (MetP (rM rs) w) := by
  have hb := alloc_below w (Obj.cells #[.int .i64 id, .int .i64 kind, .slice A1 n1 c1, .int .i64 short, .int .i64 size, .int .i64 len, .int .i64 recs, .int .i64 state, .slice A2 rs.length c2] 60)
  have h := penr_fs rs _ _ (hk.on hb) (hT.on hb) hc
  unfold EnrF at h
  have HP := Lib.hid h
  have HB := Lib.hid hb
  clear h hb hk hT hc
  generalize rM rs = M at *
  generalize rE rs = E at *
  go_enter Tryd.func58, Tryd.ntmps58
  go_wp2_with fail
  refine HP.out.mono ?_
  rintro e w1 ⟨v1, rfl, hf, hb⟩
  have hf1 := hf.1
  obtain ⟨A, c, rfl, _⟩ := hf1
  have HF := Lib.hid (hf.more HB.out.size)
  have HB1 := Lib.hid (HB.out.trans (hb.mono HB.out.size))
  clear hf hb
  go_wp2_with fail
  go_ret
  exact ⟨_, rfl, HF.out, HB1.out⟩

/-- The parts of a header, some without bytes. -/
def pts (f : Fl) : List (Int × List UInt8) :=
  [(130, kindB f.kind.toNat f.len.toNat f.recs.toNat), (131, putL f.id.toNat 2), (132, f.name), (128, if f.kind = 2 then putL f.size.toNat 2 else []), (136, if f.short = 0 then [] else [UInt8.ofNat f.short.toNat]), (138, [UInt8.ofNat f.state.toNat]), (134, rM f.rules)]
/-- Those of the first k that have bytes. -/
def outP (P : List (Int × List UInt8)) (k : Nat) : List (Int × List UInt8) := (P.take k).filter fun x => decide (0 < x.2.length)
theorem outP_yes {P : List (Int × List UInt8)} {k : Nat} {t : Int} {l : List UInt8} (h : P[k]? = some (t, l)) (hl : 0 < l.length) : outP P (k + 1) = outP P k ++ [(t, l)] := by
  obtain ⟨hk, he⟩ := List.getElem?_eq_some_iff.1 h
  unfold outP
  rw [List.take_succ_eq_append_getElem hk, List.filter_append, he]
  simp [hl]
theorem outP_no {P : List (Int × List UInt8)} {k : Nat} {t : Int} {l : List UInt8} (h : P[k]? = some (t, l)) (hl : l = []) : outP P (k + 1) = outP P k := by
  obtain ⟨hk, he⟩ := List.getElem?_eq_some_iff.1 h
  unfold outP
  rw [List.take_succ_eq_append_getElem hk, List.filter_append, he]
  simp [hl]
theorem outP_len (P : List (Int × List UInt8)) (k : Nat) : (outP P k).length ≤ k := by
  unfold outP
  exact Nat.le_trans (List.length_filter_le ..) (by rw [List.length_take]; omega)
def fT (f : Fl) : T := .mk 98 [] ((outP (pts f) 7).map gObj)
def encfE (f : Fl) : Int := if chkF f = 0 then encE [fT f] else chkF f
def encfM (f : Fl) : List UInt8 := if chkF f = 0 then encM [fT f] else []
/-- The bytes of all values. -/
def valN : List (Int × List UInt8) → Nat | [] => 0 | x :: l => x.2.length + valN l
theorem encL_g : ∀ l : List (Int × List UInt8), (encL (l.map gObj)).length ≤ 5 * l.length + valN l
  | [] => by simp [encL]
  | x :: l => by
    have h1 := encL_g l
    have h2 := tagF_length x.1
    have h3 := lenF_length x.2.length
    rw [List.map_cons, valN, List.length_cons]
    show (encL (T.mk x.1 x.2 [] :: l.map gObj)).length ≤ _
    rw [encL, T.enc]
    simp only [List.length_append, encL, List.append_nil, List.length_nil]
    omega
theorem valN_out (P : List (Int × List UInt8)) (k : Nat) : valN (outP P k) ≤ valN P := by
  have hf : ∀ l : List (Int × List UInt8), valN (l.filter fun x => decide (0 < x.2.length)) ≤ valN l := by
    intro l
    induction l with
    | nil => exact Nat.le_refl _
    | cons x l ih =>
      rw [List.filter_cons]
      split
      · rw [valN, valN]; omega
      · rw [valN]; omega
  have ht : ∀ (l : List (Int × List UInt8)) (k : Nat), valN (l.take k) ≤ valN l := by
    intro l
    induction l with
    | nil => intro k; simp [valN]
    | cons x l ih =>
      intro k
      cases k with
      | zero => simp [valN]
      | succ k => rw [List.take_succ_cons, valN, valN]; have := ih k; omega
  exact Nat.le_trans (hf _) (ht _ _)
end Go.Proofs.YtkjcafhaenkpbaaDoor
