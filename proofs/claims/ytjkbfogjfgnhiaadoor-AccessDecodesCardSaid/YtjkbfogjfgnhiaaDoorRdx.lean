/-
  The reference's CheckRules for rules of many parts.
  The reference's read of conditions.
  The reference's read: a condition with kids; read as a whole.
  The reference's Decode of rules.
  The walk of the law AccessDecodes.
-/
import Derived.Test.YtjkbfogjfgnhiaaDoorRsm
import Derived.Test.YtjkbfogjfgnhiaaDoorCih
import Derived.Test.YtjkbfogjfgnhiaaDoorCii
import Derived.Test.YtjkbfogjfgnhiaaDoorRen
import Derived.Test.YtjkbfogjfgnhiaaDoorWks
namespace Go.Proofs.YtjkbfogjfgnhiaaDoor
set_option linter.unusedVariables false
set_option linter.unusedSimpArgs false
open Go.RowKit


def NodCU (c : Cn) : Prop := ∀ (v : Value) (w : World), c.cnt ≤ 3000000 → KL w w.heap.size v c.kids →
  Calls Tryd.prog 41 #[.agg #[.int .i64 c.op, .int .i64 c.n, v]] w fun e w' => e = .returned (.int .i64 (c.cnt : Int)) ∧ Below w.heap.size w w'
set_option maxRecDepth 100000 in
set_option maxHeartbeats 3200000 in
theorem nod_stepU (c : Cn) (ih : ∀ c' : Cn, c'.dep < c.dep → NodCU c') : NodCU c := by
  obtain ⟨op, n, ts⟩ := c
  intro v w hcn hk
  have hkd := dep_kids (.mk op n ts)
  have hkc := cnt_kids (.mk op n ts)
  have IH := Lib.hid ih
  clear ih
  simp only [Cn.kids, Cn.op, Cn.n] at hk hkd hkc ⊢
  generalize (Cn.mk op n ts).cnt = R at *
  generalize (Cn.mk op n ts).dep = DD at *
  obtain ⟨A, cap, rfl, h1, h2, h3⟩ := hk
  unfold maxLen at h2
  have HN0 := Lib.hid (heap_alloc_new w (bx op n A ts.length cap))
  have HS0 := Lib.hid (alloc_size w (bx op n A ts.length cap))
  have HB0 := Lib.hid (alloc_below w (bx op n A ts.length cap))
  go_enter Tryd.func41, Tryd.ntmps41
  go_wp2_with fail
  go_loopw [3, 4] (fun m i wr => ∃ (k M : Nat), k ≤ ts.length ∧ i = .int .i64 k ∧ m = .int .i64 M ∧ M + cntK (ts.drop k) = R ∧ Hid (Below (w.heap.size + 1) (w.alloc (bx op n A ts.length cap)) wr)) (fun _ i _ => ts.length - (intOf i).toNat)
  case atStart => exact ⟨0, 1, Nat.zero_le _, rfl, rfl, by rw [List.drop_zero]; omega, Below.refl _ _⟩
  case round =>
    obtain ⟨k, M, hkl, rfl, rfl, hM, HB⟩ := hrel
    have hn1 := (HB.out.block w.heap.size (by omega)).trans HN0.out
    have q2 := cell_of_row _ _ 2 _ _ _ hn1
    have HBW := Lib.hid (HB0.out.trans (HB.out.mono (by omega)))
    clear hn1
    by_cases hlt : k < ts.length
    · obtain ⟨b1, o1, rfl, hb1, hts⟩ := h3.out (by omega)
      have hta := CnsAt.get hts hlt
      have hdp := depK_get ts k hlt
      have hdr := cntK_drop ts k hlt
      obtain ⟨t, ht⟩ : ∃ t, t = ts[k] := ⟨_, rfl⟩
      rw [← ht] at hta hdp hdr
      have hta' := CnAt.keep HBW.out.size (fun p hp => HBW.out.cell hp) t b1 _ hb1 hta
      obtain ⟨A2, c2, g1, g2, g3, hu⟩ := hta'.cells
      have HV := Lib.hid (IH.out t (by omega) (.slice A2 t.kids.length c2) wr (by omega) hu)
      have hM2 : M + t.cnt + cntK (ts.drop (k + 1)) = R := by omega
      have HM2 := Lib.hid hM2
      have hz1 : M + t.cnt ≤ 3000000 := by omega
      clear hta hta' hts ht hu hdr hM hM2
      generalize t.cnt = Z at *
      go_wp2_with fail
      refine HV.out.mono ?_
      rintro e w2 ⟨rfl, hb2⟩
      have HB2 := Lib.hid (HB.out.trans (hb2.mono (show w.heap.size + 1 ≤ wr.heap.size by have := HB.out.size; rw [HS0.out] at this; exact this)))
      clear hb2
      go_wp2_with fail
      go_roundw
      case rel => exact ⟨k + 1, M + Z, by omega, by go_num, by go_num, HM2.out, HB2⟩
      case measure => simp [intOf]; omega
    · have HR2 : Hid ((M : Int) = (R : Int)) := by
        show _ = _
        rw [show k = ts.length by omega, List.drop_length, cntK] at hM
        omega
      clear hM
      go_wp2_with fail
      go_ret
      exact ⟨ret_int HR2.out, HBW.out⟩
theorem nod_anyU : ∀ (n : Nat) (c : Cn), c.dep < n → NodCU c
  | 0, c, h => absurd h (by omega)
  | n + 1, c, h => nod_stepU c fun c' h' => nod_anyU n c' (by omega)

def DepCU (c : Cn) : Prop := ∀ (v : Value) (w : World), c.dep ≤ 3000000 → KL w w.heap.size v c.kids →
  Calls Tryd.prog 42 #[.agg #[.int .i64 c.op, .int .i64 c.n, v]] w fun e w' => e = .returned (.int .i64 (c.dep : Int)) ∧ Below w.heap.size w w'
set_option maxRecDepth 100000 in
set_option maxHeartbeats 3200000 in
theorem dep_stepU (c : Cn) (ih : ∀ c' : Cn, c'.dep < c.dep → DepCU c') : DepCU c := by
  obtain ⟨op, n, ts⟩ := c
  intro v w hcn hk
  have hkd := dep_kids (.mk op n ts)
  have IH := Lib.hid ih
  clear ih
  simp only [Cn.kids, Cn.op, Cn.n] at hk hkd ⊢
  generalize (Cn.mk op n ts).dep = R at *
  obtain ⟨A, cap, rfl, h1, h2, h3⟩ := hk
  unfold maxLen at h2
  have HN0 := Lib.hid (heap_alloc_new w (bx op n A ts.length cap))
  have HS0 := Lib.hid (alloc_size w (bx op n A ts.length cap))
  have HB0 := Lib.hid (alloc_below w (bx op n A ts.length cap))
  go_enter Tryd.func42, Tryd.ntmps42
  go_wp2_with fail
  go_loopw [3, 4] (fun m i wr => ∃ (k M : Nat), k ≤ ts.length ∧ i = .int .i64 k ∧ m = .int .i64 M ∧ max M (depK (ts.drop k)) + 1 = R ∧ Hid (Below (w.heap.size + 1) (w.alloc (bx op n A ts.length cap)) wr)) (fun _ i _ => ts.length - (intOf i).toNat)
  case atStart => exact ⟨0, 0, Nat.zero_le _, rfl, rfl, by rw [List.drop_zero]; omega, Below.refl _ _⟩
  case round =>
    obtain ⟨k, M, hkl, rfl, rfl, hM, HB⟩ := hrel
    have hn1 := (HB.out.block w.heap.size (by omega)).trans HN0.out
    have q2 := cell_of_row _ _ 2 _ _ _ hn1
    have HBW := Lib.hid (HB0.out.trans (HB.out.mono (by omega)))
    clear hn1
    by_cases hlt : k < ts.length
    · obtain ⟨b1, o1, rfl, hb1, hts⟩ := h3.out (by omega)
      have hta := CnsAt.get hts hlt
      have hdp := depK_get ts k hlt
      have hdr := depK_drop ts k hlt
      obtain ⟨t, ht⟩ : ∃ t, t = ts[k] := ⟨_, rfl⟩
      rw [← ht] at hta hdp hdr
      have hta' := CnAt.keep HBW.out.size (fun p hp => HBW.out.cell hp) t b1 _ hb1 hta
      obtain ⟨A2, c2, g1, g2, g3, hu⟩ := hta'.cells
      have HV := Lib.hid (IH.out t (by omega) (.slice A2 t.kids.length c2) wr (by omega) hu)
      have HM2 := Lib.hid (show max (max M t.dep) (depK (ts.drop (k + 1))) + 1 = R by omega)
      clear hta hta' hts ht hu hdr hM
      generalize t.dep = Z at *
      by_cases hmz : M < Z
      · have HMX := Lib.hid (show max M Z = Z by omega)
        go_wp2_with fail
        refine HV.out.mono ?_
        rintro e w2 ⟨rfl, hb2⟩
        have HB2 := Lib.hid (HB.out.trans (hb2.mono (show w.heap.size + 1 ≤ wr.heap.size by have := HB.out.size; rw [HS0.out] at this; exact this)))
        clear hb2
        go_wp2_with fail
        go_roundw
        case rel => exact ⟨k + 1, Z, by omega, by go_num, rfl, by rw [← HMX.out]; exact HM2.out, HB2⟩
        case measure => simp [intOf]; omega
      · have HMX := Lib.hid (show max M Z = M by omega)
        go_wp2_with fail
        refine HV.out.mono ?_
        rintro e w2 ⟨rfl, hb2⟩
        have HB2 := Lib.hid (HB.out.trans (hb2.mono (show w.heap.size + 1 ≤ wr.heap.size by have := HB.out.size; rw [HS0.out] at this; exact this)))
        clear hb2
        go_wp2_with fail
        go_roundw
        case rel => exact ⟨k + 1, M, by omega, by go_num, rfl, by have := HM2.out; rw [HMX.out] at this; exact this, HB2⟩
        case measure => simp [intOf]; omega
    · have HR2 : Hid (((M : Int) + 1) = (R : Int)) := by
        show _ = _
        rw [show k = ts.length by omega, List.drop_length, depK] at hM
        omega
      have hM2 : M ≤ 3000000 := by omega
      clear hM
      go_wp2_with fail
      go_ret
      exact ⟨ret_int HR2.out, HBW.out⟩
theorem dep_anyU : ∀ (n : Nat) (c : Cn), c.dep < n → DepCU c
  | 0, c, h => absurd h (by omega)
  | n + 1, c, h => dep_stepU c fun c' h' => dep_anyU n c' (by omega)
set_option maxRecDepth 100000 in
set_option maxHeartbeats 3200000 in
theorem rchk_anyU (c : Cn) (v : Value) (w : World) (hk : KL w w.heap.size v c.kids) (hc : c.cnt ≤ 3000000) :
    Calls Tryd.prog 18 #[.agg #[.int .i64 c.op, .int .i64 c.n, v]] w fun e w' => e = .returned (.int .i64 (chkC 1 3 c)) ∧ Below w.heap.size w w' := by
  have hdc := Cn.dep_cnt c
  obtain ⟨A, cap, rfl, h1, h2, h3⟩ := id hk
  have ha := alloc_below w (bx c.op c.n A c.kids.length cap)
  have HN0 := Lib.hid (heap_alloc_new w (bx c.op c.n A c.kids.length cap))
  have HS0 := Lib.hid (alloc_size w (bx c.op c.n A c.kids.length cap))
  have HV := Lib.hid (rv_any (c.dep + 1) c (by omega) _ _ (hk.on ha))
  have HN := Lib.hid fun (W : World) hu => nod_anyU (c.dep + 1) c (by omega) (.slice A c.kids.length cap) W hc hu
  have HD := Lib.hid fun (W : World) hu => dep_anyU (c.dep + 1) c (by omega) (.slice A c.kids.length cap) W (by omega) hu
  have HC : Hid (chkC 1 3 c = if c.ok then (if 16 < c.cnt ∨ 8 < c.dep then 3 else 0) else 1) := rfl
  have HK := Lib.hid (hk.on ha)
  have HA := Lib.hid ha
  clear hk ha h3
  generalize c.ok = X at *
  generalize c.cnt = M at *
  generalize c.dep = D at *
  cases X with
  | false =>
    go_enter Tryd.func18, Tryd.ntmps18
    go_wp2_with fail
    refine HV.out.mono ?_
    rintro e w1 ⟨rfl, hb1⟩
    go_wp2_with fail
    go_ret
    exact ⟨ret_int HC.out.symm, HA.out.trans (hb1.mono HA.out.size)⟩
  | true =>
    by_cases hm : 16 < M
    · have HR : Hid (chkC 1 3 c = 3) := by show _ = _; rw [HC.out]; simp [hm]
      clear HC
      go_enter Tryd.func18, Tryd.ntmps18
      go_wp2_with fail
      refine HV.out.mono ?_
      rintro e w1 ⟨rfl, hb1⟩
      have k0 := (hb1.block w.heap.size (by rw [HS0.out]; omega)).trans HN0.out
      have g0 := cell_of_row _ _ 0 _ _ _ k0
      have g1 := cell_of_row _ _ 1 _ _ _ k0
      have g2 := cell_of_row _ _ 2 _ _ _ k0
      have HB1 := Lib.hid (HA.out.trans (hb1.mono HA.out.size))
      have HK1 := Lib.hid (HK.out.on hb1)
      clear hb1 k0
      go_wp2_with fail
      refine (HN.out _ HK1.out).mono ?_
      rintro e w2 ⟨rfl, hb2⟩
      have HB2 := Lib.hid (HB1.out.trans (hb2.mono HB1.out.size))
      clear hb2
      go_wp2_with fail
      go_ret
      exact ⟨ret_int HR.out.symm, HB2.out⟩
    · have hmd : decide (16 < M) = false := decide_eq_false hm
      have HR : Hid (chkC 1 3 c = if 8 < D then 3 else 0) := by show _ = _; rw [HC.out]; simp [hm]
      clear HC
      go_enter Tryd.func18, Tryd.ntmps18
      go_wp2_with fail
      refine HV.out.mono ?_
      rintro e w1 ⟨rfl, hb1⟩
      have k0 := (hb1.block w.heap.size (by rw [HS0.out]; omega)).trans HN0.out
      have g0 := cell_of_row _ _ 0 _ _ _ k0
      have g1 := cell_of_row _ _ 1 _ _ _ k0
      have g2 := cell_of_row _ _ 2 _ _ _ k0
      have HB1 := Lib.hid (HA.out.trans (hb1.mono HA.out.size))
      have HK1 := Lib.hid (HK.out.on hb1)
      have hs1 : w.heap.size < w1.heap.size := by have := hb1.size; rw [HS0.out] at this; omega
      have K0 := Lib.hid k0
      clear hb1 k0
      go_wp2_with fail
      refine (HN.out _ HK1.out).mono ?_
      rintro e w2 ⟨rfl, hb2⟩
      have k2 := (hb2.block w.heap.size hs1).trans K0.out
      have r0 := cell_of_row _ _ 0 _ _ _ k2
      have r1 := cell_of_row _ _ 1 _ _ _ k2
      have r2 := cell_of_row _ _ 2 _ _ _ k2
      have HB2 := Lib.hid (HB1.out.trans (hb2.mono HB1.out.size))
      have HK2 := Lib.hid (HK1.out.on hb2)
      clear hb2 k2 g0 g1 g2
      go_wp2_with fail
      refine (HD.out _ HK2.out).mono ?_
      rintro e w3 ⟨rfl, hb3⟩
      have HB3 := Lib.hid (HB2.out.trans (hb3.mono HB2.out.size))
      clear hb3
      by_cases h8 : 8 < D
      · have HR2 : Hid (chkC 1 3 c = 3) := by show _ = _; rw [HR.out, if_pos h8]
        go_wp2_with fail
        go_ret
        exact ⟨ret_int HR2.out.symm, HB3.out⟩
      · have HR2 : Hid (chkC 1 3 c = 0) := by show _ = _; rw [HR.out, if_neg h8]
        have h8d : decide (8 < D) = false := decide_eq_false h8
        go_wp2_with fail
        go_ret
        exact ⟨ret_int HR2.out.symm, HB3.out⟩
set_option maxRecDepth 100000 in
set_option maxHeartbeats 3200000 in
theorem rchr_anyU (rs : List Rl) (v : Value) (w : World) (hk : RL w w.heap.size v rs) (hc : ∀ (k : Nat) (h : k < rs.length), rs[k].cond.cnt ≤ 3000000) :
    Calls Tryd.prog 23 #[v] w fun e w' => e = .returned (.int .i64 (chkR rs)) ∧ Below w.heap.size w w' := by
  obtain ⟨A, cap, rfl, h1, h2, h3⟩ := hk
  unfold maxLen at h2
  have HC := Lib.hid hc
  clear hc
  by_cases h8 : 8 < rs.length
  · have HR : Hid (chkR rs = 3) := if_pos h8
    go_enter Tryd.func23, Tryd.ntmps23
    go_wp2_with fail
    go_ret
    exact ⟨ret_int HR.out.symm, Below.refl _ _⟩
  · have HR : Hid (chkR rs = chkS rs) := if_neg h8
    have h8d : decide (8 < rs.length) = false := decide_eq_false h8
    go_enter Tryd.func23, Tryd.ntmps23
    go_wp2_with fail
    clear h8d
    go_loopw [3] (fun i wr => ∃ (k : Nat), k ≤ rs.length ∧ i = .int .i64 k ∧ Hid (chkR rs = chkS (rs.drop k)) ∧ Hid (Below w.heap.size w wr)) (fun i _ => rs.length - (intOf i).toNat)
    case atStart => exact ⟨0, Nat.zero_le _, rfl, HR, Below.refl _ _⟩
    case round =>
      obtain ⟨k, hkl, rfl, HS, HB⟩ := hrel
      by_cases hlt : k < rs.length
      · obtain ⟨b1, o1, rfl, hb1, hts⟩ := h3.out (by omega)
        have hra := (hts k hlt).keep hb1 HB.out.size (fun p hp => HB.out.cell hp)
        have hcn := HC.out k hlt
        have hdr := chkS_drop rs k hlt
        obtain ⟨r, hr⟩ : ∃ r, r = rs[k] := ⟨_, rfl⟩
        rw [← hr] at hra hcn hdr
        clear hts hr
        obtain ⟨ops, c⟩ := r
        obtain ⟨g0, hca⟩ := hra
        obtain ⟨A2, c2, g1, g2, g3, hu⟩ := hca.cells
        simp only at g0 g1 g2 g3 hu hcn hdr
        have HV := Lib.hid (rchk_anyU c _ _ hu hcn)
        have HDR := Lib.hid hdr
        clear hdr hca hu
        by_cases ho1 : 1 ≤ ops
        · by_cases ho2 : ops ≤ 255
          · have HO : Hid (opsB ops = true) := by show _ = _; simp [opsB, ho1, ho2]
            have hd1 : decide (ops < 1) = false := decide_eq_false (by omega)
            have hd2 : decide (255 < ops) = false := decide_eq_false (by omega)
            generalize chkC 1 3 c = E at *
            by_cases he : E = 0
            · subst he
              go_wp2_with fail
              refine HV.out.mono ?_
              rintro e w2 ⟨rfl, hb2⟩
              have HB2 := Lib.hid (HB.out.trans (hb2.mono HB.out.size))
              clear hb2
              go_wp2_with fail
              go_roundw
              case rel => exact ⟨k + 1, by omega, by go_num, by show _ = _; rw [HS.out, HDR.out, HO.out]; simp, HB2⟩
              case measure => simp [intOf]; omega
            · have he1 : (E != 0) = true := by simpa using he
              have he2 : (E == 0) = false := by simpa using he
              have he3 : decide (E = 0) = false := decide_eq_false he
              go_wp2_with fail
              refine HV.out.mono ?_
              rintro e w2 ⟨rfl, hb2⟩
              have HB2 := Lib.hid (HB.out.trans (hb2.mono HB.out.size))
              clear hb2
              go_wp2_with fail
              go_ret
              exact ⟨ret_int (by rw [HS.out, HDR.out, HO.out]; simp [he]), HB2.out⟩
          · have HO : Hid (opsB ops = false) := by show _ = _; simp [opsB, ho2]
            have hd1 : decide (ops < 1) = false := decide_eq_false (by omega)
            have hgt : 255 < ops := by omega
            go_wp2_with fail
            go_ret
            exact ⟨ret_int (by rw [HS.out, HDR.out, HO.out]; simp), HB.out⟩
        · have HO : Hid (opsB ops = false) := by show _ = _; simp [opsB, ho1]
          have hlt1 : ops < 1 := by omega
          go_wp2_with fail
          go_ret
          exact ⟨ret_int (by rw [HS.out, HDR.out, HO.out]; simp), HB.out⟩
      · have HS2 : Hid (chkR rs = 0) := by show _ = _; rw [HS.out, show k = rs.length by omega, List.drop_length, chkS]
        go_wp2_with fail
        go_ret
        exact ⟨ret_int HS2.out.symm, HB.out⟩




/-- What the reference's read gives. -/
def RdQ (B0 : Nat) (w : World) (x : Option (Cn × List UInt8)) (e : Ending) (w' : World) : Prop := Below w.heap.size w w' ∧
  ((x = none ∧ ∃ (p q : Int) (A : Option Addr) (k c : Nat), e = .returned (.tuple #[.agg #[.int .i64 p, .int .i64 q, .slice A k c], .slice none 0 0, .bool false])) ∨
   ∃ k r Ak ck Ar cr, x = some (k, r) ∧ e = .returned (.tuple #[.agg #[.int .i64 k.op, .int .i64 k.n, .slice Ak k.kids.length ck], .slice Ar r.length cr, .bool true]) ∧
     KC w' (From w' w.heap.size) (.slice Ak k.kids.length ck) k.kids ∧ SL w' B0 (.slice Ar r.length cr) r)
theorem rdq_none {B0 : Nat} {w w' : World} {p q : Int} {A : Option Addr} {k c : Nat} (h : Below w.heap.size w w') : RdQ B0 w none (.returned (.tuple #[.agg #[.int .i64 p, .int .i64 q, .slice A k c], .slice none 0 0, .bool false])) w' := ⟨h, .inl ⟨rfl, p, q, A, k, c, rfl⟩⟩
theorem rdq_some {B0 : Nat} {w w' : World} {R : Option (Cn × List UInt8)} {op n : Int} {r : List UInt8} {Ar : Option Addr} {l cr : Nat} (hR : R = some (.mk op n [], r)) (hl : l = r.length) (hs : SL w' B0 (.slice Ar l cr) r) (hb : Below w.heap.size w w') :
    RdQ B0 w R (.returned (.tuple #[.agg #[.int .i64 op, .int .i64 n, .slice none 0 0], .slice Ar l cr, .bool true])) w' :=
  ⟨hb, .inr ⟨_, r, none, 0, Ar, cr, hR, by rw [hl]; rfl, KC.nil _ _ _ _ (Nat.zero_le _), by rw [← hl]; exact hs⟩⟩
theorem rdR_0 (f : Nat) : rdR f [] = none := by cases f <;> (unfold rdR; rfl)
theorem rdR_plain (f : Nat) (b : List UInt8) (h0 : 0 < b.length) (h : byN b 0 < 2) : rdR (f + 1) b = some (.mk (byN b 0 : Int) 0 [], b.drop 1) := by
  unfold rdR
  rw [if_neg (by omega), if_pos h]
theorem rdR_short (f : Nat) (b : List UInt8) (h0 : b.length = 1) (h : 2 ≤ byN b 0) : rdR (f + 1) b = none := by
  unfold rdR
  rw [if_neg (by omega), if_neg (by omega), if_pos (by omega)]
theorem rdR_num (f : Nat) (b : List UInt8) (h0 : 2 ≤ b.length) (h : 2 ≤ byN b 0) (h1 : byN b 0 < 6) : rdR (f + 1) b = some (.mk (byN b 0 : Int) (byN b 1 : Int) [], b.drop 2) := by
  unfold rdR
  rw [if_neg (by omega), if_neg (by omega), if_neg (by omega), if_pos h1]
theorem rdR_kids (f : Nat) (b : List UInt8) (h0 : 2 ≤ b.length) (h : 6 ≤ byN b 0) : rdR (f + 1) b = match rdS (rdR f) (byN b 1) (b.drop 2) [] with | none => none | some (ks, r) => some (.mk (byN b 0 : Int) 0 ks, r) := by
  unfold rdR
  rw [if_neg (by omega), if_neg (by omega), if_neg (by omega), if_neg (by omega)]
  rfl

set_option maxRecDepth 100000 in
set_option maxHeartbeats 6400000 in
theorem rr_empty (f : Nat) (v : Value) (w : World) (B0 : Nat) (hv : SL w B0 v []) :
    Calls Tryd.prog 60 #[v, .int .i64 f] w fun e w' => RdQ B0 w (rdR f []) e w' := by
  obtain ⟨A, c, rfl, h1, h2, h3⟩ := id hv
  rw [rdR_0]
  clear h3 hv
  go_enter Tryd.func60, Tryd.ntmps60
  go_wp2_with fail
  exact bodyPost_ret (results_cell3 rfl _ _ w.heap.size 24 #[.int .i64 0, .int .i64 0, .slice none 0 0] (0, 0) _ rfl (heap_alloc2_old w _ _) Tryd.underlying24 rfl (by kernel_rfl)) rfl (rdq_none (alloc2_below w _ _))
set_option maxRecDepth 100000 in
set_option maxHeartbeats 6400000 in
theorem rr_zero (b : List UInt8) (v : Value) (w : World) (B0 : Nat) (hv : SL w B0 v b) :
    Calls Tryd.prog 60 #[v, .int .i64 0] w fun e w' => RdQ B0 w (rdR 0 b) e w' := by
  obtain ⟨A, c, rfl, h1, h2, h3⟩ := id hv
  rw [show rdR 0 b = none by unfold rdR; rfl]
  clear h3 hv
  rcases Nat.eq_zero_or_pos b.length with h0 | h0
  · rw [h0]
    go_enter Tryd.func60, Tryd.ntmps60
    go_wp2_with fail
    exact bodyPost_ret (results_cell3 rfl _ _ w.heap.size 24 #[.int .i64 0, .int .i64 0, .slice none 0 0] (0, 0) _ rfl (heap_alloc2_old w _ _) Tryd.underlying24 rfl (by kernel_rfl)) rfl (rdq_none (alloc2_below w _ _))
  · have h0' : ((b.length : Int) == 0) = false := by rw [beq_eq_false_iff_ne]; omega
    go_enter Tryd.func60, Tryd.ntmps60
    go_wp2_with fail
    exact bodyPost_ret (results_cell3 rfl _ _ w.heap.size 24 #[.int .i64 0, .int .i64 0, .slice none 0 0] (0, 0) _ rfl (heap_alloc2_old w _ _) Tryd.underlying24 rfl (by kernel_rfl)) rfl (rdq_none (alloc2_below w _ _))
set_option maxRecDepth 100000 in
set_option maxHeartbeats 6400000 in
theorem rr_plain (f : Nat) (b : List UInt8) (v : Value) (w : World) (B0 : Nat) (hle : B0 ≤ w.heap.size) (hv : SL w B0 v b) (h0 : 0 < b.length) (hb : byN b 0 < 2) :
    Calls Tryd.prog 60 #[v, .int .i64 ((f : Int) + 1)] w fun e w' => RdQ B0 w (rdR (f + 1) b) e w' := by
  have HV := Lib.hid hv
  obtain ⟨A, c, rfl, h1, h2, h3⟩ := id hv
  obtain ⟨B, o, rfl, hB, hc⟩ := h3 (by omega)
  have g0 : w.cell? ⟨B, o, none⟩ = some (.int .u8 ((byN b 0 : Nat) : Int)) := hc 0 (by omega)
  obtain ⟨R, hR⟩ : ∃ R, R = rdR (f + 1) b := ⟨_, rfl⟩
  rw [← hR]
  have HR := Lib.hid (hR.trans (rdR_plain f b h0 hb))
  obtain ⟨y, hy⟩ : ∃ y, y = byN b 0 := ⟨_, rfl⟩
  have hy2 : y < 256 := hy ▸ byN_lt b 0
  have HY := Lib.hid hy
  rw [← hy] at g0 hb
  have hlt : B < w.heap.size := by omega
  have hfi : ¬ ((f : Int) + 1) < 1 := by omega
  have e0 : B ≠ w.heap.size := by omega
  have e1 : B ≠ w.heap.size + 1 := by omega
  have hwr : IntKind.wrap .i64 (y : Int) = (y : Int) := by simp [IntKind.wrap, IntKind.signed, IntKind.bits]; omega
  have hyi : (y : Int) < 2 := by omega
  obtain ⟨n, hn⟩ : ∃ n, b.length = n + 1 := ⟨b.length - 1, by omega⟩
  rw [hn]
  have h1n : (1 : Int) ≤ ((n + 1 : Nat) : Int) := by omega
  have HN := Lib.hid hn
  obtain ⟨m, rfl⟩ : ∃ m, c = m + 1 := ⟨c - 1, by omega⟩
  have hnm : n ≤ m := by omega
  clear h3 hv hc hy hn h1 h0 hR
  have hbx := alloc2_below w (Obj.cells #[.int .i64 y, .int .i64 0, .slice none 0 0] 24) (Obj.cells #[.int .i64 y, .int .i64 0, .slice none 0 0] 24)
  have HBX := Lib.hid hbx
  clear hbx
  rcases m with _ | m
  · obtain rfl : n = 0 := by omega
    go_enter Tryd.func60, Tryd.ntmps60
    go_wp2_with fail
    refine bodyPost_ret (results_cell3 rfl _ _ w.heap.size 24 #[.int .i64 y, .int .i64 0, .slice none 0 0] (0, 0) _ rfl (heap_alloc2_old w _ _) Tryd.underlying24 rfl (by kernel_rfl)) rfl ?_
    have hn := HN.out
    have hd : b.drop 1 = [] := List.eq_nil_of_length_eq_zero (by rw [List.length_drop]; omega)
    exact rdq_some (r := []) (by rw [HR.out, hd, HY.out]) rfl (SL.nil _ _ _ _ (Nat.zero_le _)) HBX.out
  · go_enter Tryd.func60, Tryd.ntmps60
    go_wp2_with fail
    refine bodyPost_ret (results_cell3 rfl _ _ w.heap.size 24 #[.int .i64 y, .int .i64 0, .slice none 0 0] (0, 0) _ rfl (heap_alloc2_old w _ _) Tryd.underlying24 rfl (by kernel_rfl)) rfl ?_
    have hn := HN.out
    exact rdq_some (r := b.drop 1) (by rw [HR.out, HY.out]) (by rw [List.length_drop]; omega) ((sl_tail HV.out hn).below (HBX.out.mono hle)) HBX.out
set_option maxRecDepth 100000 in
set_option maxHeartbeats 6400000 in
theorem rr_short (f : Nat) (b : List UInt8) (v : Value) (w : World) (B0 : Nat) (hle : B0 ≤ w.heap.size) (hv : SL w B0 v b) (h0 : b.length = 1) (hb : 2 ≤ byN b 0) :
    Calls Tryd.prog 60 #[v, .int .i64 ((f : Int) + 1)] w fun e w' => RdQ B0 w (rdR (f + 1) b) e w' := by
  have HV := Lib.hid hv
  obtain ⟨A, c, rfl, h1, h2, h3⟩ := id hv
  obtain ⟨B, o, rfl, hB, hc⟩ := h3 (by omega)
  have g0 : w.cell? ⟨B, o, none⟩ = some (.int .u8 ((byN b 0 : Nat) : Int)) := hc 0 (by omega)
  obtain ⟨R, hR⟩ : ∃ R, R = rdR (f + 1) b := ⟨_, rfl⟩
  rw [← hR]
  have HR := Lib.hid (hR.trans (rdR_short f b h0 hb))
  obtain ⟨y, hy⟩ : ∃ y, y = byN b 0 := ⟨_, rfl⟩
  have hy2 : y < 256 := hy ▸ byN_lt b 0
  have HY := Lib.hid hy
  rw [← hy] at g0 hb
  have hlt : B < w.heap.size := by omega
  have hfi : ¬ ((f : Int) + 1) < 1 := by omega
  have e0 : B ≠ w.heap.size := by omega
  have e1 : B ≠ w.heap.size + 1 := by omega
  have hwr : IntKind.wrap .i64 (y : Int) = (y : Int) := by simp [IntKind.wrap, IntKind.signed, IntKind.bits]; omega
  have hyi : ¬ (y : Int) < 2 := by omega
  rw [h0]
  obtain ⟨m, rfl⟩ : ∃ m, c = m + 1 := ⟨c - 1, by omega⟩
  clear h3 hv hc hy h1 h0 hR
  rw [HR.out]
  rcases m with _ | m
  all_goals
    go_enter Tryd.func60, Tryd.ntmps60
    go_wp2_with fail
    exact bodyPost_ret (results_cell3 rfl _ _ w.heap.size 24 #[.int .i64 y, .int .i64 0, .slice none 0 0] (0, 0) _ rfl (heap_alloc2_old w _ _) Tryd.underlying24 rfl (by kernel_rfl)) rfl (rdq_none (alloc2_below w _ _))
set_option maxRecDepth 100000 in
set_option maxHeartbeats 6400000 in
theorem rr_num (f : Nat) (b : List UInt8) (v : Value) (w : World) (B0 : Nat) (hle : B0 ≤ w.heap.size) (hv : SL w B0 v b) (h0 : 2 ≤ b.length) (hb : 2 ≤ byN b 0) (hb6 : byN b 0 < 6) :
    Calls Tryd.prog 60 #[v, .int .i64 ((f : Int) + 1)] w fun e w' => RdQ B0 w (rdR (f + 1) b) e w' := by
  have HV := Lib.hid hv
  obtain ⟨A, c, rfl, h1, h2, h3⟩ := id hv
  obtain ⟨B, o, rfl, hB, hc⟩ := h3 (by omega)
  have g0 : w.cell? ⟨B, o, none⟩ = some (.int .u8 ((byN b 0 : Nat) : Int)) := hc 0 (by omega)
  have g1 : w.cell? ⟨B, o + 1, none⟩ = some (.int .u8 ((byN b 1 : Nat) : Int)) := hc 1 (by omega)
  obtain ⟨x, hx⟩ : ∃ x, x = byN b 1 := ⟨_, rfl⟩
  have hx2 : x < 256 := hx ▸ byN_lt b 1
  have HX := Lib.hid hx
  rw [← hx] at g1
  have hwx : IntKind.wrap .i64 (x : Int) = (x : Int) := by simp [IntKind.wrap, IntKind.signed, IntKind.bits]; omega
  obtain ⟨R, hR⟩ : ∃ R, R = rdR (f + 1) b := ⟨_, rfl⟩
  rw [← hR]
  have HR := Lib.hid (hR.trans (rdR_num f b h0 hb hb6))
  obtain ⟨y, hy⟩ : ∃ y, y = byN b 0 := ⟨_, rfl⟩
  have hy2 : y < 256 := hy ▸ byN_lt b 0
  have HY := Lib.hid hy
  rw [← hy] at g0 hb hb6
  have hlt : B < w.heap.size := by omega
  have hfi : ¬ ((f : Int) + 1) < 1 := by omega
  have e0 : B ≠ w.heap.size := by omega
  have e1 : B ≠ w.heap.size + 1 := by omega
  have hwr : IntKind.wrap .i64 (y : Int) = (y : Int) := by simp [IntKind.wrap, IntKind.signed, IntKind.bits]; omega
  have hyi : ¬ (y : Int) < 2 := by omega
  have hyj : (y : Int) < 6 := by omega
  obtain ⟨n, hn⟩ : ∃ n, b.length = n + 1 + 1 := ⟨b.length - 2, by omega⟩
  rw [hn]
  have h1n : (1 : Int) ≤ ((n + 1 + 1 : Nat) : Int) := by omega
  have h1m : (1 : Int) ≤ ((n + 1 : Nat) : Int) := by omega
  have HN := Lib.hid hn
  obtain ⟨m, rfl⟩ : ∃ m, c = m + 1 + 1 := ⟨c - 2, by omega⟩
  have hnm : n ≤ m := by omega
  clear h3 hv hc hy hx hn h1 h0 hR
  have hbx := alloc2_below w (Obj.cells #[.int .i64 y, .int .i64 x, .slice none 0 0] 24) (Obj.cells #[.int .i64 y, .int .i64 x, .slice none 0 0] 24)
  have HBX := Lib.hid hbx
  clear hbx
  rcases m with _ | m
  · obtain rfl : n = 0 := by omega
    go_enter Tryd.func60, Tryd.ntmps60
    go_wp2_with fail
    refine bodyPost_ret (results_cell3 rfl _ _ w.heap.size 24 #[.int .i64 y, .int .i64 x, .slice none 0 0] (0, 0) _ rfl (heap_alloc2_old w _ _) Tryd.underlying24 rfl (by kernel_rfl)) rfl ?_
    have hn := HN.out
    have hd : b.drop 2 = [] := List.eq_nil_of_length_eq_zero (by rw [List.length_drop]; omega)
    exact rdq_some (r := []) (by rw [HR.out, hd, HY.out, HX.out]) rfl (SL.nil _ _ _ _ (Nat.zero_le _)) HBX.out
  · go_enter Tryd.func60, Tryd.ntmps60
    go_wp2_with fail
    refine bodyPost_ret (results_cell3 rfl _ _ w.heap.size 24 #[.int .i64 y, .int .i64 x, .slice none 0 0] (0, 0) _ rfl (heap_alloc2_old w _ _) Tryd.underlying24 rfl (by kernel_rfl)) rfl ?_
    have hn := HN.out
    exact rdq_some (r := b.drop 2) (by rw [HR.out, HY.out, HX.out]) (by rw [List.length_drop]; omega) ((sl_tail2 HV.out hn).below (HBX.out.mono hle)) HBX.out



set_option maxRecDepth 100000 in
set_option maxHeartbeats 6400000 in
theorem rr_kids (f : Nat) (b : List UInt8) (v : Value) (w : World) (B0 : Nat) (hle : B0 ≤ w.heap.size) (hv : SL w B0 v b) (h0 : 2 ≤ b.length) (hb : 6 ≤ byN b 0) (hf : f ≤ 1000)
    (HK0 : ∀ (bk : List UInt8) (v : Value) (W : World), B0 ≤ W.heap.size → SL W B0 v bk → Calls Tryd.prog 60 #[v, .int .i64 f] W fun e w' => RdQ B0 W (rdR f bk) e w') :
    Calls Tryd.prog 60 #[v, .int .i64 ((f : Int) + 1)] w fun e w' => RdQ B0 w (rdR (f + 1) b) e w' := by
  have HV := Lib.hid hv
  obtain ⟨A, c, rfl, h1, h2, h3⟩ := id hv
  obtain ⟨B, o, rfl, hB, hc⟩ := h3 (by omega)
  have g0 : w.cell? ⟨B, o, none⟩ = some (.int .u8 ((byN b 0 : Nat) : Int)) := hc 0 (by omega)
  have g1 : w.cell? ⟨B, o + 1, none⟩ = some (.int .u8 ((byN b 1 : Nat) : Int)) := hc 1 (by omega)
  obtain ⟨R, hR⟩ : ∃ R, R = rdR (f + 1) b := ⟨_, rfl⟩
  rw [← hR]
  have HR := Lib.hid (hR.trans (rdR_kids f b h0 hb))
  obtain ⟨x, hx⟩ : ∃ x, x = byN b 1 := ⟨_, rfl⟩
  have hx2 : x < 256 := hx ▸ byN_lt b 1
  have HX := Lib.hid hx
  rw [← hx] at g1
  obtain ⟨y, hy⟩ : ∃ y, y = byN b 0 := ⟨_, rfl⟩
  have hy2 : y < 256 := hy ▸ byN_lt b 0
  have HY := Lib.hid hy
  rw [← hy] at g0 hb
  have hlt : B < w.heap.size := by omega
  have hfi : ¬ ((f : Int) + 1) < 1 := by omega
  have hfw : IntKind.wrap .i64 ((f : Int) + 1 - 1) = (f : Int) := by rw [IntWalk.i64_in _ (by omega)]; omega
  have hfs : (f : Int) + 1 - 1 = (f : Int) := by omega
  have e0 : B ≠ w.heap.size := by omega
  have e1 : B ≠ w.heap.size + 1 := by omega
  have hwr : IntKind.wrap .i64 (y : Int) = (y : Int) := by simp [IntKind.wrap, IntKind.signed, IntKind.bits]; omega
  have hwx : IntKind.wrap .i64 (x : Int) = (x : Int) := by simp [IntKind.wrap, IntKind.signed, IntKind.bits]; omega
  have hyi : ¬ (y : Int) < 2 := by omega
  have hyj : ¬ (y : Int) < 6 := by omega
  obtain ⟨n, hn⟩ : ∃ n, b.length = n + 1 + 1 := ⟨b.length - 2, by omega⟩
  rw [hn]
  have h1n : (1 : Int) ≤ ((n + 1 + 1 : Nat) : Int) := by omega
  have h1m : (1 : Int) ≤ ((n + 1 : Nat) : Int) := by omega
  have HN := Lib.hid hn
  obtain ⟨m, rfl⟩ : ∃ m, c = m + 1 + 1 := ⟨c - 2, by omega⟩
  have hnm : n ≤ m := by omega
  have HK := Lib.hid HK0
  clear h3 hv hc hy hx hn h1 h0 hR HK0
  have HBX := Lib.hid (alloc2_below w (Obj.cells #[.int .i64 0, .int .i64 0, .slice none 0 0] 24) (Obj.cells #[.int .i64 y, .int .i64 0, .slice none 0 0] 24))
  have HR1 := Lib.hid (heap_alloc2_old w (Obj.cells #[.int .i64 0, .int .i64 0, .slice none 0 0] 24) (Obj.cells #[.int .i64 y, .int .i64 0, .slice none 0 0] 24))
  have HR2 := Lib.hid (heap2_new w (Obj.cells #[.int .i64 0, .int .i64 0, .slice none 0 0] 24) (Obj.cells #[.int .i64 y, .int .i64 0, .slice none 0 0] 24))
  rcases m with _ | m
  · obtain rfl : n = 0 := by omega
    go_enter Tryd.func60, Tryd.ntmps60
    go_wp2_with fail
    go_loopw [0, 9] (fun v0 v9 wr => ∃ (bk : List UInt8) (ks : List Cn) (A : Option Addr) (c k : Nat) (Ak : Option Addr) (ck : Nat), v0 = .slice A bk.length c ∧ v9 = .int .i64 k ∧
        Hid (rdS (rdR f) x (b.drop 2) [] = rdS (rdR f) (x - k) bk ks) ∧ Hid (SL wr B0 v0 bk) ∧ Hid (wr.heap[w.heap.size]? = some (.cells #[.int .i64 0, .int .i64 0, .slice none 0 0] 24 (0, 0))) ∧ Hid (wr.heap[w.heap.size + 1]? = some (.cells #[.int .i64 y, .int .i64 0, .slice Ak ks.length ck] 24 (0, 0))) ∧
        Hid (OC wr (w.heap.size + 2) (.slice Ak ks.length ck) ks) ∧ Hid (Below w.heap.size w wr) ∧ Hid (ks.length = k ∧ k ≤ x)) (fun _ v9 _ => x - (match v9 with | Value.int _ k => k.toNat | _ => 0))
    case atStart => 
      have hd2 : (b.drop 2).length = 0 := by rw [List.length_drop, HN.out]
      refine ⟨[], [], _, _, 0, none, 0, rfl, rfl, (show _ = _ by rw [List.eq_nil_of_length_eq_zero hd2]; rfl), ?_, HR1.out, HR2.out, OC.nil _ _, HBX.out, ⟨rfl, Nat.zero_le _⟩⟩
      exact SL.nil _ _ _ _ (Nat.zero_le _)
    case round =>
      obtain ⟨bk, ks, A, c, k, Ak, ck, rfl, rfl, hR, hsl, hrow1, hrow, hoc, hbel, hk⟩ := hrel
      have hk' := hk.out.2
      have hsw := hbel.out.size
      have hl1 : w.heap.size + 1 < wr.heap.size := lt_row' hrow.out
      by_cases hkx : k < x
      · have hki : (k : Int) < (x : Int) := by omega
        go_wp2_with fail
        refine (HK.out bk _ wr (by omega) hsl.out).mono ?_
        rintro e w12 ⟨hb13, h⟩
        have j0 := (hb13.block (w.heap.size + 1) hl1).trans hrow.out
        have i0 := (hb13.block w.heap.size (by omega)).trans hrow1.out
        have hs12 := hb13.size
        have a0 := cell_of_row _ _ 0 _ _ _ j0
        have a1 := cell_of_row _ _ 1 _ _ _ j0
        have a2 := cell_of_row _ _ 2 _ _ _ j0
        have fa2 := frozen_of_row _ _ 2 _ _ j0
        have c0 := cell_of_row _ _ 0 _ _ _ i0
        have c1 := cell_of_row _ _ 1 _ _ _ i0
        have c2 := cell_of_row _ _ 2 _ _ _ i0
        have fc0 := frozen_of_row _ _ 0 _ _ i0
        have fc1 := frozen_of_row _ _ 1 _ _ i0
        have fc2 := frozen_of_row _ _ 2 _ _ i0
        have J0 := Lib.hid j0
        have I0 := Lib.hid i0
        have HB13 := Lib.hid hb13
        have HB12 := Lib.hid (hbel.out.trans (hb13.mono hsw))
        clear j0 i0 hb13
        have hne1 : w.heap.size + 1 ≠ w12.heap.size := by omega
        have hne2 : w12.heap.size ≠ w.heap.size + 1 := by omega
        have hne3 : w.heap.size ≠ w12.heap.size := by omega
        have hne4 : w12.heap.size ≠ w.heap.size := by omega
        have hne5 : w.heap.size + 1 < w12.heap.size := by omega
        have hne6 : w.heap.size < w12.heap.size := by omega
        rcases h with ⟨hno, y0, y1, Ay, ky, cy, rfl⟩ | ⟨kd, r, Ak2, ck2, Ar, cr, hso, rfl, hkc, hsr⟩
        · have HNO := Lib.hid hno
          clear hno
          have hRn : Hid (R = none) := by
            show _ = _
            rw [HR.out, ← HX.out, hR.out]
            obtain ⟨s, hs⟩ : ∃ s, x - k = s + 1 := ⟨x - k - 1, by omega⟩
            rw [hs]
            simp only [rdS, HNO.out]
          go_wp2_with fail
          have hb9 := set3_below HB12.out _ (Nat.le_refl _) (.int .i64 (y : Int)) (.int .i64 0) (.slice Ak ks.length ck)
          have hr9 := row3_set _ _ _ _ _ _ (.int .i64 (y : Int)) (.int .i64 0) (.slice Ak ks.length ck) I0.out
          obtain ⟨W9, hW9⟩ : ∃ W9, W9 = ((w12.setCell ⟨w.heap.size, 0, none⟩ (.int .i64 (y : Int))).setCell ⟨w.heap.size, 1, none⟩ (.int .i64 0)).setCell ⟨w.heap.size, 2, none⟩ (.slice Ak ks.length ck) := ⟨_, rfl⟩
          rw [← hW9] at hb9 hr9 ⊢
          refine bodyPost_ret (results_cell3 rfl _ _ w.heap.size 24 #[.int .i64 y, .int .i64 0, .slice Ak ks.length ck] (0, 0) _ rfl (((alloc_below W9 _).block w.heap.size (lt_row' hr9)).trans hr9) Tryd.underlying24 rfl (by kernel_rfl)) rfl ?_
          rw [hRn.out]
          exact rdq_none (hb9.trans ((alloc_below W9 _).mono hb9.size))
        · have HSO := Lib.hid hso
          have HKC := Lib.hid hkc
          have HSR := Lib.hid hsr
          have hb2 := alloc2_below w12 (Obj.cells #[.int .i64 kd.op, .int .i64 kd.n, .slice Ak2 kd.kids.length ck2] 24) (Obj.cells #[.int .i64 kd.op, .int .i64 kd.n, .slice Ak2 kd.kids.length ck2] 24)
          have hn2 := heap2_new w12 (Obj.cells #[.int .i64 kd.op, .int .i64 kd.n, .slice Ak2 kd.kids.length ck2] 24) (Obj.cells #[.int .i64 kd.op, .int .i64 kd.n, .slice Ak2 kd.kids.length ck2] 24)
          have HB2 := Lib.hid hb2
          have HN2 := Lib.hid hn2
          have HOW := Lib.hid ((hoc.out.later HB13.out).later hb2)
          have HKW := Lib.hid (HKC.out.on hb2)
          have HBL : Hid (∀ b, (Value.slice Ak ks.length ck).ownBlock = some b → b < wr.heap.size) := fun b hb => (hoc.out.ltB b hb).2
          have hz2 := hb2.size
          have HSZ : Hid (w.heap.size + 2 ≤ ((w12.alloc (Obj.cells #[.int .i64 kd.op, .int .i64 kd.n, .slice Ak2 kd.kids.length ck2] 24)).alloc (Obj.cells #[.int .i64 kd.op, .int .i64 kd.n, .slice Ak2 kd.kids.length ck2] 24)).heap.size) := by show _ ≤ _; omega
          have HJ2 := Lib.hid ((hb2.block (w.heap.size + 1) (by omega)).trans J0.out)
          have HI2 := Lib.hid ((hb2.block w.heap.size (by omega)).trans I0.out)
          clear hso hkc hsr hb2 hn2 hz2
          go_wp2_with (at_builtin; go_loud (refine wpList_appC (by rfl) (.tmp 67) (.tmp 69) (by rfl) (w.heap.size + 2) (.slice Ak ks.length ck) ks kd (.slice Ak2 kd.kids.length ck2) (w12.heap.size + 1) wr.heap.size (by rfl) (by rfl) HOW.out HKW.out HBL.out (by omega) HN2.out (by have := hk.out; omega) HSZ.out ?_; intro v8 w8 hv8 hb8; obtain ⟨A8, c8, rfl⟩ := hv8.value; have hr8 := (hb8.block (w.heap.size + 1) (by omega)).trans HJ2.out; have q2 := cell_of_row _ _ 2 _ _ _ hr8; have f2 := frozen_of_row _ _ 2 _ _ hr8))
          have hl8 : (ks ++ [kd]).length = ks.length + 1 := by simp
          have hlk := hk.out.1
          obtain ⟨s, hs⟩ : ∃ s, x - k = s + 1 := ⟨x - k - 1, by omega⟩
          have hs2 : x - (k + 1) = s := by omega
          have hbw : Below (w.heap.size + 1) w12 (w8.setCell ⟨w.heap.size + 1, 2, none⟩ (.slice A8 (ks.length + 1) c8)) := ((HB2.out.mono (by omega)).trans (hb8.mono (Nat.le_succ _))).setCell (p := ⟨w.heap.size + 1, 2, none⟩) (Nat.le_refl _) _
          refine ⟨⟨r, ks ++ [kd], Ar, cr, k + 1, A8, c8, rfl, by go_num, ?_, ?_, ?_, ?_, ?_, ?_, ?_⟩, ?_⟩
          · show _ = _
            rw [hR.out, hs, hs2]
            simp only [rdS, HSO.out]
          · exact HSR.out.below (hbw.mono (by omega))
          · exact (hbw.block w.heap.size (by omega)).trans I0.out
          · show _ = _
            rw [hl8]
            rw [heap_setCell_same _ _ 2 _ _ _ hr8]
            simp
          · show OC _ _ _ _
            have := hv8.setOld (g := w.heap.size + 1) (i := 2) (x := .slice A8 (ks.length + 1) c8) (Nat.lt_succ_self _)
            exact this
          · exact HB12.out.trans (hbw.mono (Nat.le_succ _))
          · exact ⟨by rw [hl8, hlk], by omega⟩
          · simp; omega
      · have hki : ¬ (k : Int) < (x : Int) := by omega
        have z0 := cell_of_row _ _ 0 _ _ _ hrow.out
        have z1 := cell_of_row _ _ 1 _ _ _ hrow.out
        have z2 := cell_of_row _ _ 2 _ _ _ hrow.out
        have c0 := cell_of_row _ _ 0 _ _ _ hrow1.out
        have c1 := cell_of_row _ _ 1 _ _ _ hrow1.out
        have c2 := cell_of_row _ _ 2 _ _ _ hrow1.out
        have fc0 := frozen_of_row _ _ 0 _ _ hrow1.out
        have fc1 := frozen_of_row _ _ 1 _ _ hrow1.out
        have fc2 := frozen_of_row _ _ 2 _ _ hrow1.out
        go_wp2_with fail
        have hx0 : x - k = 0 := by omega
        have hRs : R = some (.mk (y : Int) 0 ks, bk) := by
          rw [HR.out, ← HX.out, hR.out, hx0, ← HY.out]
          rfl
        refine bodyPost_ret (results_cell3 rfl _ _ w.heap.size 24 #[.int .i64 y, .int .i64 0, .slice Ak ks.length ck] (0, 0) _ rfl (row3_set _ _ _ _ _ _ _ _ _ hrow1.out) Tryd.underlying24 rfl (by kernel_rfl)) rfl ?_
        exact ⟨set3_below hbel.out _ (Nat.le_refl _) _ _ _, .inr ⟨.mk (y : Int) 0 ks, bk, Ak, ck, A, c, hRs, rfl, (((hoc.out.setOld (by omega)).setOld (by omega)).setOld (by omega)).kc.fromMore (by omega), hsl.out.below (set3_below (Below.refl B0 wr) _ hle _ _ _)⟩⟩
  ·
    go_enter Tryd.func60, Tryd.ntmps60
    go_wp2_with fail
    go_loopw [0, 9] (fun v0 v9 wr => ∃ (bk : List UInt8) (ks : List Cn) (A : Option Addr) (c k : Nat) (Ak : Option Addr) (ck : Nat), v0 = .slice A bk.length c ∧ v9 = .int .i64 k ∧
        Hid (rdS (rdR f) x (b.drop 2) [] = rdS (rdR f) (x - k) bk ks) ∧ Hid (SL wr B0 v0 bk) ∧ Hid (wr.heap[w.heap.size]? = some (.cells #[.int .i64 0, .int .i64 0, .slice none 0 0] 24 (0, 0))) ∧ Hid (wr.heap[w.heap.size + 1]? = some (.cells #[.int .i64 y, .int .i64 0, .slice Ak ks.length ck] 24 (0, 0))) ∧
        Hid (OC wr (w.heap.size + 2) (.slice Ak ks.length ck) ks) ∧ Hid (Below w.heap.size w wr) ∧ Hid (ks.length = k ∧ k ≤ x)) (fun _ v9 _ => x - (match v9 with | Value.int _ k => k.toNat | _ => 0))
    case atStart => 
      have hd2 : (b.drop 2).length = n := by rw [List.length_drop, HN.out]; omega
      refine ⟨b.drop 2, [], _, _, 0, none, 0, by rw [hd2], rfl, rfl, ?_, HR1.out, HR2.out, OC.nil _ _, HBX.out, ⟨rfl, Nat.zero_le _⟩⟩
      exact (sl_tail2 HV.out HN.out).below (HBX.out.mono hle)
    case round =>
      obtain ⟨bk, ks, A, c, k, Ak, ck, rfl, rfl, hR, hsl, hrow1, hrow, hoc, hbel, hk⟩ := hrel
      have hk' := hk.out.2
      have hsw := hbel.out.size
      have hl1 : w.heap.size + 1 < wr.heap.size := lt_row' hrow.out
      by_cases hkx : k < x
      · have hki : (k : Int) < (x : Int) := by omega
        go_wp2_with fail
        refine (HK.out bk _ wr (by omega) hsl.out).mono ?_
        rintro e w12 ⟨hb13, h⟩
        have j0 := (hb13.block (w.heap.size + 1) hl1).trans hrow.out
        have i0 := (hb13.block w.heap.size (by omega)).trans hrow1.out
        have hs12 := hb13.size
        have a0 := cell_of_row _ _ 0 _ _ _ j0
        have a1 := cell_of_row _ _ 1 _ _ _ j0
        have a2 := cell_of_row _ _ 2 _ _ _ j0
        have fa2 := frozen_of_row _ _ 2 _ _ j0
        have c0 := cell_of_row _ _ 0 _ _ _ i0
        have c1 := cell_of_row _ _ 1 _ _ _ i0
        have c2 := cell_of_row _ _ 2 _ _ _ i0
        have fc0 := frozen_of_row _ _ 0 _ _ i0
        have fc1 := frozen_of_row _ _ 1 _ _ i0
        have fc2 := frozen_of_row _ _ 2 _ _ i0
        have J0 := Lib.hid j0
        have I0 := Lib.hid i0
        have HB13 := Lib.hid hb13
        have HB12 := Lib.hid (hbel.out.trans (hb13.mono hsw))
        clear j0 i0 hb13
        have hne1 : w.heap.size + 1 ≠ w12.heap.size := by omega
        have hne2 : w12.heap.size ≠ w.heap.size + 1 := by omega
        have hne3 : w.heap.size ≠ w12.heap.size := by omega
        have hne4 : w12.heap.size ≠ w.heap.size := by omega
        have hne5 : w.heap.size + 1 < w12.heap.size := by omega
        have hne6 : w.heap.size < w12.heap.size := by omega
        rcases h with ⟨hno, y0, y1, Ay, ky, cy, rfl⟩ | ⟨kd, r, Ak2, ck2, Ar, cr, hso, rfl, hkc, hsr⟩
        · have HNO := Lib.hid hno
          clear hno
          have hRn : Hid (R = none) := by
            show _ = _
            rw [HR.out, ← HX.out, hR.out]
            obtain ⟨s, hs⟩ : ∃ s, x - k = s + 1 := ⟨x - k - 1, by omega⟩
            rw [hs]
            simp only [rdS, HNO.out]
          go_wp2_with fail
          have hb9 := set3_below HB12.out _ (Nat.le_refl _) (.int .i64 (y : Int)) (.int .i64 0) (.slice Ak ks.length ck)
          have hr9 := row3_set _ _ _ _ _ _ (.int .i64 (y : Int)) (.int .i64 0) (.slice Ak ks.length ck) I0.out
          obtain ⟨W9, hW9⟩ : ∃ W9, W9 = ((w12.setCell ⟨w.heap.size, 0, none⟩ (.int .i64 (y : Int))).setCell ⟨w.heap.size, 1, none⟩ (.int .i64 0)).setCell ⟨w.heap.size, 2, none⟩ (.slice Ak ks.length ck) := ⟨_, rfl⟩
          rw [← hW9] at hb9 hr9 ⊢
          refine bodyPost_ret (results_cell3 rfl _ _ w.heap.size 24 #[.int .i64 y, .int .i64 0, .slice Ak ks.length ck] (0, 0) _ rfl (((alloc_below W9 _).block w.heap.size (lt_row' hr9)).trans hr9) Tryd.underlying24 rfl (by kernel_rfl)) rfl ?_
          rw [hRn.out]
          exact rdq_none (hb9.trans ((alloc_below W9 _).mono hb9.size))
        · have HSO := Lib.hid hso
          have HKC := Lib.hid hkc
          have HSR := Lib.hid hsr
          have hb2 := alloc2_below w12 (Obj.cells #[.int .i64 kd.op, .int .i64 kd.n, .slice Ak2 kd.kids.length ck2] 24) (Obj.cells #[.int .i64 kd.op, .int .i64 kd.n, .slice Ak2 kd.kids.length ck2] 24)
          have hn2 := heap2_new w12 (Obj.cells #[.int .i64 kd.op, .int .i64 kd.n, .slice Ak2 kd.kids.length ck2] 24) (Obj.cells #[.int .i64 kd.op, .int .i64 kd.n, .slice Ak2 kd.kids.length ck2] 24)
          have HB2 := Lib.hid hb2
          have HN2 := Lib.hid hn2
          have HOW := Lib.hid ((hoc.out.later HB13.out).later hb2)
          have HKW := Lib.hid (HKC.out.on hb2)
          have HBL : Hid (∀ b, (Value.slice Ak ks.length ck).ownBlock = some b → b < wr.heap.size) := fun b hb => (hoc.out.ltB b hb).2
          have hz2 := hb2.size
          have HSZ : Hid (w.heap.size + 2 ≤ ((w12.alloc (Obj.cells #[.int .i64 kd.op, .int .i64 kd.n, .slice Ak2 kd.kids.length ck2] 24)).alloc (Obj.cells #[.int .i64 kd.op, .int .i64 kd.n, .slice Ak2 kd.kids.length ck2] 24)).heap.size) := by show _ ≤ _; omega
          have HJ2 := Lib.hid ((hb2.block (w.heap.size + 1) (by omega)).trans J0.out)
          have HI2 := Lib.hid ((hb2.block w.heap.size (by omega)).trans I0.out)
          clear hso hkc hsr hb2 hn2 hz2
          go_wp2_with (at_builtin; go_loud (refine wpList_appC (by rfl) (.tmp 67) (.tmp 69) (by rfl) (w.heap.size + 2) (.slice Ak ks.length ck) ks kd (.slice Ak2 kd.kids.length ck2) (w12.heap.size + 1) wr.heap.size (by rfl) (by rfl) HOW.out HKW.out HBL.out (by omega) HN2.out (by have := hk.out; omega) HSZ.out ?_; intro v8 w8 hv8 hb8; obtain ⟨A8, c8, rfl⟩ := hv8.value; have hr8 := (hb8.block (w.heap.size + 1) (by omega)).trans HJ2.out; have q2 := cell_of_row _ _ 2 _ _ _ hr8; have f2 := frozen_of_row _ _ 2 _ _ hr8))
          have hl8 : (ks ++ [kd]).length = ks.length + 1 := by simp
          have hlk := hk.out.1
          obtain ⟨s, hs⟩ : ∃ s, x - k = s + 1 := ⟨x - k - 1, by omega⟩
          have hs2 : x - (k + 1) = s := by omega
          have hbw : Below (w.heap.size + 1) w12 (w8.setCell ⟨w.heap.size + 1, 2, none⟩ (.slice A8 (ks.length + 1) c8)) := ((HB2.out.mono (by omega)).trans (hb8.mono (Nat.le_succ _))).setCell (p := ⟨w.heap.size + 1, 2, none⟩) (Nat.le_refl _) _
          refine ⟨⟨r, ks ++ [kd], Ar, cr, k + 1, A8, c8, rfl, by go_num, ?_, ?_, ?_, ?_, ?_, ?_, ?_⟩, ?_⟩
          · show _ = _
            rw [hR.out, hs, hs2]
            simp only [rdS, HSO.out]
          · exact HSR.out.below (hbw.mono (by omega))
          · exact (hbw.block w.heap.size (by omega)).trans I0.out
          · show _ = _
            rw [hl8]
            rw [heap_setCell_same _ _ 2 _ _ _ hr8]
            simp
          · show OC _ _ _ _
            have := hv8.setOld (g := w.heap.size + 1) (i := 2) (x := .slice A8 (ks.length + 1) c8) (Nat.lt_succ_self _)
            exact this
          · exact HB12.out.trans (hbw.mono (Nat.le_succ _))
          · exact ⟨by rw [hl8, hlk], by omega⟩
          · simp; omega
      · have hki : ¬ (k : Int) < (x : Int) := by omega
        have z0 := cell_of_row _ _ 0 _ _ _ hrow.out
        have z1 := cell_of_row _ _ 1 _ _ _ hrow.out
        have z2 := cell_of_row _ _ 2 _ _ _ hrow.out
        have c0 := cell_of_row _ _ 0 _ _ _ hrow1.out
        have c1 := cell_of_row _ _ 1 _ _ _ hrow1.out
        have c2 := cell_of_row _ _ 2 _ _ _ hrow1.out
        have fc0 := frozen_of_row _ _ 0 _ _ hrow1.out
        have fc1 := frozen_of_row _ _ 1 _ _ hrow1.out
        have fc2 := frozen_of_row _ _ 2 _ _ hrow1.out
        go_wp2_with fail
        have hx0 : x - k = 0 := by omega
        have hRs : R = some (.mk (y : Int) 0 ks, bk) := by
          rw [HR.out, ← HX.out, hR.out, hx0, ← HY.out]
          rfl
        refine bodyPost_ret (results_cell3 rfl _ _ w.heap.size 24 #[.int .i64 y, .int .i64 0, .slice Ak ks.length ck] (0, 0) _ rfl (row3_set _ _ _ _ _ _ _ _ _ hrow1.out) Tryd.underlying24 rfl (by kernel_rfl)) rfl ?_
        exact ⟨set3_below hbel.out _ (Nat.le_refl _) _ _ _, .inr ⟨.mk (y : Int) 0 ks, bk, Ak, ck, A, c, hRs, rfl, (((hoc.out.setOld (by omega)).setOld (by omega)).setOld (by omega)).kc.fromMore (by omega), hsl.out.below (set3_below (Below.refl B0 wr) _ hle _ _ _)⟩⟩
theorem rread_any : ∀ (f : Nat) (b : List UInt8) (v : Value) (w : World) (B0 : Nat), f ≤ 1000 → B0 ≤ w.heap.size → SL w B0 v b → Calls Tryd.prog 60 #[v, .int .i64 f] w fun e w' => RdQ B0 w (rdR f b) e w'
  | 0, b, v, w, B0, _, _, hv => rr_zero b v w B0 hv
  | f + 1, b, v, w, B0, hf, hle, hv => by
    rcases Nat.eq_zero_or_pos b.length with h0 | h0
    · have : b = [] := List.eq_nil_of_length_eq_zero h0
      subst this
      exact rr_empty (f + 1) v w B0 hv
    · rw [show (((f + 1 : Nat) : Int)) = (f : Int) + 1 by omega]
      by_cases h1 : byN b 0 < 2
      · exact rr_plain f b v w B0 hle hv h0 h1
      by_cases h2 : b.length = 1
      · exact rr_short f b v w B0 hle hv h2 (by omega)
      by_cases h3 : byN b 0 < 6
      · exact rr_num f b v w B0 hle hv (by omega) (by omega) h3
      · exact rr_kids f b v w B0 hle hv (by omega) (by omega) (by omega) fun bk v' W hW hs => rread_any f bk v' W B0 (by omega) hW hs



set_option maxRecDepth 100000 in
set_option maxHeartbeats 6400000 in
theorem rencr_anyU (rs : List Rl) (v : Value) (w : World) (hk : RL w w.heap.size v rs) (hc : ∀ (k : Nat) (h : k < rs.length), rs[k].cond.cnt ≤ 3000000) :
    Calls Tryd.prog 30 #[v] w (EnrP rs w) := by
  have HV := Lib.hid (rchr_anyU rs v w hk hc)
  obtain ⟨A, cap, rfl, h1, h2, h3⟩ := id hk
  unfold maxLen at h2
  have HK := Lib.hid hk
  clear hk hc
  by_cases h0 : chkR rs = 0
  · have hs0 : chkS rs = 0 := by
      unfold chkR at h0
      by_cases h8 : 8 < rs.length
      · rw [if_pos h8] at h0; omega
      · rw [if_neg h8] at h0; exact h0
    have h8 : rs.length ≤ 8 := by
      unfold chkR at h0
      by_cases h8 : 8 < rs.length
      · rw [if_pos h8] at h0; omega
      · omega
    have HG := Lib.hid fun k hk => chkS_get rs k hk hs0
    have HRE : Hid (rE rs = encE (rts rs)) := if_pos h0
    have HRM : Hid (rM rs = encM (rts rs)) := if_pos h0
    have HL : Hid ((encL (rts rs)).length ≤ 100000) := by
      show _ ≤ _
      have := rts_len rs (fun k hk => (chk_len (HG.out k hk).2).1)
      omega
    rw [h0] at HV
    clear h0 hs0
    go_enter Tryd.func30, Tryd.ntmps30
    go_wp2_with fail
    refine HV.out.mono ?_
    rintro e w1 ⟨rfl, hb1⟩
    have HB1 := Lib.hid hb1
    clear hb1
    go_wp2_with fail
    go_loopw [5, 6] (fun q i wr => ∃ (k : Nat), k ≤ rs.length ∧ i = .int .i64 k ∧ Hid (OT wr w.heap.size q ((rs.take k).map rby)) ∧ Hid (Below w.heap.size w wr)) (fun _ i _ => rs.length - (intOf i).toNat)
    case atStart => exact ⟨0, Nat.zero_le _, rfl, by rw [List.take_zero]; exact OT.nil _ _, HB1⟩
    case round =>
      obtain ⟨k, hkl, rfl, HO, HB⟩ := hrel
      by_cases hlt : k < rs.length
      · obtain ⟨b1, o1, rfl, hb1, hts⟩ := h3.out (by omega)
        have hra := (hts k hlt).keep hb1 HB.out.size (fun p hp => HB.out.cell hp)
        have hg := HG.out k hlt
        have htk : (rs.take (k + 1)).map rby = (rs.take k).map rby ++ [rby rs[k]] := by
          rw [List.take_succ_eq_append_getElem hlt, List.map_append]; rfl
        obtain ⟨r, hr⟩ : ∃ r, r = rs[k] := ⟨_, rfl⟩
        rw [← hr] at hra hg htk
        clear hts hr
        obtain ⟨ops, c⟩ := r
        obtain ⟨g0, hca⟩ := hra
        obtain ⟨A2, c2, g1, g2, g3, hu⟩ := hca.cells
        simp only at g0 g1 g2 g3 hu hg
        obtain ⟨hg1, hg2⟩ := hg
        have hops : 1 ≤ ops ∧ ops ≤ 255 := by unfold opsB at hg1; simpa using hg1
        obtain ⟨hop1, hop2⟩ := hops
        have hcl := chk_len hg2
        have hcc := Cn.enc_cnt c
        have hok := chk_ok hg2
        have hsb := HB.out.size
        obtain ⟨D, hD⟩ : ∃ D : Nat, ops = (D : Int) := ⟨ops.toNat, by omega⟩
        subst hD
        have hba := alloc_below wr (Obj.cells #[Value.int IntKind.u8 (D : Int)] 5)
        have HBA := Lib.hid hba
        have HBD := Lib.hid ((Below.refl wr.heap.size wr).drew)
        have HV : Hid (∀ W, Below wr.heap.size wr W → Calls Tryd.prog 55 #[.agg #[.int .i64 c.op, .int .i64 c.n, .slice A2 c.kids.length c2]] W (BytP c.enc W)) := fun W hW => byt_any (c.dep + 1) c (by omega) (.slice A2 c.kids.length c2) W hok (by omega) (hu.on hW)
        unfold BytP at HV
        have HTK := Lib.hid htk
        obtain ⟨A5, c5, hq5⟩ := HO.out.value
        rw [show ((rs.take k).map rby).length = k by simp; omega] at hq5
        subst hq5
        have i1 : (0 : Int) ≤ (k : Int) := by omega
        have i2 : (k : Int) < (rs.length : Int) := by omega
        have hbb : b1 < wr.heap.size := by omega
        have j1 : 0 ≤ (D : Int) := by omega
        have j2 : (D : Int) ≤ 255 := by omega
        have HSF : Hid (∀ W, Below wr.heap.size wr W → W.cell? ⟨b1, o1 + k * 4, none⟩ = some (.int .i64 (D : Int)) ∧ W.cell? ⟨b1, o1 + k * 4 + 1, none⟩ = some (.int .i64 c.op) ∧ W.cell? ⟨b1, o1 + k * 4 + 1 + 1, none⟩ = some (.int .i64 c.n) ∧ W.cell? ⟨b1, o1 + k * 4 + 1 + 2, none⟩ = some (.slice A2 c.kids.length c2)) := fun W hW => ⟨(hW.cell (p := ⟨b1, o1 + k * 4, none⟩) hbb).trans g0, (hW.cell (p := ⟨b1, o1 + k * 4 + 1, none⟩) hbb).trans g1, (hW.cell (p := ⟨b1, o1 + k * 4 + 1 + 1, none⟩) hbb).trans g2, (hW.cell (p := ⟨b1, o1 + k * 4 + 1 + 2, none⟩) hbb).trans g3⟩
        have HSF0 : Hid (∀ W, Below w.heap.size w W → W.cell? ⟨b1, o1 + k * 4, none⟩ = some (.int .i64 (D : Int)) ∧ W.cell? ⟨b1, o1 + k * 4 + 1, none⟩ = some (.int .i64 c.op) ∧ W.cell? ⟨b1, o1 + k * 4 + 1 + 1, none⟩ = some (.int .i64 c.n) ∧ W.cell? ⟨b1, o1 + k * 4 + 1 + 2, none⟩ = some (.slice A2 c.kids.length c2)) := fun W hW => ⟨((hW.cell (p := ⟨b1, o1 + k * 4, none⟩) hb1).trans (HB.out.cell (p := ⟨b1, o1 + k * 4, none⟩) hb1).symm).trans g0, ((hW.cell (p := ⟨b1, o1 + k * 4 + 1, none⟩) hb1).trans (HB.out.cell (p := ⟨b1, o1 + k * 4 + 1, none⟩) hb1).symm).trans g1, ((hW.cell (p := ⟨b1, o1 + k * 4 + 1 + 1, none⟩) hb1).trans (HB.out.cell (p := ⟨b1, o1 + k * 4 + 1 + 1, none⟩) hb1).symm).trans g2, ((hW.cell (p := ⟨b1, o1 + k * 4 + 1 + 2, none⟩) hb1).trans (HB.out.cell (p := ⟨b1, o1 + k * 4 + 1 + 2, none⟩) hb1).symm).trans g3⟩
        have hn1 := heap_alloc_new wr (Obj.cells #[Value.int IntKind.u8 (D : Int)] 5)
        have HN1 := Lib.hid hn1
        have HL1 := Lib.hid (show wr.heap.size < (wr.alloc (Obj.cells #[Value.int IntKind.u8 (D : Int)] 5)).drew.heap.size by show wr.heap.size < (wr.alloc (Obj.cells #[Value.int IntKind.u8 (D : Int)] 5)).heap.size; rw [alloc_size]; omega)
        have HOBF : Hid (∀ (W : World) (B : Nat), wr.heap.size ≤ B → W.heap[B]? = some (Obj.cells #[Value.int IntKind.u8 (D : Int)] 5) → OB W wr.heap.size (.slice (some ⟨B, 0, none⟩) 1 1) [UInt8.ofNat D]) := fun W B hB hc => OB.of_cells (w := W) (base := wr.heap.size) (g := B) (n := 1) (l := [UInt8.ofNat D]) hB rfl (by unfold maxLen; omega) (by rw [hc]; simp [bv]; omega)
        have w9 : IntKind.u8.wrap (D : Int) = (D : Int) := by rw [IntWalk.u8_in _ (by omega)]
        obtain ⟨x, hx⟩ : ∃ x, x = c.enc := ⟨_, rfl⟩
        rw [← hx] at HV
        obtain ⟨m8, hm8⟩ : ∃ m, m = [UInt8.ofNat D] ++ x := ⟨_, rfl⟩
        have HM8 := Lib.hid hm8
        have HMY : Hid (m8 = rby ⟨(D : Int), c⟩) := by show _ = _; rw [hm8, hx]; rfl
        have HNEV : Hid (∀ (W : World) (A : Option Addr) (cc : Nat), OB W wr.heap.size (.slice A m8.length cc) m8 → 0 < m8.length → (Value.slice A m8.length cc).ownBlock ≠ (Value.slice A5 k c5).ownBlock) := fun W A cc hob hp e => by
          obtain ⟨bb, oo, rfl, hlb, _⟩ := hob.sl.rd2 hp
          have h1 := (HO.out.ltB bb e.symm).2
          have h2 := (hob.ltB bb rfl).1
          omega
        have HLX := Lib.hid (show ([UInt8.ofNat D]).length + x.length ≤ 100000000 by rw [hx]; simp; omega)
        have HWB := Lib.hid HB.out.size
        have hlk : ((rs.take k).map rby).length ≤ 1000 := by simp; omega
        have HLK := Lib.hid hlk
        clear hca hu htk hba hn1 hx hm8 hlk
        go_wp2_with fail
        go_region_held3 (fun w' => w'.cell? ⟨b1, o1 + k * 4, none⟩ = some (.int .i64 (D : Int)) ∧ w'.cell? ⟨b1, o1 + k * 4 + 1, none⟩ = some (.int .i64 c.op) ∧ w'.cell? ⟨b1, o1 + k * 4 + 1 + 1, none⟩ = some (.int .i64 c.n) ∧ w'.cell? ⟨b1, o1 + k * 4 + 1 + 2, none⟩ = some (.slice A2 c.kids.length c2))
          (first
            | (go_keep; done)
            | exact HSF0.out _ hb10
            | exact HSF.out _ HB8.out
            | exact HSF.out _ hb8'
            | exact HSF.out _ hbx0
            | exact HSF.out _ (hbx0.trans ((alloc_below _ _).mono hbx0.size)))
          (first
            | (go_at_call 55; (with_reducible refine (HV.out _ HBA.out.drew).mono ?_); rintro e wx ⟨A7, c7, rfl, hsl, hbx⟩; have hbx0 := HBA.out.drew.trans (hbx.mono HBA.out.drew.size); have hobx := HOBF.out wx wr.heap.size (Nat.le_refl _) ((hbx.block wr.heap.size HL1.out).trans HN1.out); clear hbx)
            | (go_at_call 55; (with_reducible refine (HV.out _ HBD.out).mono ?_); rintro e wx ⟨A7, c7, rfl, hsl, hbx⟩; have hbx0 := HBD.out.trans (hbx.mono HBD.out.size); clear hbx)
            | (refine step_appS (by rfl) _ _ (by rfl) wx wr.heap.size _ [UInt8.ofNat D] x A7 c7 (by rfl) (by rfl) (Below.refl _ _) hobx (hsl.put (Below.refl _ wx)) HLX.out hbx0.size ?_; intro v8 w8 hob8 hb8; have hb8' := hbx0.trans hb8; clear hb8; rw [← HM8.out] at hob8; obtain ⟨A8, c8, rfl⟩ := hob8.value; have HO8 := Lib.hid ((HO.out.later hb8').later (alloc_below w8 (Obj.cells #[Value.int IntKind.i64 128, Value.slice A8 m8.length c8, Value.slice none 0 0] 70))); have HS8 := Lib.hid (hob8.sl.on (alloc_below w8 (Obj.cells #[Value.int IntKind.i64 128, Value.slice A8 m8.length c8, Value.slice none 0 0] 70))); have HNE8 := Lib.hid (HNEV.out w8 A8 c8 hob8); have HB8 := Lib.hid (hb8'.trans ((alloc_below w8 (Obj.cells #[Value.int IntKind.i64 128, Value.slice A8 m8.length c8, Value.slice none 0 0] 70)).mono hb8'.size)); have HZ8 := Lib.hid (Nat.le_trans HWB.out HB8.out.size); have hn8 := heap_alloc_new w8 (Obj.cells #[Value.int IntKind.i64 128, Value.slice A8 m8.length c8, Value.slice none 0 0] 70); clear hob8)
            | (refine step_appS (by rfl) _ _ (by rfl) (wx.alloc (Obj.cells #[Value.int IntKind.u8 (D : Int)] 5)) wr.heap.size _ [UInt8.ofNat D] x A7 c7 (by rfl) (by rfl) (Below.refl _ _) (HOBF.out _ wx.heap.size hbx0.size (heap_alloc_new _ _)) (hsl.put (alloc_below _ _)) HLX.out (Nat.le_trans hbx0.size (alloc_below wx _).size) ?_; intro v8 w8 hob8 hb8; have hb8' := (hbx0.trans ((alloc_below wx _).mono hbx0.size)).trans hb8; clear hb8; rw [← HM8.out] at hob8; obtain ⟨A8, c8, rfl⟩ := hob8.value; have HO8 := Lib.hid ((HO.out.later hb8').later (alloc_below w8 (Obj.cells #[Value.int IntKind.i64 128, Value.slice A8 m8.length c8, Value.slice none 0 0] 70))); have HS8 := Lib.hid (hob8.sl.on (alloc_below w8 (Obj.cells #[Value.int IntKind.i64 128, Value.slice A8 m8.length c8, Value.slice none 0 0] 70))); have HNE8 := Lib.hid (HNEV.out w8 A8 c8 hob8); have HB8 := Lib.hid (hb8'.trans ((alloc_below w8 (Obj.cells #[Value.int IntKind.i64 128, Value.slice A8 m8.length c8, Value.slice none 0 0] 70)).mono hb8'.size)); have HZ8 := Lib.hid (Nat.le_trans HWB.out HB8.out.size); have hn8 := heap_alloc_new w8 (Obj.cells #[Value.int IntKind.i64 128, Value.slice A8 m8.length c8, Value.slice none 0 0] 70); clear hob8)
            | (refine step_appT (by rfl) _ _ (by rfl) w.heap.size _ ((rs.take k).map rby) _ m8 w8.heap.size (by rfl) (by rfl) HO8.out HS8.out HNE8.out hn8 HLK.out HZ8.out ?_; intro v9 w9' hot9 hb9; have hb9' := HB.out.trans (HB8.out.mono HWB.out); have hb10 := hb9'.trans hb9))
        all_goals
          have HOT9 := Lib.hid hot9
          have HB10 := Lib.hid hb10
          clear hot9 hb10
          go_wp2_with fail
          go_roundw
          case rel => exact ⟨k + 1, by omega, by go_num, by rw [HTK.out, ← HMY.out]; exact HOT9.out, HB10⟩
          case measure => simp [intOf]; omega
      · have hot := HO.out
        rw [show k = rs.length by omega, List.take_length] at hot
        have htl := hot.tl
        have e : (rs.map rby).map tObj = rts rs := by rw [List.map_map]; rfl
        rw [e] at htl
        have HE := Lib.hid (rencode_any (rts rs) _ wr htl)
        clear htl hot e
        go_wp2_with fail
        refine HE.out.mono ?_
        rintro e w5 ⟨v5, rfl, hsl5, hb5⟩
        have HB5 := Lib.hid (HB.out.trans (hb5.mono HB.out.size))
        obtain ⟨A6, c6, rfl, _⟩ := id hsl5
        have HSL5 := Lib.hid hsl5
        clear hsl5 hb5
        go_wp2_with fail
        go_ret2
        exact ⟨.slice A6 (encM (rts rs)).length c6, by rw [HRE.out]; rfl, by rw [HRM.out]; exact HSL5.out, HB5.out⟩
  · have HRE : Hid (rE rs = chkR rs) := if_neg h0
    have HRM : Hid (rM rs = []) := if_neg h0
    generalize chkR rs = E at *
    have he1 : (E != 0) = true := by simpa using h0
    have he2 : (E == 0) = false := by simpa using h0
    have he3 : decide (E = 0) = false := decide_eq_false h0
    go_enter Tryd.func30, Tryd.ntmps30
    go_wp2_with fail
    refine HV.out.mono ?_
    rintro e w1 ⟨rfl, hb1⟩
    go_wp2_with fail
    go_ret2
    exact ⟨.slice none 0 0, by rw [HRE.out]; rfl, by rw [HRM.out]; exact SL.nil _ _ _ _ (Nat.zero_le _), hb1⟩


/-- One rule appended, at a step of a region that draws. -/
theorem step_appR {ops : Array Oper} {o : Oper} {a : Act} {W : World} {K : Act → World → Prop} {Q : Exit → Act → World → Prop} {E : Prop} (hgd : o.guard = none) (s x : Operand)
    (ho : o.op = .call { callee := .builtin .append, args := #[s, x], argTypes := #[33, 33] }) (base : Nat) (v : Value) (ts : List Rl) (t : Rl) (k : Value) (B lo : Nat)
    (hs : a.eval s = v) (hx : a.eval x = .slice (some ⟨B, 0, none⟩) 1 1) (hown : OR W base v ts)
    (hk : KC W (From W lo) k t.cond.kids) (hlo : ∀ b, v.ownBlock = some b → b < lo) (hbl : base ≤ lo) (hB : W.heap[B]? = some (.cells #[.int .i64 t.ops, .int .i64 t.cond.op, .int .i64 t.cond.n, k] 53 (0, 0)))
    (hlen : ts.length ≤ 1000000) (hbase : base ≤ W.heap.size)
    (h : ∀ v' w', OR w' base v' (ts ++ [t]) → Below base W w' → (∀ b o, b < W.heap.size → v.ownBlock ≠ some b → w'.cell? ⟨b, o, none⟩ = W.cell? ⟨b, o, none⟩) → K (a.put o.dst v') w') : if Region.wanted o (yielded ops a.tmps) = true then Oper.wp Tryd.prog o a W K Q else E := by
  obtain ⟨i0, hi0, hz0, hz1, hz2⟩ := info_parts info48z
  obtain ⟨cs, h1, h2⟩ := hown
  have hn : DR W (Offs W base v.ownBlock) [.int .i64 t.ops, .int .i64 t.cond.op, .int .i64 t.cond.n, k] [t] := by
    have hS : ∀ b, From W lo b → Offs W base v.ownBlock b ∧ ∀ o, W.cell? ⟨b, o, none⟩ = W.cell? ⟨b, o, none⟩ := fun b hb =>
      ⟨⟨Nat.le_trans hbl hb.1, hb.2, fun e => absurd (hlo b e) (by have := hb.1; omega)⟩, fun _ => rfl⟩
    exact .cons rfl rfl rfl (hk.keep hS) .nil
  refine step_append_lies W hgd s x 33 ho base 53 i0 (.agg #[.int .i64 0, .int .i64 0, .int .i64 0, .slice none 0 0]) 4 48 Tryd.underlying33 hi0 hz0 hz1 hz2 rfl (by omega) v ts.length cs hs h1 ⟨B, 0, none⟩ 1 1 [.int .i64 t.ops, .int .i64 t.cond.op, .int .i64 t.cond.n, k] hx rfl
    (World.news_of_block (cs := #[.int .i64 t.ops, .int .i64 t.cond.op, .int .i64 t.cond.n, k]) hB) hn.one (by omega) (by simp only [maxLen]; omega) (by omega) hbase W.heap.size rfl fun g cap w' k1 k2 k3 k4 => ?_
  have hbel : Below base W w' := (Below.refl _ _).grown k2 hbase (fun k hk => (h1.lt k hk).1)
  refine h _ w' ⟨cs ++ [.int .i64 t.ops, .int .i64 t.cond.op, .int .i64 t.cond.n, k], ?_, (h2.app hn).keep fun b hS => ⟨⟨hS.1, Nat.lt_of_lt_of_le hS.2.1 hbel.size, fun e => ?_⟩, fun o => ?_⟩⟩ hbel (fun b o hb hne => k2.cell_far _ hb (fun e => hne e.symm))
  · rw [List.length_append]; exact k1
  · have e2 : g = b := Option.some.inj e
    rcases k3 with k3 | k3
    · exact hS.2.2 (by rw [k3, e2])
    · have := hS.2.1; omega
  · exact k2.cell_far _ hS.2.1 (fun e => hS.2.2 e.symm)

mutual
theorem rdR_cnt : ∀ (f : Nat) (b : List UInt8) (t : Cn) (r : List UInt8), rdR f b = some (t, r) → t.cnt + r.length ≤ b.length
  | 0, b, t, r, h => by unfold rdR at h; cases h
  | f + 1, b, t, r, h => by
    unfold rdR at h
    split at h
    · cases h
    split at h
    · simp only [Option.some.injEq, Prod.mk.injEq] at h
      rw [← h.2, ← h.1, List.length_drop]
      simp only [Cn.cnt, cntK]
      omega
    split at h
    · cases h
    split at h
    · simp only [Option.some.injEq, Prod.mk.injEq] at h
      rw [← h.2, ← h.1, List.length_drop]
      simp only [Cn.cnt, cntK]
      omega
    · cases e : rdS (rdR f) (byN b 1) (b.drop 2) [] with
      | none => rw [e] at h; cases h
      | some p =>
        obtain ⟨ks, r'⟩ := p
        rw [e] at h
        simp only [Option.some.injEq, Prod.mk.injEq] at h
        have := rdSR_cnt f (byN b 1) (b.drop 2) [] ks r' e
        simp only [cntK, List.length_drop] at this
        rw [← h.2, ← h.1]
        simp only [Cn.cnt]
        omega
theorem rdSR_cnt : ∀ (f n : Nat) (b : List UInt8) (acc ks : List Cn) (r : List UInt8), rdS (rdR f) n b acc = some (ks, r) → cntK ks + r.length ≤ cntK acc + b.length
  | f, 0, b, acc, ks, r, h => by
    simp only [rdS, Option.some.injEq, Prod.mk.injEq] at h
    rw [← h.2, ← h.1]; exact Nat.le_refl _
  | f, n + 1, b, acc, ks, r, h => by
    simp only [rdS] at h
    cases e : rdR f b with
    | none => rw [e] at h; cases h
    | some p =>
      obtain ⟨t, r'⟩ := p
      rw [e] at h
      have h1 := rdR_cnt f b t r' e
      have h2 := rdSR_cnt f n r' (acc ++ [t]) ks r h
      rw [cntK_app] at h2
      simp only [cntK] at h2
      omega
end

set_option maxRecDepth 100000 in
set_option maxHeartbeats 6400000 in
theorem rdeca_any (b : List UInt8) (v : Value) (w : World) (hv : SL w w.heap.size v b) (hl : b.length ≤ 1700) : Calls Tryd.prog 32 #[v] w (RaP w (decB b)) := by
  have HD := Lib.hid (rdecode_any b v w hv)
  obtain ⟨E, ts, hdr⟩ : ∃ E ts, decR b = (E, ts) := ⟨_, _, rfl⟩
  have hdec : decB b = if E ≠ 0 then (E, []) else match rulSR ts [] with | none => (4, []) | some rs => if rE rs = 0 ∧ rM rs = b then (0, rs) else (4, []) := by unfold decB; rw [hdr]; rfl
  have hsm : E = 0 → ∀ (k : Nat) (h : k < ts.length), ts[k].val.length ≤ 1700 := fun he k h => by
    have := decR_ok (b := b) (by rw [hdr]; exact he)
    rw [hdr] at this
    have h2 := val_len ts k h
    rw [this.2.2] at h2
    omega
  have htl : E = 0 → ts.length ≤ 1700 := fun he => by
    have := decR_ok (b := b) (by rw [hdr]; exact he)
    rw [hdr] at this
    have h2 := encL_count ts
    rw [this.2.2] at h2
    omega
  rw [hdr] at HD
  obtain ⟨R, hR⟩ : ∃ R, R = decB b := ⟨_, rfl⟩
  rw [← hR] at hdec ⊢
  have HR := Lib.hid hdec
  have HSM := Lib.hid hsm
  have HTL := Lib.hid htl
  have HVB := Lib.hid hv
  obtain ⟨A, c, rfl, h1, h2, h3⟩ := hv
  clear hdr hdec hsm htl h3 hR hl
  by_cases hE : E = 0
  case neg =>
    have hE' : (E != 0) = true := by rw [bne_iff_ne]; exact hE
    have hRn : Hid (R = (E, [])) := by show _ = _; rw [HR.out, if_pos hE]
    clear hE HR
    go_enter Tryd.func32, Tryd.ntmps32
    go_wp2_with (go_at_call 59; refine HD.out.mono ?_; rintro e w2 ⟨A2, c2, rfl, hk2, hb2⟩)
    go_ret2
    rw [hRn.out]
    exact ⟨none, 0, rfl, RC.nil _ _ _ _ (Nat.zero_le _), hb2⟩
  subst hE
  have HS := Lib.hid (HSM.out rfl)
  have HL := Lib.hid (HTL.out rfl)
  have HR2 : Hid (R = match rulSR ts [] with | none => (4, []) | some rs => if rE rs = 0 ∧ rM rs = b then (0, rs) else (4, [])) := by show _ = _; rw [HR.out, if_neg (fun h => h rfl)]
  clear HR HSM HTL
  go_enter Tryd.func32, Tryd.ntmps32
  go_wp2_with (go_at_call 59; refine HD.out.mono ?_; rintro e w1 ⟨A1, c1, rfl, hk1, hb1⟩; have hk2 := hk1.tl (B := w1.heap.size) (fun _ h => h.2); clear hk1)
  obtain ⟨A1', c1', hva, g1, g2, g3⟩ := hk2
  injection hva with ea eb ec
  subst ea
  subst ec
  have HB1 := Lib.hid hb1
  clear hb1
  unfold maxLen at g2
  go_loopw [6, 7] (fun v6 i wr => ∃ (k : Nat) (rs : List Rl) (A6 : Option Addr) (c6 : Nat), k ≤ ts.length ∧ i = .int .i64 k ∧ v6 = .slice A6 rs.length c6 ∧ Hid (OR wr w1.heap.size v6 rs) ∧ Hid (rulSR ts [] = rulSR (ts.drop k) rs) ∧ Hid (Below w1.heap.size w1 wr) ∧ Hid (rs.length = k) ∧
      Hid (∀ (j : Nat) (h : j < rs.length), rs[j].cond.cnt ≤ 3000000)) (fun _ i _ => ts.length - (intOf i).toNat)
  case atStart => exact ⟨0, [], none, 0, Nat.zero_le _, rfl, rfl, OR.nil _ _, rfl, Below.refl _ _, rfl, fun j h => absurd h (by simp)⟩
  case round =>
    obtain ⟨k, rs, A6, c6, hkl, rfl, rfl, hor, hrs, hbel, hlen, hsm⟩ := hrel
    by_cases hlt : k < ts.length
    · obtain ⟨b1, o1, rfl, hb1, hts⟩ := g3.out (by omega)
      have hta := TAt.keep (Nat.le_refl _) (fun p hp => hbel.out.cell hp) _ _ _ hb1 (TsAt.get hts hlt)
      have hdr := rulSR_drop ts k hlt rs
      have hvl := HS.out k hlt
      obtain ⟨t, ht⟩ : ∃ t, t = ts[k] := ⟨_, rfl⟩
      rw [← ht] at hta hdr hvl
      clear hts ht
      obtain ⟨tag, val, kids⟩ := t
      obtain ⟨Av, cv, Ak0, ck0, q0, q1, q2, hsl, htk⟩ := hta.cells
      simp only [T.tag, T.val, T.kids] at q0 q1 q2 hsl hdr hvl
      have HDR := Lib.hid hdr
      have HVL := Lib.hid hvl
      have horl := Lib.hid hor.out.ltB
      have hsw := hbel.out.size
      have hNO : Hid (rulFR tag val = none → R = (4, [])) := fun h => by rw [HR2.out, hrs.out, HDR.out, h]
      have HBW := Lib.hid (HB1.out.trans (hbel.out.mono HB1.out.size))
      have hl1 : b1 < wr.heap.size := by omega
      clear hdr htk hta
      by_cases ht : tag = 128
      case neg =>
        have hR9 := hNO.out (by unfold rulFR; rw [if_pos (.inl ht)])
        have ht' : (tag != 128) = true := by rw [bne_iff_ne]; exact ht
        rw [hR9]
        clear hsl
        go_wp2_with fail
        go_ret2
        exact ⟨none, 0, rfl, RC.nil _ _ _ _ (Nat.zero_le _), HBW.out⟩
      subst ht
      by_cases hv2 : val.length < 2
      · have hR9 := hNO.out (by unfold rulFR; rw [if_pos (.inr hv2)])
        have hvi : (val.length : Int) < 2 := by omega
        rw [hR9]
        clear hsl
        go_wp2_with fail
        go_ret2
        exact ⟨none, 0, rfl, RC.nil _ _ _ _ (Nat.zero_le _), HBW.out⟩
      obtain ⟨n, hn⟩ : ∃ n, val.length = n + 1 + 1 := ⟨val.length - 2, by omega⟩
      have HSL := Lib.hid hsl
      obtain ⟨Av', cv', hva', k1, k2, k3⟩ := id hsl
      injection hva' with ea1 eb1 ec1
      subst ea1
      subst ec1
      obtain ⟨b2, o2, rfl, hb2, hc2⟩ := k3 (by omega)
      obtain ⟨m, rfl⟩ : ∃ m, cv = m + 1 + 1 := ⟨cv - 2, by omega⟩
      obtain ⟨y, hy⟩ : ∃ y, y = byN val 0 := ⟨_, rfl⟩
      have hy2 : y < 256 := hy ▸ byN_lt val 0
      have g0 : wr.cell? ⟨b2, o2, none⟩ = some (.int .u8 (y : Int)) := by rw [hy]; exact hc2 0 (by omega)
      have hwr : IntKind.wrap .i64 (y : Int) = (y : Int) := by simp [IntKind.wrap, IntKind.signed, IntKind.bits]; omega
      have HY := Lib.hid hy
      have hst : SL wr w1.heap.size (.slice (some ⟨b2, o2 + 1, none⟩) (n + 1) (m + 1)) (val.drop 1) := by
        refine sl_tail (n := n + 1) ?_ hn
        exact HSL.out
      have HRE := Lib.hid (rread_any 16 (val.drop 1) _ wr wr.heap.size (by omega) (Nat.le_refl _) (hst.more hsw))
      have HFR : Hid (rulFR 128 val = match rdR 16 (val.drop 1) with | some (c, []) => some (y, c) | _ => none) := by
        show _ = _
        unfold rulFR
        rw [if_neg (by omega), ← HY.out]
        rfl
      have hvw : ¬ ((n + 1 + 1 : Nat) : Int) < 2 := by omega
      have h1n : (1 : Int) ≤ ((n + 1 + 1 : Nat) : Int) := by omega
      have HN := Lib.hid hn
      have hdl : Hid ((val.drop 1).length ≤ 1700) := by show _ ≤ _; rw [List.length_drop]; have := HVL.out; omega
      rw [hn] at q1
      clear hst k3 hc2 hsl hy hn hv2
      go_wp2_with fail
      refine HRE.out.mono ?_
      rintro e w2 ⟨hb3, h⟩
      have HB3 := Lib.hid hb3
      have hs2 := hb3.size
      rcases h with ⟨hno, p0, q0', Ay, ky, cy, rfl⟩ | ⟨kd, r, Ak, ck, Ar, cr, hso, rfl, hkc, hsr⟩
      · have hR9 := hNO.out (by rw [HFR.out, hno])
        clear hno
        go_wp2_with fail
        go_ret2
        rw [hR9]
        exact ⟨none, 0, rfl, RC.nil _ _ _ _ (Nat.zero_le _), HBW.out.trans ((hb3.trans ((alloc_below w2 _).mono hs2)).mono HBW.out.size)⟩
      · have HSO := Lib.hid hso
        have HKC := Lib.hid hkc
        clear hso hkc hsr
        by_cases hr0 : r.length = 0
        · have hrn : r = [] := List.eq_nil_of_length_eq_zero hr0
          subst hrn
          have HFS : Hid (rulFR 128 val = some (y, kd)) := by show _ = _; rw [HFR.out, HSO.out]
          have HCN : Hid (kd.cnt ≤ 3000000) := by
            show _ ≤ _
            have := rdR_cnt _ _ _ _ HSO.out
            have := hdl.out
            omega
          have hX := alloc_below w2 (Obj.cells #[.int .i64 kd.op, .int .i64 kd.n, .slice Ak kd.kids.length ck] 24)
          have hY := alloc2_below w2 (Obj.cells #[.int .i64 kd.op, .int .i64 kd.n, .slice Ak kd.kids.length ck] 24) (Obj.cells #[.int .i64 (y : Int), .int .i64 kd.op, .int .i64 kd.n, .slice Ak kd.kids.length ck] 53)
          have hX0 := heap_alloc_new w2 (Obj.cells #[.int .i64 kd.op, .int .i64 kd.n, .slice Ak kd.kids.length ck] 24)
          have hY0 := heap_alloc2_old w2 (Obj.cells #[.int .i64 kd.op, .int .i64 kd.n, .slice Ak kd.kids.length ck] 24) (Obj.cells #[.int .i64 (y : Int), .int .i64 kd.op, .int .i64 kd.n, .slice Ak kd.kids.length ck] 53)
          have hY1 := heap2_new w2 (Obj.cells #[.int .i64 kd.op, .int .i64 kd.n, .slice Ak kd.kids.length ck] 24) (Obj.cells #[.int .i64 (y : Int), .int .i64 kd.op, .int .i64 kd.n, .slice Ak kd.kids.length ck] 53)
          have hQ : ∀ W, Below w2.heap.size w2 W → W.cell? ⟨b1, o1 + k * 3 + 1, none⟩ = some (.slice (some ⟨b2, o2, none⟩) (n + 1 + 1) (m + 1 + 1)) ∧ W.cell? ⟨b2, o2, none⟩ = some (.int .u8 (y : Int)) := fun W hW =>
            ⟨(hW.cell (p := ⟨b1, o1 + k * 3 + 1, none⟩) (by show b1 < _; omega)).trans ((hb3.cell (p := ⟨b1, o1 + k * 3 + 1, none⟩) (by show b1 < _; omega)).trans q1), (hW.cell (p := ⟨b2, o2, none⟩) (by show b2 < _; omega)).trans ((hb3.cell (p := ⟨b2, o2, none⟩) (by show b2 < _; omega)).trans g0)⟩
          obtain ⟨u1, u2⟩ := hQ _ hX
          have u3 := cell_of_row _ _ 0 _ _ _ hX0
          have u4 := cell_of_row _ _ 1 _ _ _ hX0
          have u5 := cell_of_row _ _ 2 _ _ _ hX0
          have HS0 := Lib.hid (And.intro u1 (And.intro u2 (And.intro u3 (And.intro u4 u5))))
          obtain ⟨z1, z2⟩ := hQ _ hY
          have z3 := cell_of_row _ _ 0 _ _ _ hY0
          have z4 := cell_of_row _ _ 1 _ _ _ hY0
          have z5 := cell_of_row _ _ 2 _ _ _ hY0
          have HS1 := Lib.hid (And.intro z1 (And.intro z2 (And.intro z3 (And.intro z4 z5))))
          have HOW := Lib.hid ((hor.out.later hb3).later hY.drew)
          have HKW := Lib.hid (HKC.out.on hY.drew)
          have HBL : Hid (∀ b, (Value.slice A6 rs.length c6).ownBlock = some b → b < wr.heap.size) := fun b hb => (horl.out b hb).2
          have hz2 := hY.drew.size
          have HSZ : Hid (w1.heap.size ≤ ((w2.alloc (Obj.cells #[.int .i64 kd.op, .int .i64 kd.n, .slice Ak kd.kids.length ck] 24)).alloc (Obj.cells #[.int .i64 (y : Int), .int .i64 kd.op, .int .i64 kd.n, .slice Ak kd.kids.length ck] 53)).drew.heap.size) := by show _ ≤ _; omega
          have HY1 : Hid (((w2.alloc (Obj.cells #[.int .i64 kd.op, .int .i64 kd.n, .slice Ak kd.kids.length ck] 24)).alloc (Obj.cells #[.int .i64 (y : Int), .int .i64 kd.op, .int .i64 kd.n, .slice Ak kd.kids.length ck] 53)).drew.heap[w2.heap.size + 1]? = some (Obj.cells #[.int .i64 (y : Int), .int .i64 kd.op, .int .i64 kd.n, .slice Ak kd.kids.length ck] 53 (0, 0))) := hY1
          have HBY := Lib.hid ((hbel.out.trans (hb3.mono hsw)).trans (hY.drew.mono (Nat.le_trans hsw hs2)))
          have hl2 : (rs ++ [(⟨(y : Int), kd⟩ : Rl)]).length = rs.length + 1 := by simp
          have HZ2 := Lib.hid hz2
          have HZ3 : Hid (w2.heap.size < ((w2.alloc (Obj.cells #[.int .i64 kd.op, .int .i64 kd.n, .slice Ak kd.kids.length ck] 24)).alloc (Obj.cells #[.int .i64 (y : Int), .int .i64 kd.op, .int .i64 kd.n, .slice Ak kd.kids.length ck] 53)).drew.heap.size) := lt_row' hY0
          have HLN : Hid (rs.length ≤ 1000000) := by show _ ≤ _; have := hlen.out; have := HL.out; omega
          have hlt2 : b1 < w2.heap.size := by omega
          have hlt3 : b2 < w2.heap.size := by omega
          have i1 : (0 : Int) ≤ (k : Int) := by omega
          have i2 : (k : Int) < (ts.length : Int) := by omega
          have i3 : (0 : Int) < ((n + 1 + 1 : Nat) : Int) := by omega
          have i4 : (0 : Int) < (n : Int) + 1 + 1 := by omega
          have i5 : 0 < n + 1 + 1 := by omega
          have HNE : Hid (∀ b, b < w1.heap.size ∨ wr.heap.size ≤ b → (Value.slice A6 rs.length c6).ownBlock ≠ some b) := fun b hb e => by
            have := horl.out b e
            omega
          have hlb2 : b2 < w1.heap.size := hb2
          clear hX hY hX0 hY0 hY1 hQ z1 z2 z3 z4 z5 hz2
          have HS5 : True := trivial
          go_wp2_with fail
          go_region_held3 (fun w' => w'.cell? ⟨b1, o1 + k * 3 + 1, none⟩ = some (.slice (some ⟨b2, o2, none⟩) (n + 1 + 1) (m + 1 + 1)) ∧ w'.cell? ⟨b2, o2, none⟩ = some (.int .u8 (y : Int)) ∧ w'.cell? ⟨w2.heap.size, 0, none⟩ = some (.int .i64 kd.op) ∧ w'.cell? ⟨w2.heap.size, 1, none⟩ = some (.int .i64 kd.n) ∧ w'.cell? ⟨w2.heap.size, 2, none⟩ = some (.slice Ak kd.kids.length ck))
            (first
              | (go_keep; done)
              | with_reducible exact HS0.out
              | with_reducible exact HS1.out
              | exact HS5)
            ((refine step_appR (by rfl) _ _ (by rfl) w1.heap.size _ rs ⟨(y : Int), kd⟩ (.slice Ak kd.kids.length ck) (w2.heap.size + 1) wr.heap.size (by rfl) (by rfl) HOW.out HKW.out HBL.out hsw HY1.out HLN.out HSZ.out ?_; intro v5 w5 hor5 hb5 hc5; have HS5 := (And.intro ((hc5 b1 (o1 + k * 3 + 1) (Nat.lt_of_lt_of_le hlt2 HZ2.out) (HNE.out b1 (.inl hb1))).trans HS1.out.1) (And.intro ((hc5 b2 o2 (Nat.lt_of_lt_of_le hlt3 HZ2.out) (HNE.out b2 (.inl hlb2))).trans HS1.out.2.1) (And.intro ((hc5 w2.heap.size 0 HZ3.out (HNE.out _ (.inr hs2))).trans HS1.out.2.2.1) (And.intro ((hc5 w2.heap.size 1 HZ3.out (HNE.out _ (.inr hs2))).trans HS1.out.2.2.2.1) ((hc5 w2.heap.size 2 HZ3.out (HNE.out _ (.inr hs2))).trans HS1.out.2.2.2.2))))); obtain ⟨A5, c5, rfl⟩ := hor5.value; have HOR5 := Lib.hid hor5; have HB5 := Lib.hid (HBY.out.trans hb5); clear hor5 hb5 hc5))
          have hbw : Below w1.heap.size w1 w5 := HB5.out
          go_wp2_with fail
          go_roundw
          case rel =>
            refine ⟨k + 1, rs ++ [(⟨(y : Int), kd⟩ : Rl)], A5, c5, by omega, by go_num, by rw [hl2], ?_, ?_, ?_, ?_, ?_⟩
            · show OR _ _ _ _
              have h7 := HOR5.out
              rw [hl2] at h7
              first
                | exact h7
                | exact h7.later (Below.refl _ _).drew
            · show _ = _
              rw [hrs.out, HDR.out, HFS.out]
            · first
                | exact hbw
                | exact hbw.drew
            · show _ = _
              rw [hl2, hlen.out]
            · intro j hj
              rw [hl2] at hj
              by_cases hjl : j < rs.length
              · rw [List.getElem_append_left hjl]; exact hsm.out j hjl
              · have hje : j = rs.length := by omega
                subst hje
                rw [List.getElem_append_right (Nat.le_refl _)]
                simp only [Nat.sub_self, List.getElem_cons_zero]
                exact HCN.out
          case measure => simp [intOf]; omega
        · have hR9 := hNO.out (by
            rw [HFR.out, HSO.out]
            cases r with
            | nil => exact absurd rfl hr0
            | cons z zs => rfl)
          have hr1 : (0 : Int) < (r.length : Int) := by omega
          go_wp2_with fail
          go_ret2
          rw [hR9]
          exact ⟨none, 0, rfl, RC.nil _ _ _ _ (Nat.zero_le _), HBW.out.trans ((hb3.trans ((alloc_below w2 _).mono hs2)).mono HBW.out.size)⟩
    · have hke : k = ts.length := by omega
      have hR3 : Hid (R = if rE rs = 0 ∧ rM rs = b then (0, rs) else (4, [])) := by
        show _ = _
        rw [HR2.out, hrs.out, hke, List.drop_length]
        rfl
      have HRC := Lib.hid hor.out.rc
      have HB9 := Lib.hid (HB1.out.trans (hbel.out.mono HB1.out.size))
      have hpc := rencr_anyU rs (.slice A6 rs.length c6) wr HRC.out.rlF hsm.out
      unfold EnrP at hpc
      have HPC := Lib.hid hpc
      clear hpc g3
      subst hke
      generalize hX : rE rs = X at *
      generalize hM : rM rs = M at *
      clear hX hM
      by_cases hX0 : X = 0
      · subst hX0
        go_wp2_with fail
        refine HPC.out.mono ?_
        rintro e w2 ⟨v2, rfl, hv2, hb2⟩
        have cv1 := hv2.convert
        have cv2 := (HVB.out.on (HB9.out.trans (hb2.mono HB9.out.size))).convert
        obtain ⟨A2, c2, e2, _⟩ := id hv2
        subst e2
        have HB2 := Lib.hid hb2
        clear hv2 hb2
        by_cases hMb : M = b
        · subst hMb
          have hR4 : Hid (R = (0, rs)) := by show _ = _; rw [hR3.out]; simp
          go_wp2_with fail
          go_ret2
          rw [hR4.out]
          exact ⟨A6, c6, rfl, (HRC.out.on HB2.out).fromMore HB1.out.size, HB9.out.trans (HB2.out.mono HB9.out.size)⟩
        · rw [if_neg (fun h => hMb h.2)] at hR3
          have hst : ((⟨M.toArray⟩ : ByteArray) == ⟨b.toArray⟩) = false := by
            show (M.toArray == b.toArray) = false
            rw [beq_eq_false_iff_ne]
            intro e
            exact hMb (by simpa using e)
          have hmb : (M == b) = false := by rw [beq_eq_false_iff_ne]; exact hMb
          have hst2 : ((⟨M.toArray⟩ : ByteArray) != ⟨b.toArray⟩) = true := by rw [bne, hst]; rfl
          clear hMb
          go_wp2_with fail
          go_ret2
          rw [hR3.out]
          exact ⟨none, 0, rfl, RC.nil _ _ _ _ (Nat.zero_le _), HB9.out.trans (HB2.out.mono HB9.out.size)⟩
      · rw [if_neg (fun h => hX0 h.1)] at hR3
        have hX1 : (X != 0) = true := by rw [bne_iff_ne]; exact hX0
        clear hX0
        go_wp2_with fail
        refine HPC.out.mono ?_
        rintro e w2 ⟨v2, rfl, hv2, hb2⟩
        obtain ⟨A2, c2, e2, _⟩ := id hv2
        subst e2
        clear hv2
        go_wp2_with fail
        go_ret2
        rw [hR3.out]
        exact ⟨none, 0, rfl, RC.nil _ _ _ _ (Nat.zero_le _), HB9.out.trans (hb2.mono HB9.out.size)⟩



set_option maxRecDepth 100000 in
set_option maxHeartbeats 6400000 in
theorem law_decodes (b : List UInt8) (u : Value) (w : World) (hu : SL w w.heap.size u b) (hT : Tb w) :
    Calls Tryd.prog 11 #[u] w fun e w' => e = .returned (.bool true) ∧ Below w.heap.size w w' := by
  have hd1 := fun (W : World) (hW : Below w.heap.size w W) (hl : b.length ≤ 1000) => pdeca_any b u W (hu.on hW) (hT.on hW) (by omega)
  have hd2 := fun (W : World) (hW : Below w.heap.size w W) (hl : b.length ≤ 1000) => rdeca_any b u W (hu.on hW) (by omega)
  unfold RaP at hd1 hd2
  simp only [dec_same] at hd2
  have HS := Lib.hid fun (W : World) (rs : List Rl) (x y : Value) (hx : RL W W.heap.size x rs) (hy : RL W W.heap.size y rs) => rsmr_any rs rs x y W hx hy
  simp only [samR_self] at HS
  have HA := Lib.hid fun (W : World) (hW : Below w.heap.size w W) => works_any W (hT.on hW)
  obtain ⟨Au, cu, rfl, _, hcu, _⟩ := id hu
  obtain ⟨E, hE⟩ : ∃ E, E = (decA b).1 := ⟨_, rfl⟩
  obtain ⟨R, hR⟩ : ∃ R, R = (decA b).2 := ⟨_, rfl⟩
  simp only [← hE, ← hR] at hd1 hd2
  have HUP : Hid (∀ W w', Below w.heap.size w W → Below W.heap.size W w' → Below w.heap.size w w') := fun W w' h h' => h.trans (h'.mono h.size)
  clear hu hT hE hR
  unfold maxLen at hcu
  by_cases hbl : b.length ≤ 1000
  case neg =>
    have hgt : (1000 : Int) < (b.length : Int) := by omega
    clear hd1 hd2
    go_enter Tryd.func11, Tryd.ntmps11
    go_wp2_with fail
    refine (HA.out _ (Below.refl _ _)).mono ?_
    rintro e w2 ⟨rfl, hb2⟩
    go_wp2_with fail
    go_ret
    exact ⟨rfl, hb2⟩
  have HD1 := Lib.hid (hd1 w (Below.refl _ _) hbl)
  have HD2 := Lib.hid (fun W hW => hd2 W hW hbl)
  have hgt : ¬ (1000 : Int) < (b.length : Int) := by omega
  clear hd1 hd2 hbl
  go_enter Tryd.func11, Tryd.ntmps11
  go_wp2_with fail
  refine HD1.out.mono ?_
  rintro e w1 ⟨A1, c1, rfl, hr1, hb1⟩
  have HR1 := Lib.hid hr1.rlF
  have HB1 := Lib.hid hb1
  clear hr1 hb1
  go_wp2_with fail
  refine (HD2.out _ HB1.out).mono ?_
  rintro e w2 ⟨A2, c2, rfl, hr2, hb2⟩
  have HR2 := Lib.hid hr2.rlF
  have HR3 := Lib.hid (HR1.out.on hb2)
  have HB2 := Lib.hid (HUP.out _ _ HB1.out hb2)
  clear hr2 hb2
  go_wp2_with fail
  refine (HS.out _ _ _ _ HR3.out HR2.out).mono ?_
  rintro e w3 ⟨rfl, hb3⟩
  have HB3 := Lib.hid (HUP.out _ _ HB2.out hb3)
  clear hb3
  go_wp2_with fail
  refine (HA.out _ HB3.out).mono ?_
  rintro e w4 ⟨rfl, hb4⟩
  go_wp2_with fail
  go_ret
  exact ⟨rfl, HUP.out _ _ HB3.out hb4⟩

end Go.Proofs.YtjkbfogjfgnhiaaDoor
