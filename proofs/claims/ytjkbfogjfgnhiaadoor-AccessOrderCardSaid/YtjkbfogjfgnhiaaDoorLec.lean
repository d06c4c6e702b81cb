/-
  least of a condition that asks for one of its kids; least in general.
-/
import Derived.Test.YtjkbfogjfgnhiaaDoorLeb
namespace Go.Proofs.YtjkbfogjfgnhiaaDoor
set_option linter.unusedVariables false
set_option linter.unusedSimpArgs false
open Go.RowKit

theorem addl_bnd (l : List Sc) (t : Cn) (m : Nat) (h : l.length < 2 ^ m) : (addL l t.lea).length < 2 ^ (m + t.cnt) := by
  have h2 := Cn.lea_len t
  have h3 := addL_len t.lea l
  have hp := cnt_pos t
  have hz : 2 ≤ 2 ^ t.cnt := by have := Nat.pow_le_pow_right (n := 2) (by omega) hp; simpa using this
  rw [Nat.pow_add]
  generalize 2 ^ m = x at *
  generalize 2 ^ t.cnt = z at *
  have h5 : x * 2 ≤ x * z := Nat.mul_le_mul_left x hz
  have h6 : 1 * z ≤ x * z := Nat.mul_le_mul_right z (by omega)
  omega

set_option maxRecDepth 100000 in
set_option maxHeartbeats 6400000 in
theorem lea0_any (n : Int) (ts : List Cn) (hC : ∀ (k : Nat) (h : k < ts.length), LeaG ts[k]) (hok : okK ts = true) (hcn : cntK ts ≤ 15) (v : Value) (w : World) (hk : KL w w.heap.size v ts) :
    Calls Tryd.prog 50 #[.agg #[.int .i64 0, .int .i64 n, v]] w (LeaQ (leaO ts []) w) := by
  obtain ⟨A, cap, rfl, h1, h2, h3⟩ := hk
  unfold maxLen at h2
  have hb2 := alloc_below w (bx 0 n A ts.length cap)
  have hz2 : (w.alloc (bx 0 n A ts.length cap)).heap.size = w.heap.size + 1 := by rw [alloc_size]
  have HB2 := Lib.hid hb2
  have HZ2 := Lib.hid hz2
  have HC := Lib.hid hC
  have HOK := Lib.hid hok
  clear hC hok hb2 hz2
  go_enter Tryd.func50, Tryd.ntmps50
  go_wp2_with fail
  go_loopw [6, 61] (fun q i wr => ∃ (k m : Nat) (L : List Sc), k ≤ ts.length ∧ i = .int .i64 k ∧ Hid (leaO ts [] = leaO (ts.drop k) L) ∧ m + cntK (ts.drop k) = cntK ts ∧ L.length < 2 ^ m ∧ Hid (OSc wr (w.heap.size + 1) q L) ∧ Hid (Below (w.heap.size + 1) (w.alloc (bx 0 n A ts.length cap)) wr)) (fun _ i _ => ts.length - (intOf i).toNat)
  case atStart => exact ⟨0, 0, [], Nat.zero_le _, rfl, by show _ = _; rw [List.drop_zero], by rw [List.drop_zero]; omega, by simp, OSc.nil _ _, Below.refl _ _⟩
  case round =>
    obtain ⟨k, m, L, hkl, rfl, HS, hmm, hLm, HO, HB0⟩ := hrel
    have HB := Lib.hid (HB2.out.trans (HB0.out.mono (by omega)))
    have hs0 := HB0.out.size
    rw [HZ2.out] at hs0
    obtain ⟨A6, c6, hq6⟩ := HO.out.value
    by_cases hlt : k < ts.length
    · obtain ⟨b1, o1, rfl, hb1, hts⟩ := h3.out (by omega)
      have hta := CnsAt.get hts hlt
      have hcd := cntK_drop ts k hlt
      have hcg := cntK_get ts k hlt
      have hokt := okK_get ts k hlt HOK.out
      have hCt := HC.out k hlt
      have hst := leaO_drop ts k hlt L
      obtain ⟨t, ht⟩ : ∃ t, t = ts[k] := ⟨_, rfl⟩
      rw [← ht] at hta hcd hcg hokt hCt hst
      have hn1 := addl_bnd L t m hLm
      have hm1 : m + t.cnt + cntK (ts.drop (k + 1)) = cntK ts := by omega
      have hm2 : 2 ^ m ≤ 2 ^ 15 := Nat.pow_le_pow_right (by omega) (by omega)
      have hll := Cn.lea_len t
      have hpt : 2 ^ t.cnt ≤ 2 ^ 15 := Nat.pow_le_pow_right (by omega) (by omega)
      have hta' := CnAt.keep HB.out.size (fun p hp => HB.out.cell hp) t b1 _ hb1 hta
      obtain ⟨A2, c2, g1, g2, g3, hu⟩ := hta'.cells
      have hba := alloc_below wr (Obj.cells #[Value.int IntKind.i64 t.op, Value.int IntKind.i64 t.n, Value.slice A2 t.kids.length c2] 24)
      have hv := hCt (.slice A2 t.kids.length c2) _ hokt (by omega) (hu.on hba)
      unfold LeaQ at hv
      have HV := Lib.hid hv
      have HBA := Lib.hid hba
      have HST := Lib.hid (HS.out.trans hst)
      have HN1 := Lib.hid hn1
      have HN2 : Hid (L.length + t.lea.length ≤ 100000) := by show _ ≤ _; omega
      have hs1 := HB.out.size
      clear hta hta' hts ht hu hcd hcg hokt hCt hst hn1 hll hpt hba hv
      generalize t.lea = x at *
      subst hq6
      go_wp2_with fail
      refine HV.out.mono ?_
      rintro e w5 ⟨A7, c7, rfl, hml7, hob7, hb7⟩
      have hb07 := HBA.out.trans (hb7.mono HBA.out.size)
      have hs7 := hb07.size
      have hne : 0 < x.length → (Value.slice A7 x.length c7).ownBlock ≠ (Value.slice A6 L.length c6).ownBlock := fun hp e => by
        obtain ⟨A', c', hv', _, _, h3'⟩ := hml7
        obtain ⟨rfl, rfl⟩ : A7 = A' ∧ c7 = c' := by simpa using hv'
        obtain ⟨bb, oo, rfl, _, _⟩ := h3'.out hp
        have h4 := hob7 bb rfl
        have h5 := (HO.out.ltB bb e.symm).2
        rw [alloc_size] at h4
        omega
      have HP := Lib.hid (padd_any L x _ _ (w.heap.size + 1) w5 (HO.out.later hb07) hml7 hne (by omega) HN2.out)
      have HB7 := Lib.hid (HB.out.trans (hb07.mono hs1))
      have HB9 := Lib.hid (HB0.out.trans (hb07.mono (by omega)))
      clear hml7 hob7 hb7 hb07 hne
      go_wp2_with fail
      refine HP.out.mono ?_
      rintro e w6 ⟨v6, rfl, hos6, hb6, _⟩
      obtain ⟨A8, c8, rfl⟩ := hos6.value
      have HO6 := Lib.hid hos6
      have HB6 := Lib.hid (HB9.out.trans hb6)
      clear hos6 hb6
      go_wp2_with fail
      go_roundw
      case rel => exact ⟨k + 1, m + t.cnt, addL L x, by omega, by go_num, HST, hm1, HN1.out, HO6, HB6⟩
      case measure => simp [intOf]; omega
    · have hkk : k = ts.length := by omega
      have hs := HS.out
      rw [hkk, List.drop_length, leaO] at hs
      subst hq6
      have HS2 := Lib.hid hs
      clear hs hkk
      go_wp2_with fail
      go_ret
      unfold LeaQ
      rw [HS2.out]
      exact ⟨A6, c6, rfl, HO.out.ml, fun b hb => by have := (HO.out.ltB b hb).1; omega, HB.out⟩
set_option maxRecDepth 100000 in
set_option maxHeartbeats 6400000 in
theorem lea7_any (n : Int) (ts : List Cn) (hC : ∀ (k : Nat) (h : k < ts.length), LeaG ts[k]) (hok : okK ts = true) (hcn : cntK ts ≤ 15) (v : Value) (w : World) (hk : KL w w.heap.size v ts) :
    Calls Tryd.prog 50 #[.agg #[.int .i64 7, .int .i64 n, v]] w (LeaQ (leaO ts []) w) := by
  obtain ⟨A, cap, rfl, h1, h2, h3⟩ := hk
  unfold maxLen at h2
  have hb2 := alloc_below w (bx 7 n A ts.length cap)
  have hz2 : (w.alloc (bx 7 n A ts.length cap)).heap.size = w.heap.size + 1 := by rw [alloc_size]
  have HB2 := Lib.hid hb2
  have HZ2 := Lib.hid hz2
  have HC := Lib.hid hC
  have HOK := Lib.hid hok
  clear hC hok hb2 hz2
  go_enter Tryd.func50, Tryd.ntmps50
  go_wp2_with fail
  go_loopw [6, 61] (fun q i wr => ∃ (k m : Nat) (L : List Sc), k ≤ ts.length ∧ i = .int .i64 k ∧ Hid (leaO ts [] = leaO (ts.drop k) L) ∧ m + cntK (ts.drop k) = cntK ts ∧ L.length < 2 ^ m ∧ Hid (OSc wr (w.heap.size + 1) q L) ∧ Hid (Below (w.heap.size + 1) (w.alloc (bx 7 n A ts.length cap)) wr)) (fun _ i _ => ts.length - (intOf i).toNat)
  case atStart => exact ⟨0, 0, [], Nat.zero_le _, rfl, by show _ = _; rw [List.drop_zero], by rw [List.drop_zero]; omega, by simp, OSc.nil _ _, Below.refl _ _⟩
  case round =>
    obtain ⟨k, m, L, hkl, rfl, HS, hmm, hLm, HO, HB0⟩ := hrel
    have HB := Lib.hid (HB2.out.trans (HB0.out.mono (by omega)))
    have hs0 := HB0.out.size
    rw [HZ2.out] at hs0
    obtain ⟨A6, c6, hq6⟩ := HO.out.value
    by_cases hlt : k < ts.length
    · obtain ⟨b1, o1, rfl, hb1, hts⟩ := h3.out (by omega)
      have hta := CnsAt.get hts hlt
      have hcd := cntK_drop ts k hlt
      have hcg := cntK_get ts k hlt
      have hokt := okK_get ts k hlt HOK.out
      have hCt := HC.out k hlt
      have hst := leaO_drop ts k hlt L
      obtain ⟨t, ht⟩ : ∃ t, t = ts[k] := ⟨_, rfl⟩
      rw [← ht] at hta hcd hcg hokt hCt hst
      have hn1 := addl_bnd L t m hLm
      have hm1 : m + t.cnt + cntK (ts.drop (k + 1)) = cntK ts := by omega
      have hm2 : 2 ^ m ≤ 2 ^ 15 := Nat.pow_le_pow_right (by omega) (by omega)
      have hll := Cn.lea_len t
      have hpt : 2 ^ t.cnt ≤ 2 ^ 15 := Nat.pow_le_pow_right (by omega) (by omega)
      have hta' := CnAt.keep HB.out.size (fun p hp => HB.out.cell hp) t b1 _ hb1 hta
      obtain ⟨A2, c2, g1, g2, g3, hu⟩ := hta'.cells
      have hba := alloc_below wr (Obj.cells #[Value.int IntKind.i64 t.op, Value.int IntKind.i64 t.n, Value.slice A2 t.kids.length c2] 24)
      have hv := hCt (.slice A2 t.kids.length c2) _ hokt (by omega) (hu.on hba)
      unfold LeaQ at hv
      have HV := Lib.hid hv
      have HBA := Lib.hid hba
      have HST := Lib.hid (HS.out.trans hst)
      have HN1 := Lib.hid hn1
      have HN2 : Hid (L.length + t.lea.length ≤ 100000) := by show _ ≤ _; omega
      have hs1 := HB.out.size
      clear hta hta' hts ht hu hcd hcg hokt hCt hst hn1 hll hpt hba hv
      generalize t.lea = x at *
      subst hq6
      go_wp2_with fail
      refine HV.out.mono ?_
      rintro e w5 ⟨A7, c7, rfl, hml7, hob7, hb7⟩
      have hb07 := HBA.out.trans (hb7.mono HBA.out.size)
      have hs7 := hb07.size
      have hne : 0 < x.length → (Value.slice A7 x.length c7).ownBlock ≠ (Value.slice A6 L.length c6).ownBlock := fun hp e => by
        obtain ⟨A', c', hv', _, _, h3'⟩ := hml7
        obtain ⟨rfl, rfl⟩ : A7 = A' ∧ c7 = c' := by simpa using hv'
        obtain ⟨bb, oo, rfl, _, _⟩ := h3'.out hp
        have h4 := hob7 bb rfl
        have h5 := (HO.out.ltB bb e.symm).2
        rw [alloc_size] at h4
        omega
      have HP := Lib.hid (padd_any L x _ _ (w.heap.size + 1) w5 (HO.out.later hb07) hml7 hne (by omega) HN2.out)
      have HB7 := Lib.hid (HB.out.trans (hb07.mono hs1))
      have HB9 := Lib.hid (HB0.out.trans (hb07.mono (by omega)))
      clear hml7 hob7 hb7 hb07 hne
      go_wp2_with fail
      refine HP.out.mono ?_
      rintro e w6 ⟨v6, rfl, hos6, hb6, _⟩
      obtain ⟨A8, c8, rfl⟩ := hos6.value
      have HO6 := Lib.hid hos6
      have HB6 := Lib.hid (HB9.out.trans hb6)
      clear hos6 hb6
      go_wp2_with fail
      go_roundw
      case rel => exact ⟨k + 1, m + t.cnt, addL L x, by omega, by go_num, HST, hm1, HN1.out, HO6, HB6⟩
      case measure => simp [intOf]; omega
    · have hkk : k = ts.length := by omega
      have hs := HS.out
      rw [hkk, List.drop_length, leaO] at hs
      subst hq6
      have HS2 := Lib.hid hs
      clear hs hkk
      go_wp2_with fail
      go_ret
      unfold LeaQ
      rw [HS2.out]
      exact ⟨A6, c6, rfl, HO.out.ml, fun b hb => by have := (HO.out.ltB b hb).1; omega, HB.out⟩

theorem lea_step (c : Cn) (ih : ∀ c' : Cn, c'.dep < c.dep → LeaG c') : LeaG c := by
  intro v w hok hcn hk
  have hp := ok_parts c
  rw [hok] at hp
  have hp' : okN c.op c.n c.kids.length = true ∧ okK c.kids = true := by simpa using hp.symm
  obtain ⟨hop, ho2, ho4, ho5, ho6, hok6, ho0⟩ := okN_op hp'.1
  have hkd := dep_kids c
  have hkc := cnt_kids c
  have hC : ∀ (k : Nat) (h : k < c.kids.length), LeaG c.kids[k] := fun k h => ih _ (by have := depK_get c.kids k h; omega)
  have htx := lea_parts c
  clear ih hp hok
  have hcn2 : cntK c.kids ≤ 15 := by omega
  rcases hop with h | h | h | h | h | h | h | h <;> rw [h] at htx ⊢ <;> rw [htx]
  · exact lea0_any c.n c.kids hC hp'.2 hcn2 v w hk
  · exact lea1_any c.n c.kids v w hk
  · exact lea2_any c.n (by omega) (by omega) c.kids v w hk
  · exact lea3_any c.n (by omega) (by omega) c.kids v w hk
  · exact lea4_any c.n c.kids v w hk
  · exact lea5_any c.n c.kids v w hk
  · exact lea6_any c.n c.kids hC hp'.2 hcn2 v w hk
  · exact lea7_any c.n c.kids hC hp'.2 hcn2 v w hk
theorem lea_any : ∀ (n : Nat) (c : Cn), c.dep < n → LeaG c
  | 0, c, h => absurd h (by omega)
  | n + 1, c, h => lea_step c fun c' h' => lea_any n c' (by omega)
end Go.Proofs.YtjkbfogjfgnhiaaDoor
