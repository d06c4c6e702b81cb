/-
  least of a condition that asks for all of its kids.
-/
import Derived.Test.YtjkbfogjfgnhiaaDoorLea
namespace Go.Proofs.YtjkbfogjfgnhiaaDoor
set_option linter.unusedVariables false
set_option linter.unusedSimpArgs false
open Go.RowKit

theorem bnd_step (L : List Sc) (t : Cn) (c : Nat) (h : L.length * 2 ^ (t.cnt + c) ≤ 32768) : (unitL L t.lea).length * 2 ^ c ≤ 32768 ∧ L.length * t.lea.length ≤ 32768 := by
  have h1 := unit_len L t.lea
  have h2 := Cn.lea_len t
  have h3 : L.length * t.lea.length ≤ L.length * 2 ^ t.cnt := Nat.mul_le_mul_left _ (by omega)
  have h4 : 1 ≤ 2 ^ c := Nat.one_le_two_pow
  rw [Nat.pow_add, ← Nat.mul_assoc] at h
  have h5 : (unitL L t.lea).length * 2 ^ c ≤ L.length * 2 ^ t.cnt * 2 ^ c := Nat.mul_le_mul_right _ (by omega)
  have h6 : L.length * 2 ^ t.cnt * 1 ≤ L.length * 2 ^ t.cnt * 2 ^ c := Nat.mul_le_mul_left _ h4
  omega

set_option maxRecDepth 100000 in
set_option maxHeartbeats 6400000 in
theorem lea6_any (n : Int) (ts : List Cn) (hC : ∀ (k : Nat) (h : k < ts.length), LeaG ts[k]) (hok : okK ts = true) (hcn : cntK ts ≤ 15) (v : Value) (w : World) (hk : KL w w.heap.size v ts) :
    Calls Tryd.prog 50 #[.agg #[.int .i64 6, .int .i64 n, v]] w (LeaQ (leaU ts [Sc.zero]) w) := by
  obtain ⟨A, cap, rfl, h1, h2, h3⟩ := hk
  unfold maxLen at h2
  have hb2 := alloc2_below w (bx 6 n A ts.length cap) (Sc.row Sc.zero)
  have hml := ML.one (w.alloc (bx 6 n A ts.length cap)) Sc.zero
  have hz2 : ((w.alloc (bx 6 n A ts.length cap)).alloc Sc.zero.row).heap.size = w.heap.size + 1 + 1 := by rw [alloc_size, alloc_size]
  rw [alloc_size w] at hml
  have HB2 := Lib.hid hb2
  have HML := Lib.hid hml
  have HZ2 := Lib.hid hz2
  have HC := Lib.hid hC
  have HOK := Lib.hid hok
  have hpw : 2 ^ cntK ts ≤ 2 ^ 15 := Nat.pow_le_pow_right (by omega) hcn
  have HBD : Hid (([Sc.zero] : List Sc).length * 2 ^ cntK (ts.drop 0) ≤ 32768) := by show _ ≤ _; rw [List.drop_zero]; simpa using hpw
  clear hC hok hb2 hml hz2 hpw
  go_enter Tryd.func50, Tryd.ntmps50
  go_wp2_with fail
  go_loopw [3, 48] (fun q i wr => ∃ (k : Nat) (L : List Sc), k ≤ ts.length ∧ i = .int .i64 k ∧ Hid (leaU ts [Sc.zero] = leaU (ts.drop k) L) ∧ Hid (L.length * 2 ^ cntK (ts.drop k) ≤ 32768) ∧ Hid (ML wr wr.heap.size q L) ∧ Hid (∀ b, q.ownBlock = some b → w.heap.size ≤ b) ∧ Hid (Below w.heap.size w wr)) (fun _ i _ => ts.length - (intOf i).toNat)
  case atStart => exact ⟨0, [Sc.zero], Nat.zero_le _, rfl, by show _ = _; rw [List.drop_zero], HBD, HML, fun b hb => (by have e : w.heap.size + 1 = b := Option.some.inj hb; omega), HB2⟩
  case round =>
    obtain ⟨k, L, hkl, rfl, HS, HBN, HM, HQ, HB⟩ := hrel
    obtain ⟨A6, c6, hq6, _⟩ := id HM.out
    by_cases hlt : k < ts.length
    · obtain ⟨b1, o1, rfl, hb1, hts⟩ := h3.out (by omega)
      have hta := CnsAt.get hts hlt
      have hcd := cntK_drop ts k hlt
      have hcg := cntK_get ts k hlt
      have hokt := okK_get ts k hlt HOK.out
      have hCt := HC.out k hlt
      have hst := leaU_drop ts k hlt L
      have hbn := HBN.out
      obtain ⟨t, ht⟩ : ∃ t, t = ts[k] := ⟨_, rfl⟩
      rw [← ht] at hta hcd hcg hokt hCt hst
      rw [hcd] at hbn
      obtain ⟨hn1, hn2⟩ := bnd_step L t _ hbn
      have hll := Cn.lea_len t
      have hpt : 2 ^ t.cnt ≤ 2 ^ 15 := Nat.pow_le_pow_right (by omega) (by omega)
      have hta' := CnAt.keep HB.out.size (fun p hp => HB.out.cell hp) t b1 _ hb1 hta
      obtain ⟨A2, c2, g1, g2, g3, hu⟩ := hta'.cells
      have hba := alloc_below wr (Obj.cells #[Value.int IntKind.i64 t.op, Value.int IntKind.i64 t.n, Value.slice A2 t.kids.length c2] 24)
      have hv := hCt (.slice A2 t.kids.length c2) _ hokt (by omega) (hu.on hba)
      unfold LeaQ at hv
      have HV := Lib.hid hv
      have HBA := Lib.hid hba
      have HST := Lib.hid (HS.out.trans hst)
      have HN1 := Lib.hid hn1
      have HN2 : Hid (L.length * t.lea.length + t.lea.length ≤ 90000) := by show _ ≤ _; omega
      have hs1 := HB.out.size
      clear hta hta' hts ht hu hcd hcg hokt hCt hst hbn hn1 hn2 hll hpt hba hv
      generalize t.lea = x at *
      subst hq6
      go_wp2_with fail
      refine HV.out.mono ?_
      rintro e w5 ⟨A7, c7, rfl, hml7, hob7, hb7⟩
      have hb07 := HBA.out.trans (hb7.mono HBA.out.size)
      have HP := Lib.hid (puni_any L x _ _ w5 (HM.out.on hb07) hml7 HN2.out)
      have HB7 := Lib.hid (HB.out.trans (hb07.mono hs1))
      have hs7 := hb07.size
      clear hml7 hob7 hb7 hb07
      go_wp2_with fail
      refine HP.out.mono ?_
      rintro e w6 ⟨v6, rfl, hos6, hb6⟩
      obtain ⟨A8, c8, rfl⟩ := hos6.value
      have HM6 := Lib.hid hos6.ml
      have HQ6 := Lib.hid (show ∀ b, (Value.slice A8 (unitL L x).length c8).ownBlock = some b → w.heap.size ≤ b from fun b hb => by have := (hos6.ltB b hb).1; omega)
      have HB6 := Lib.hid (HB7.out.trans (hb6.mono (by omega)))
      clear hos6 hb6
      go_wp2_with fail
      go_roundw
      case rel => exact ⟨k + 1, unitL L x, by omega, by go_num, HST, HN1, HM6, HQ6, HB6⟩
      case measure => simp [intOf]; omega
    · have hkk : k = ts.length := by omega
      have hs := HS.out
      rw [hkk, List.drop_length, leaU] at hs
      subst hq6
      have HS2 := Lib.hid hs
      clear hs hkk
      go_wp2_with fail
      go_ret
      unfold LeaQ
      rw [HS2.out]
      exact ⟨A6, c6, rfl, HM.out, HQ.out, HB.out⟩
end Go.Proofs.YtjkbfogjfgnhiaaDoor
