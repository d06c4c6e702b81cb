/-
  The walk of the law ApduJoins.
-/
import Derived.Test.YtjoibonbmalbdaaRjn
import Derived.Test.YtjoibonbmalbdaaExh
namespace Go.Proofs.Ytjoibonbmalbdaa
set_option linter.unusedVariables false
set_option linter.unusedSimpArgs false
open Go.RowKit

theorem prt_len {c f : Cm} {last : Bool} (h : prtE c f last = 0) : c.data.length ≤ 65535 := by
  unfold prtE at h
  by_cases h0 : chkC c = 0
  · have := (chk_prt7 h0).2.2.1
    unfold maxD at this
    split at this <;> omega
  · rw [if_neg h0] at h; exact absurd h h0
theorem jnK_len {cs : List Cm} : ∀ k, k ≤ cs.length → jnK cs k = 0 → (datK cs k).length ≤ 65535 * k
  | 0, _, _ => Nat.zero_le _
  | k + 1, hk, h => by
    simp only [jnK] at h
    by_cases h0 : jnK cs k = 0
    · rw [if_pos h0] at h
      have h1 := jnK_len k (by omega) h0
      have h2 := prt_len h
      rw [datK_succ (by omega), List.length_append]
      omega
    · rw [if_neg h0] at h; exact absurd h h0

set_option maxRecDepth 100000 in
set_option maxHeartbeats 3200000 in
theorem law_joins (cs : List Cm) (v : Value) (w : World) (h : ML w w.heap.size v cs) (hle : ∀ c ∈ cs, -9223372036854775808 ≤ c.le ∧ c.le ≤ 9223372036854775807) :
    Calls Try.prog 9 #[v] w fun e w' => e = .returned (.bool true) ∧ Below w.heap.size w w' := by
  have HM := Lib.hid h
  have HEX := Lib.hid (fun W : World => example_any W)
  by_cases hbig : 300 < cs.length
  · obtain ⟨A, k, rfl, k1, k2, k3⟩ := h
    have hb' : (300 : Int) < (cs.length : Int) := by omega
    clear k1 k2 k3
    go_enter Try.func9, Try.ntmps9
    go_wp2_with fail
    refine (HEX.out _).mono ?_
    rintro e w1 ⟨rfl, hb1⟩
    go_wp2_with fail
    go_ret
    exact ⟨rfl, hb1⟩
  have hb' : ¬ (300 : Int) < (cs.length : Int) := by omega
  have HLN : ∀ k, k ≤ cs.length → jnK cs k = 0 → (datK cs k).length ≤ 50000000 := fun k hk h => by have := jnK_len k hk h; omega
  have HPJ : Hid (∀ W, Below w.heap.size w W → Calls Try.prog 37 #[v] W (JnR cs W)) := fun W hW => pjn_any cs v W (HM.out.on hW) hle (by omega) HLN
  have HRJ : Hid (∀ W, Below w.heap.size w W → Calls Try.prog 38 #[v] W (JnR cs W)) := fun W hW => rjn_any cs v W (HM.out.on hW) hle (by omega) HLN
  unfold JnR at HPJ HRJ
  generalize jnC cs = C at *
  generalize jnE cs = E at *
  obtain ⟨A, k, rfl, k1, k2, k3⟩ := h
  unfold maxLen at k2
  have HC : Hid (∀ W, Below w.heap.size w W → ∀ i, i < cs.length → ∃ b o A4 n4, A = some ⟨b, o, none⟩ ∧ W.cell? ⟨b, o + i * 7 + 4, none⟩ = some (.slice A4 (cs.getD i default).data.length n4)) := fun W hW i hi => by
    obtain ⟨b, o, rfl, hb, hc⟩ := k3 (by omega)
    obtain ⟨e0, e1, e2, e3, ⟨U, e4, A4, n4, rfl, _⟩, e5, e6⟩ := hc i hi
    exact ⟨b, o, A4, n4, rfl, (hW.cell (p := ⟨b, _, none⟩) hb).trans e4⟩
  clear hle k3 hbig HLN
  go_enter Try.func9, Try.ntmps9
  go_wp2_with fail
  go_loopw [3, 4] (fun t i wr => ∃ (k : Nat) (z : Int), k ≤ cs.length ∧ i = .int .i64 k ∧ t = .int .i64 z ∧ Hid (Below w.heap.size w wr)) (fun _ i _ => cs.length - (intOf i).toNat)
  case atStart => exact ⟨0, 0, Nat.zero_le _, rfl, rfl, Below.refl _ _⟩
  case round =>
    obtain ⟨k', z, hk, rfl, rfl, HB⟩ := hrel
    by_cases hlt : k' < cs.length
    case neg =>
      obtain rfl : k' = cs.length := by omega
      have i8 : ¬ (cs.length : Int) < (cs.length : Int) := by omega
      go_wp2_with fail
      refine (HPJ.out _ HB.out).mono ?_
      rintro e w1 ⟨v1, rfl, hs1, -, hb1⟩
      obtain ⟨A1, n1, rfl, _⟩ := id hs1
      have HB1 := Lib.hid (HB.out.trans (hb1.mono HB.out.size))
      have HR1 := Lib.hid (heap_alloc_new w1 (.cells #[.int .i64 C.cla, .int .i64 C.ins, .int .i64 C.p1, .int .i64 C.p2, .slice A1 C.data.length n1, .int .i64 C.le, .bool C.long] 24))
      have hba1 := alloc_below w1 (.cells #[.int .i64 C.cla, .int .i64 C.ins, .int .i64 C.p1, .int .i64 C.p2, .slice A1 C.data.length n1, .int .i64 C.le, .bool C.long] 24)
      have HBA1 := Lib.hid hba1
      have HBB1 := Lib.hid (HB1.out.trans (hba1.mono HB1.out.size))
      have HS1 := Lib.hid (hs1.on hba1)
      clear hs1 hb1 hba1
      unfold Cm.val
      go_wp2_with fail
      generalize w1.alloc (.cells #[.int .i64 C.cla, .int .i64 C.ins, .int .i64 C.p1, .int .i64 C.p2, .slice A1 C.data.length n1, .int .i64 C.le, .bool C.long] 24) = W1 at *
      refine (HRJ.out _ HBB1.out).mono ?_
      rintro e w2 ⟨v2, rfl, hs2, -, hb2⟩
      obtain ⟨A2, n2, rfl, _⟩ := id hs2
      have hlt1 := lt_row HR1.out
      have HR1' := Lib.hid ((hb2.block _ hlt1).trans HR1.out)
      have HB2 := Lib.hid (HBB1.out.trans (hb2.mono HBB1.out.size))
      have HS1' := Lib.hid (HS1.out.on hb2)
      have hl12 : w1.heap.size < w2.heap.size := by have := hb2.size; omega
      have hba2 := alloc_below w2 (.cells #[.int .i64 C.cla, .int .i64 C.ins, .int .i64 C.p1, .int .i64 C.p2, .slice A2 C.data.length n2, .int .i64 C.le, .bool C.long] 24)
      have HQ1 := Lib.hid ((hba2.block _ hl12).trans HR1'.out)
      have HQ2 := Lib.hid (heap_alloc_new w2 (.cells #[.int .i64 C.cla, .int .i64 C.ins, .int .i64 C.p1, .int .i64 C.p2, .slice A2 C.data.length n2, .int .i64 C.le, .bool C.long] 24))
      have HBB2 := Lib.hid (HB2.out.trans (hba2.mono HB2.out.size))
      have HV1 := Lib.hid (HS1'.out.on hba2)
      have HV2 := Lib.hid (hs2.on hba2)
      clear hba2 hs2 hb2 HS1' HR1' HS1 HR1 HBA1 hlt1
      have hEE : (E == E) = true := by simp
      obtain ⟨r0, r1, r2, r3, r4, r5, r6⟩ := box7 (w' := w2) HQ1.out
      obtain ⟨s0, s1, s2, s3, s4, s5, s6⟩ := box7 (w' := w2) HQ2.out
      unfold Cm.val
      go_wp2_with fail
      generalize w2.alloc (.cells #[.int .i64 C.cla, .int .i64 C.ins, .int .i64 C.p1, .int .i64 C.p2, .slice A2 C.data.length n2, .int .i64 C.le, .bool C.long] 24) = W2 at *
      have HSM := rsamec_any C C _ _ W2 HV1.out HV2.out
      rw [sameC_self] at HSM
      refine HSM.mono ?_
      rintro e w3 ⟨rfl, hb3⟩
      have HB3 := HBB2.out.trans (hb3.mono HBB2.out.size)
      go_wp2_with fail
      refine (HEX.out _).mono ?_
      rintro e w4 ⟨rfl, hb4⟩
      go_wp2_with fail
      go_ret
      exact ⟨rfl, HB3.trans (hb4.mono HB3.size)⟩
    have hlt' : (k' : Int) < (cs.length : Int) := by omega
    obtain ⟨b, o, Ak, ck, rfl, c4⟩ := HC.out _ HB.out k' hlt
    generalize (cs.getD k' default).data.length = n at *
    obtain ⟨y, hy⟩ : ∃ y, y = wrap64 (z + (n : Int)) := ⟨_, rfl⟩
    by_cases hov : 70000 < y
    · have ho : (70000 : Int) < wrap64 (z + (n : Int)) := by omega
      go_wp2_with fail
      refine (HEX.out _).mono ?_
      rintro e w1 ⟨rfl, hb1⟩
      go_wp2_with fail
      go_ret
      exact ⟨rfl, HB.out.trans (hb1.mono HB.out.size)⟩
    · have ho : ¬ (70000 : Int) < wrap64 (z + (n : Int)) := by omega
      go_wp2_with fail
      exact ⟨⟨k' + 1, wrap64 (z + (n : Int)), by omega, by go_num, rfl, HB.out⟩, by simp [intOf]; omega⟩
end Go.Proofs.Ytjoibonbmalbdaa
