/-
  The walk of the law AccessOrder.
-/
import Derived.Test.YtjkbfogjfgnhiaaDoorLso
namespace Go.Proofs.YtjkbfogjfgnhiaaDoor
set_option linter.unusedVariables false
set_option linter.unusedSimpArgs false
open Go.RowKit

def bx3 (a b c : Cn) (A1 : Option Addr) (c1 : Nat) (A2 : Option Addr) (c2 : Nat) (A3 : Option Addr) (c3 : Nat) : Obj := .cells #[.int .i64 a.op, .int .i64 a.n, .slice A1 a.kids.length c1, .int .i64 b.op, .int .i64 b.n, .slice A2 b.kids.length c2, .int .i64 c.op, .int .i64 c.n, .slice A3 c.kids.length c3] 24 (0, 0)
theorem KL.three (w : World) (a b c : Cn) (A1 A2 A3 : Option Addr) (c1 c2 c3 : Nat) (h1 : KL w w.heap.size (.slice A1 a.kids.length c1) a.kids) (h2 : KL w w.heap.size (.slice A2 b.kids.length c2) b.kids) (h3 : KL w w.heap.size (.slice A3 c.kids.length c3) c.kids) :
    KL (w.alloc (bx3 a b c A1 c1 A2 c2 A3 c3)) (w.alloc (bx3 a b c A1 c1 A2 c2 A3 c3)).heap.size (.slice (some ⟨w.heap.size, 0, none⟩) 3 3) [a, b, c] := by
  have hb := alloc_below w (bx3 a b c A1 c1 A2 c2 A3 c3)
  have hr := heap_alloc_new w (bx3 a b c A1 c1 A2 c2 A3 c3)
  refine ⟨_, 3, rfl, Nat.le_refl _, by unfold maxLen; omega, fun _ => ⟨w.heap.size, 0, rfl, by rw [alloc_size]; omega, ?_⟩⟩
  unfold CnsAt CnsAt CnsAt CnsAt
  exact ⟨CnAt.make ((cell_of_row _ _ 0 _ _ _ hr).trans rfl) ((cell_of_row _ _ 1 _ _ _ hr).trans rfl) ⟨_, (cell_of_row _ _ 2 _ _ _ hr).trans rfl, h1.on hb⟩, CnAt.make ((cell_of_row _ _ 3 _ _ _ hr).trans rfl) ((cell_of_row _ _ 4 _ _ _ hr).trans rfl) ⟨_, (cell_of_row _ _ 5 _ _ _ hr).trans rfl, h2.on hb⟩, CnAt.make ((cell_of_row _ _ 6 _ _ _ hr).trans rfl) ((cell_of_row _ _ 7 _ _ _ hr).trans rfl) ⟨_, (cell_of_row _ _ 8 _ _ _ hr).trans rfl, h3.on hb⟩, trivial⟩
theorem imp_refl {a : Cn} (h : chkC 1 3 a = 0) : impB a a = true := (impB_iff a a).2 ⟨h, h, fun _ h => h⟩
theorem imp_trans {a b c : Cn} (h1 : impB a b = true) (h2 : impB b c = true) : impB a c = true := by
  rw [impB_iff] at *
  exact ⟨h1.1, h2.2.1, fun s h => h2.2.2 s (h1.2.2 s h)⟩
theorem imp_never {a : Cn} (h : chkC 1 3 a = 0) : impB (.mk 0 0 []) a = true := (impB_iff _ a).2 ⟨rfl, h, fun s h => by rw [Cn.sat] at h; simp [Int.reduceEq] at h⟩
theorem imp_always {a : Cn} (h : chkC 1 3 a = 0) : impB a (.mk 1 0 []) = true := (impB_iff a _).2 ⟨h, rfl, fun s _ => by rw [Cn.sat]; simp⟩
theorem imp_both1 {a b : Cn} (h : chkC 1 3 a = 0) (hb : chkC 1 3 (.mk 6 0 [a, b]) = 0) : impB (.mk 6 0 [a, b]) a = true := (impB_iff _ a).2 ⟨hb, h, fun s h => by
  rw [Cn.sat] at h
  simp only [reduceIte, Int.reduceEq, allS, Bool.and_eq_true] at h
  exact h.1⟩
theorem imp_both2 {a b : Cn} (h : chkC 1 3 b = 0) (hb : chkC 1 3 (.mk 6 0 [a, b]) = 0) : impB (.mk 6 0 [a, b]) b = true := (impB_iff _ b).2 ⟨hb, h, fun s h => by
  rw [Cn.sat] at h
  simp only [reduceIte, Int.reduceEq, allS, Bool.and_eq_true] at h
  exact h.2.1⟩
theorem imp_one1 {a b : Cn} (h : chkC 1 3 a = 0) (hb : chkC 1 3 (.mk 7 0 [a, b]) = 0) : impB a (.mk 7 0 [a, b]) = true := (impB_iff a _).2 ⟨h, hb, fun s h => by
  rw [Cn.sat]
  simp only [reduceIte, Int.reduceEq, anyS, h, Bool.true_or]⟩
theorem imp_one2 {a b : Cn} (h : chkC 1 3 b = 0) (hb : chkC 1 3 (.mk 7 0 [a, b]) = 0) : impB b (.mk 7 0 [a, b]) = true := (impB_iff b _).2 ⟨h, hb, fun s h => by
  rw [Cn.sat]
  simp only [reduceIte, Int.reduceEq, anyS, h, Bool.true_or, Bool.or_true]⟩

/-- The two composed conditions, and their boxes. -/
theorem orderW (w9 : World) (a b : Cn) (A1 : Option Addr) (c1 : Nat) (A2 : Option Addr) (c2 : Nat) (ha : KL w9 w9.heap.size (.slice A1 a.kids.length c1) a.kids) (hb : KL w9 w9.heap.size (.slice A2 b.kids.length c2) b.kids) (M : World)
    (hM : M = ((((w9.alloc (bx2 a b A1 c1 A2 c2)).alloc (Obj.cells #[.int .i64 6, .int .i64 0, .slice (some ⟨w9.heap.size, 0, none⟩) 2 2] 24)).alloc (bx2 a b A1 c1 A2 c2)).alloc (Obj.cells #[.int .i64 7, .int .i64 0, .slice (some ⟨w9.heap.size + 1 + 1, 0, none⟩) 2 2] 24))) :
    Below w9.heap.size w9 M ∧ M.heap[w9.heap.size + 1]? = some (Obj.cells #[.int .i64 6, .int .i64 0, .slice (some ⟨w9.heap.size, 0, none⟩) 2 2] 24) ∧ M.heap[w9.heap.size + 1 + 1 + 1]? = some (Obj.cells #[.int .i64 7, .int .i64 0, .slice (some ⟨w9.heap.size + 1 + 1, 0, none⟩) 2 2] 24) ∧
    KL M M.heap.size (.slice (some ⟨w9.heap.size, 0, none⟩) 2 2) [a, b] ∧ KL M M.heap.size (.slice (some ⟨w9.heap.size + 1 + 1, 0, none⟩) 2 2) [a, b] ∧ w9.heap.size + 4 ≤ M.heap.size := by
  have b1 := alloc_below w9 (bx2 a b A1 c1 A2 c2)
  have k1 := KL.two w9 a b A1 A2 c1 c2 ha hb
  have s1 := alloc_size w9 (bx2 a b A1 c1 A2 c2)
  generalize w9.alloc (bx2 a b A1 c1 A2 c2) = m1 at *
  have b2 := alloc_below m1 (Obj.cells #[.int .i64 6, .int .i64 0, .slice (some ⟨w9.heap.size, 0, none⟩) 2 2] 24)
  have n2 := heap_alloc_new m1 (Obj.cells #[.int .i64 6, .int .i64 0, .slice (some ⟨w9.heap.size, 0, none⟩) 2 2] 24)
  have s2 := alloc_size m1 (Obj.cells #[.int .i64 6, .int .i64 0, .slice (some ⟨w9.heap.size, 0, none⟩) 2 2] 24)
  generalize m1.alloc (Obj.cells #[.int .i64 6, .int .i64 0, .slice (some ⟨w9.heap.size, 0, none⟩) 2 2] 24) = m2 at *
  have b02 := b1.trans (b2.mono b1.size)
  have b3 := alloc_below m2 (bx2 a b A1 c1 A2 c2)
  have k3 := KL.two m2 a b A1 A2 c1 c2 (ha.on b02) (hb.on b02)
  have s3 := alloc_size m2 (bx2 a b A1 c1 A2 c2)
  generalize m2.alloc (bx2 a b A1 c1 A2 c2) = m3 at *
  have b4 := alloc_below m3 (Obj.cells #[.int .i64 7, .int .i64 0, .slice (some ⟨w9.heap.size + 1 + 1, 0, none⟩) 2 2] 24)
  have n4 := heap_alloc_new m3 (Obj.cells #[.int .i64 7, .int .i64 0, .slice (some ⟨w9.heap.size + 1 + 1, 0, none⟩) 2 2] 24)
  have s4 := alloc_size m3 (Obj.cells #[.int .i64 7, .int .i64 0, .slice (some ⟨w9.heap.size + 1 + 1, 0, none⟩) 2 2] 24)
  rw [← hM] at b4 n4 s4
  rw [s1] at n2 s2
  rw [s2] at k3 s3
  rw [s3] at n4 s4
  have b24 := b3.trans (b4.mono b3.size)
  have k3' := k3.on b4
  refine ⟨b02.trans (b24.mono b02.size), (b24.block _ (by omega)).trans n2, n4, (k1.on b2).on b24, k3', by omega⟩
set_option maxRecDepth 100000 in
set_option maxHeartbeats 51200000 in
theorem law_order (a b c : Cn) (va vb vc : Value) (w : World) (hka : KL w w.heap.size va a.kids) (hkb : KL w w.heap.size vb b.kids) (hkc : KL w w.heap.size vc c.kids) (hT : Tb w) :
    Calls Tryd.prog 8 #[.agg #[.int .i64 a.op, .int .i64 a.n, va], .agg #[.int .i64 b.op, .int .i64 b.n, vb], .agg #[.int .i64 c.op, .int .i64 c.n, vc]] w fun e w' => e = .returned (.bool true) ∧ Below w.heap.size w w' := by
  obtain ⟨A1, c1, rfl, _, _, _⟩ := id hka
  obtain ⟨A2, c2, rfl, _, _, _⟩ := id hkb
  obtain ⟨A3, c3, rfl, _, _, _⟩ := id hkc
  have hr3 := Rows3.start w (bx a.op a.n A1 a.kids.length c1) (bx b.op b.n A2 b.kids.length c2) (bx c.op c.n A3 c.kids.length c3)
  have hsz := heap3_size w (bx a.op a.n A1 a.kids.length c1) (bx b.op b.n A2 b.kids.length c2) (bx c.op c.n A3 c.kids.length c3)
  have hk3 := KL.three _ a b c A1 A2 A3 c1 c2 c3 (hka.on hr3.bel) (hkb.on hr3.bel) (hkc.on hr3.bel)
  have hb3 := alloc_below (((w.alloc (bx a.op a.n A1 a.kids.length c1)).alloc (bx b.op b.n A2 b.kids.length c2)).alloc (bx c.op c.n A3 c.kids.length c3)) (bx3 a b c A1 c1 A2 c2 A3 c3)
  have htw := hr3.on hb3
  have hf := few_any [a, b, c] _ _ hk3
  rw [hsz] at hf
  have HF := Lib.hid hf
  have HFE : Hid (([a, b, c] : List Cn).all fewB = (fewB a && (fewB b && fewB c))) := by show _ = _; simp
  rw [HFE.out] at HF
  have HFA := Lib.hid (few_cnt a)
  have HFB := Lib.hid (few_cnt b)
  have HFC := Lib.hid (few_cnt c)
  have HT0 := Lib.hid htw
  have HKA := Lib.hid fun (W : World) (hW : Below w.heap.size w W) => hka.on hW
  have HKB := Lib.hid fun (W : World) (hW : Below w.heap.size w W) => hkb.on hW
  have HKC := Lib.hid fun (W : World) (hW : Below w.heap.size w W) => hkc.on hW
  have HTB := Lib.hid fun (W : World) (hW : Below w.heap.size w W) => hT.on hW
  have HA := Lib.hid fun (W : World) (hW : Below w.heap.size w W) => works_any W (hT.on hW)
  have HC1 := Lib.hid fun (W : World) (hW : Below w.heap.size w W) (h1 : a.cnt ≤ 400) => pchk_any a _ W (hka.on hW) (hT.on hW) h1
  have HC2 := Lib.hid fun (W : World) (hW : Below w.heap.size w W) (h1 : b.cnt ≤ 400) => pchk_any b _ W (hkb.on hW) (hT.on hW) h1
  have HC3 := Lib.hid fun (W : World) (hW : Below w.heap.size w W) (h1 : c.cnt ≤ 400) => pchk_any c _ W (hkc.on hW) (hT.on hW) h1
  have HAT := Lib.hid fun (W : World) (hW : Below w.heap.size w W) (vk : Value) (hk : KL W W.heap.size vk [b, c]) (h1 : a.cnt ≤ 400) (h2 : b.cnt ≤ 400) (h3 : c.cnt ≤ 400) => atoms_any a (.mk 6 0 [b, c]) _ vk W (hka.on hW) hk (by omega) (by simp only [Cn.cnt, cntK]; omega)
  have HI := Lib.hid fun (x y : Cn) (vx vy : Value) (W : World) (hW : Below w.heap.size w W) (hx : KL W W.heap.size vx x.kids) (hy : KL W W.heap.size vy y.kids) (h1 : x.cnt ≤ 400) (h2 : y.cnt ≤ 400) => pimp_any x y vx vy W hx hy (hT.on hW) h1 h2
  have HS : Hid (∀ W, Rows3 w W (bx a.op a.n A1 a.kids.length c1) (bx b.op b.n A2 b.kids.length c2) (bx c.op c.n A3 c.kids.length c3) → W.cell? ⟨w.heap.size, 0, none⟩ = some (.int .i64 a.op) ∧ W.cell? ⟨w.heap.size, 1, none⟩ = some (.int .i64 a.n) ∧ W.cell? ⟨w.heap.size, 2, none⟩ = some (.slice A1 a.kids.length c1) ∧ W.cell? ⟨w.heap.size + 1, 0, none⟩ = some (.int .i64 b.op) ∧ W.cell? ⟨w.heap.size + 1, 1, none⟩ = some (.int .i64 b.n) ∧ W.cell? ⟨w.heap.size + 1, 2, none⟩ = some (.slice A2 b.kids.length c2) ∧ W.cell? ⟨w.heap.size + 1 + 1, 0, none⟩ = some (.int .i64 c.op) ∧ W.cell? ⟨w.heap.size + 1 + 1, 1, none⟩ = some (.int .i64 c.n) ∧ W.cell? ⟨w.heap.size + 1 + 1, 2, none⟩ = some (.slice A3 c.kids.length c3)) := fun W hW =>
    ⟨cell_of_row _ _ 0 _ _ _ hW.r0, cell_of_row _ _ 1 _ _ _ hW.r0, cell_of_row _ _ 2 _ _ _ hW.r0, cell_of_row _ _ 0 _ _ _ hW.r1, cell_of_row _ _ 1 _ _ _ hW.r1, cell_of_row _ _ 2 _ _ _ hW.r1, cell_of_row _ _ 0 _ _ _ hW.r2, cell_of_row _ _ 1 _ _ _ hW.r2, cell_of_row _ _ 2 _ _ _ hW.r2⟩
  clear hka hkb hkc hT hr3 hsz hk3 hb3 htw hf HFE
  generalize hfa : fewB a = FA at *
  generalize hfb : fewB b = FB at *
  generalize hfc : fewB c = FC at *
  clear hfa hfb hfc
  obtain ⟨F, hF⟩ : ∃ F, F = (FA && (FB && FC)) := ⟨_, rfl⟩
  rw [← hF] at HF
  have HFF := Lib.hid hF
  clear hF
  go_enter Tryd.func8, Tryd.ntmps8
  go_wp2_with fail
  refine HF.out.mono ?_
  rintro e w1 ⟨rfl, hb1⟩
  have ht1 := HT0.out.on hb1
  obtain ⟨p0, p1, p2, p3, p4, p5, p6, p7, p8⟩ := HS.out _ ht1
  have HT1 := Lib.hid ht1
  clear hb1 ht1
  cases F with
  | false =>
    go_wp2_with fail
    refine (HA.out _ HT1.out.bel).mono ?_
    rintro e wz ⟨rfl, hbz⟩
    go_wp2_with fail
    go_ret
    exact ⟨rfl, (HT1.out.on hbz).bel⟩
  | true =>
    have hff : FA = true ∧ FB = true ∧ FC = true := by have := HFF.out; simpa using this.symm
    have hca : a.cnt ≤ 400 := by have := HFA.out hff.1; omega
    have hcb : b.cnt ≤ 400 := by have := HFB.out hff.2.1; omega
    have hcc : c.cnt ≤ 400 := by have := HFC.out hff.2.2; omega
    clear hff HFF
    generalize (((Cn.mk 6 0 [b, c]).atm (a.atm [])).length : Int) = N at HAT
    have hba := alloc_below w1 (bx2 b c A2 c2 A3 c3)
    have htx := HT1.out.on hba
    have HTX := Lib.hid htx
    have HQ := Lib.hid (HAT.out _ htx.bel _ (KL.two w1 b c A2 A3 c2 c3 (HKB.out _ HT1.out.bel) (HKC.out _ HT1.out.bel)) hca hcb hcc)
    clear hba htx
    go_wp2_with fail
    refine HQ.out.mono ?_
    rintro e w2 ⟨rfl, hb2⟩
    have ht2 := HTX.out.on hb2
    have HT2 := Lib.hid ht2
    clear hb2 p0 p1 p2 p3 p4 p5 p6 p7 p8 HQ HTX HAT
    obtain ⟨p0, p1, p2, p3, p4, p5, p6, p7, p8⟩ := HS.out _ ht2
    clear ht2
    by_cases hN : 12 < N
    · go_wp2_with fail
      refine (HA.out _ HT2.out.bel).mono ?_
      rintro e wz ⟨rfl, hbz⟩
      go_wp2_with fail
      go_ret
      exact ⟨rfl, (HT2.out.on hbz).bel⟩
    · have hN2 : decide (12 < N) = false := decide_eq_false hN
      rcases chk_vals a with za | za | za <;> rw [za] at HC1
      · go_wp2_with fail
        refine (HC1.out _ HT2.out.bel hca).mono ?_
        rintro e w3 ⟨rfl, hb3⟩
        have ht3 := HT2.out.on hb3
        have HT3 := Lib.hid ht3
        clear hb3 p0 p1 p2 p3 p4 p5 p6 p7 p8
        obtain ⟨p0, p1, p2, p3, p4, p5, p6, p7, p8⟩ := HS.out _ ht3
        clear ht3
        rcases chk_vals b with zb | zb | zb <;> rw [zb] at HC2
        · go_wp2_with fail
          refine (HC2.out _ HT3.out.bel hcb).mono ?_
          rintro e w4 ⟨rfl, hb4⟩
          have ht4 := HT3.out.on hb4
          have HT4 := Lib.hid ht4
          clear hb4 p0 p1 p2 p3 p4 p5 p6 p7 p8
          obtain ⟨p0, p1, p2, p3, p4, p5, p6, p7, p8⟩ := HS.out _ ht4
          clear ht4
          rcases chk_vals c with zc | zc | zc <;> rw [zc] at HC3
          · go_wp2_with fail
            refine (HC3.out _ HT4.out.bel hcc).mono ?_
            rintro e w5 ⟨rfl, hb5⟩
            have ht5 := HT4.out.on hb5
            have HT5 := Lib.hid ht5
            clear hb5 p0 p1 p2 p3 p4 p5 p6 p7 p8
            obtain ⟨p0, p1, p2, p3, p4, p5, p6, p7, p8⟩ := HS.out _ ht5
            clear ht5
            have q := HI.out a a _ _ _ HT5.out.bel (HKA.out _ HT5.out.bel) (HKA.out _ HT5.out.bel) hca hca
            rw [imp_refl za] at q
            have HQ := Lib.hid q
            clear q
            go_wp2_with fail
            refine (HQ.out).mono ?_
            rintro e w6 ⟨rfl, hb6⟩
            have ht6 := HT5.out.on hb6
            have HT6 := Lib.hid ht6
            clear hb6 p0 p1 p2 p3 p4 p5 p6 p7 p8
            obtain ⟨p0, p1, p2, p3, p4, p5, p6, p7, p8⟩ := HS.out _ ht6
            clear ht6
            clear HQ
            cases hX1 : impB a b with
            | false =>
              have q := HI.out a b _ _ _ HT6.out.bel (HKA.out _ HT6.out.bel) (HKB.out _ HT6.out.bel) hca hcb
              rw [hX1] at q
              have HQ := Lib.hid q
              clear q
              go_wp2_with fail
              refine (HQ.out).mono ?_
              rintro e w7 ⟨rfl, hb7⟩
              have ht7 := HT6.out.on hb7
              have HT7 := Lib.hid ht7
              clear hb7 p0 p1 p2 p3 p4 p5 p6 p7 p8
              obtain ⟨p0, p1, p2, p3, p4, p5, p6, p7, p8⟩ := HS.out _ ht7
              clear ht7
              clear HQ
              have q := HI.out (.mk 0 0 []) a (.slice none 0 0) _ _ HT7.out.bel (KL.nil _ _ 0 none (Nat.zero_le _)) (HKA.out _ HT7.out.bel) (by simp [Cn.cnt, cntK]) hca
              rw [imp_never za] at q
              have HQ := Lib.hid q
              clear q
              go_wp2_with fail
              refine (HQ.out).mono ?_
              rintro e w8 ⟨rfl, hb8⟩
              have ht8 := HT7.out.on hb8
              have HT8 := Lib.hid ht8
              clear hb8 p0 p1 p2 p3 p4 p5 p6 p7 p8
              obtain ⟨p0, p1, p2, p3, p4, p5, p6, p7, p8⟩ := HS.out _ ht8
              clear ht8
              clear HQ
              have q := HI.out a (.mk 1 0 []) _ (.slice none 0 0) _ HT8.out.bel (HKA.out _ HT8.out.bel) (KL.nil _ _ 0 none (Nat.zero_le _)) hca (by simp [Cn.cnt, cntK])
              rw [imp_always za] at q
              have HQ := Lib.hid q
              clear q
              go_wp2_with fail
              refine (HQ.out).mono ?_
              rintro e w9 ⟨rfl, hb9⟩
              have ht9 := HT8.out.on hb9
              have HT9 := Lib.hid ht9
              clear hb9 p0 p1 p2 p3 p4 p5 p6 p7 p8
              obtain ⟨p0, p1, p2, p3, p4, p5, p6, p7, p8⟩ := HS.out _ ht9
              clear ht9
              clear HQ
              have hz0 : w.heap.size < w9.heap.size := by have := HT9.out.sz; omega
              have hz1 : w.heap.size + 1 < w9.heap.size := by have := HT9.out.sz; omega
              go_wp2_with fail
              have hm := orderW w9 a b A1 c1 A2 c2 (HKA.out _ HT9.out.bel) (HKB.out _ HT9.out.bel) _ rfl
              unfold bx2 at hm
              generalize ((((w9.alloc (Obj.cells #[Value.int IntKind.i64 a.op, Value.int IntKind.i64 a.n, Value.slice A1 a.kids.length c1, Value.int IntKind.i64 b.op, Value.int IntKind.i64 b.n, Value.slice A2 b.kids.length c2] 24)).alloc (Obj.cells #[Value.int IntKind.i64 6, Value.int IntKind.i64 0, Value.slice (some ⟨w9.heap.size, 0, none⟩) 2 2] 24)).alloc (Obj.cells #[Value.int IntKind.i64 a.op, Value.int IntKind.i64 a.n, Value.slice A1 a.kids.length c1, Value.int IntKind.i64 b.op, Value.int IntKind.i64 b.n, Value.slice A2 b.kids.length c2] 24)).alloc (Obj.cells #[Value.int IntKind.i64 7, Value.int IntKind.i64 0, Value.slice (some ⟨w9.heap.size + 1 + 1, 0, none⟩) 2 2] 24)) = M at *
              obtain ⟨hm1, hm2, hm3, hm4, hm5, hm6⟩ := hm
              have hmt := HT9.out.on hm1
              have hlc1 := (chk_len za).1
              have hlc2 := (chk_len zb).1
              have hcb1 : (Cn.mk 6 0 [a, b]).cnt ≤ 400 := by simp only [Cn.cnt, cntK]; omega
              have hcb2 : (Cn.mk 7 0 [a, b]).cnt ≤ 400 := by simp only [Cn.cnt, cntK]; omega
              have HSM : Hid (∀ W, Below M.heap.size M W → W.cell? ⟨w.heap.size, 0, none⟩ = some (.int .i64 a.op) ∧ W.cell? ⟨w.heap.size, 1, none⟩ = some (.int .i64 a.n) ∧ W.cell? ⟨w.heap.size, 2, none⟩ = some (.slice A1 a.kids.length c1) ∧ W.cell? ⟨w.heap.size + 1, 0, none⟩ = some (.int .i64 b.op) ∧ W.cell? ⟨w.heap.size + 1, 1, none⟩ = some (.int .i64 b.n) ∧ W.cell? ⟨w.heap.size + 1, 2, none⟩ = some (.slice A2 b.kids.length c2) ∧ W.cell? ⟨w.heap.size + 1 + 1, 0, none⟩ = some (.int .i64 c.op) ∧ W.cell? ⟨w.heap.size + 1 + 1, 1, none⟩ = some (.int .i64 c.n) ∧ W.cell? ⟨w.heap.size + 1 + 1, 2, none⟩ = some (.slice A3 c.kids.length c3) ∧ W.cell? ⟨w9.heap.size + 1, 0, none⟩ = some (.int .i64 6) ∧ W.cell? ⟨w9.heap.size + 1, 1, none⟩ = some (.int .i64 0) ∧ W.cell? ⟨w9.heap.size + 1, 2, none⟩ = some (.slice (some ⟨w9.heap.size, 0, none⟩) 2 2) ∧ W.cell? ⟨w9.heap.size + 1 + 1 + 1, 0, none⟩ = some (.int .i64 7) ∧ W.cell? ⟨w9.heap.size + 1 + 1 + 1, 1, none⟩ = some (.int .i64 0) ∧ W.cell? ⟨w9.heap.size + 1 + 1 + 1, 2, none⟩ = some (.slice (some ⟨w9.heap.size + 1 + 1, 0, none⟩) 2 2)) := fun W hW => by
                have h := HS.out W (hmt.on hW)
                have k1 := (hW.block _ (by omega)).trans hm2
                have k2 := (hW.block _ (by omega)).trans hm3
                exact ⟨h.1, h.2.1, h.2.2.1, h.2.2.2.1, h.2.2.2.2.1, h.2.2.2.2.2.1, h.2.2.2.2.2.2.1, h.2.2.2.2.2.2.2.1, h.2.2.2.2.2.2.2.2, cell_of_row _ _ 0 _ _ _ k1, cell_of_row _ _ 1 _ _ _ k1, cell_of_row _ _ 2 _ _ _ k1, cell_of_row _ _ 0 _ _ _ k2, cell_of_row _ _ 1 _ _ _ k2, cell_of_row _ _ 2 _ _ _ k2⟩
              have HUP : Hid (∀ W, Below M.heap.size M W → Below w.heap.size w W) := fun W hW => (hmt.on hW).bel
              have HM1 : Hid (∀ W, Below M.heap.size M W → KL W W.heap.size (.slice (some ⟨w9.heap.size, 0, none⟩) 2 2) [a, b]) := fun W hW => hm4.on hW
              have HM2 : Hid (∀ W, Below M.heap.size M W → KL W W.heap.size (.slice (some ⟨w9.heap.size + 1 + 1, 0, none⟩) 2 2) [a, b]) := fun W hW => hm5.on hW
              have HD1 := Lib.hid fun (W : World) (hW : Below M.heap.size M W) => pchk_any (.mk 6 0 [a, b]) _ W (HM1.out W hW) (HTB.out W (HUP.out W hW)) hcb1
              have HD2 := Lib.hid fun (W : World) (hW : Below M.heap.size M W) => pchk_any (.mk 7 0 [a, b]) _ W (HM2.out W hW) (HTB.out W (HUP.out W hW)) hcb2
              have HB0 := Lib.hid (Below.refl M.heap.size M)
              clear hm1 hm2 hm3 hm4 hm5 hm6 hmt hz0 hz1 p0 p1 p2 p3 p4 p5 p6 p7 p8 hlc1 hlc2
              rcases chk_vals (.mk 6 0 [a, b]) with zx | zx | zx <;> rw [zx] at HD1
              · refine (HD1.out _ HB0.out).mono ?_
                rintro e m1 ⟨rfl, hb1⟩
                have hc1 := HB0.out.trans (hb1.mono HB0.out.size)
                have HB1 := Lib.hid hc1
                clear hb1
                obtain ⟨p0, p1, p2, p3, p4, p5, p6, p7, p8, p9, p10, p11, p12, p13, p14⟩ := HSM.out _ hc1
                clear hc1
                have q := HI.out (.mk 6 0 [a, b]) a _ _ _ (HUP.out _ HB1.out) (HM1.out _ HB1.out) (HKA.out _ (HUP.out _ HB1.out)) hcb1 hca
                rw [imp_both1 za zx] at q
                have HQ := Lib.hid q
                clear q
                go_wp2_with fail
                refine (HQ.out).mono ?_
                rintro e m2 ⟨rfl, hb2⟩
                have hc2 := HB1.out.trans (hb2.mono HB1.out.size)
                have HB2 := Lib.hid hc2
                clear hb2 p0 p1 p2 p3 p4 p5 p6 p7 p8 p9 p10 p11 p12 p13 p14
                obtain ⟨p0, p1, p2, p3, p4, p5, p6, p7, p8, p9, p10, p11, p12, p13, p14⟩ := HSM.out _ hc2
                clear hc2
                clear HQ
                have q := HI.out (.mk 6 0 [a, b]) b _ _ _ (HUP.out _ HB2.out) (HM1.out _ HB2.out) (HKB.out _ (HUP.out _ HB2.out)) hcb1 hcb
                rw [imp_both2 zb zx] at q
                have HQ := Lib.hid q
                clear q
                go_wp2_with fail
                refine (HQ.out).mono ?_
                rintro e m3 ⟨rfl, hb3⟩
                have hc3 := HB2.out.trans (hb3.mono HB2.out.size)
                have HB3 := Lib.hid hc3
                clear hb3 p0 p1 p2 p3 p4 p5 p6 p7 p8 p9 p10 p11 p12 p13 p14
                obtain ⟨p0, p1, p2, p3, p4, p5, p6, p7, p8, p9, p10, p11, p12, p13, p14⟩ := HSM.out _ hc3
                clear hc3
                clear HQ
                rcases chk_vals (.mk 7 0 [a, b]) with zy | zy | zy <;> rw [zy] at HD2
                · go_wp2_with fail
                  refine (HD2.out _ HB3.out).mono ?_
                  rintro e m4 ⟨rfl, hb4⟩
                  have hc4 := HB3.out.trans (hb4.mono HB3.out.size)
                  have HB4 := Lib.hid hc4
                  clear hb4 p0 p1 p2 p3 p4 p5 p6 p7 p8 p9 p10 p11 p12 p13 p14
                  obtain ⟨p0, p1, p2, p3, p4, p5, p6, p7, p8, p9, p10, p11, p12, p13, p14⟩ := HSM.out _ hc4
                  clear hc4
                  have q := HI.out a (.mk 7 0 [a, b]) _ _ _ (HUP.out _ HB4.out) (HKA.out _ (HUP.out _ HB4.out)) (HM2.out _ HB4.out) hca hcb2
                  rw [imp_one1 za zy] at q
                  have HQ := Lib.hid q
                  clear q
                  go_wp2_with fail
                  refine (HQ.out).mono ?_
                  rintro e m5 ⟨rfl, hb5⟩
                  have hc5 := HB4.out.trans (hb5.mono HB4.out.size)
                  have HB5 := Lib.hid hc5
                  clear hb5 p0 p1 p2 p3 p4 p5 p6 p7 p8 p9 p10 p11 p12 p13 p14
                  obtain ⟨p0, p1, p2, p3, p4, p5, p6, p7, p8, p9, p10, p11, p12, p13, p14⟩ := HSM.out _ hc5
                  clear hc5
                  clear HQ
                  have q := HI.out b (.mk 7 0 [a, b]) _ _ _ (HUP.out _ HB5.out) (HKB.out _ (HUP.out _ HB5.out)) (HM2.out _ HB5.out) hcb hcb2
                  rw [imp_one2 zb zy] at q
                  have HQ := Lib.hid q
                  clear q
                  go_wp2_with fail
                  refine (HQ.out).mono ?_
                  rintro e m6 ⟨rfl, hb6⟩
                  have hc6 := HB5.out.trans (hb6.mono HB5.out.size)
                  have HB6 := Lib.hid hc6
                  clear hb6 p0 p1 p2 p3 p4 p5 p6 p7 p8 p9 p10 p11 p12 p13 p14
                  obtain ⟨p0, p1, p2, p3, p4, p5, p6, p7, p8, p9, p10, p11, p12, p13, p14⟩ := HSM.out _ hc6
                  clear hc6
                  clear HQ
                  go_wp2_with fail
                  refine (HA.out _ (HUP.out _ HB6.out)).mono ?_
                  rintro e wz ⟨rfl, hbz⟩
                  go_wp2_with fail
                  go_ret
                  exact ⟨rfl, HUP.out _ (HB6.out.trans (hbz.mono HB6.out.size))⟩
                · go_wp2_with fail
                  refine (HD2.out _ HB3.out).mono ?_
                  rintro e m4 ⟨rfl, hb4⟩
                  have hc4 := HB3.out.trans (hb4.mono HB3.out.size)
                  have HB4 := Lib.hid hc4
                  clear hb4 p0 p1 p2 p3 p4 p5 p6 p7 p8 p9 p10 p11 p12 p13 p14
                  obtain ⟨p0, p1, p2, p3, p4, p5, p6, p7, p8, p9, p10, p11, p12, p13, p14⟩ := HSM.out _ hc4
                  clear hc4
                  go_wp2_with fail
                  refine (HA.out _ (HUP.out _ HB4.out)).mono ?_
                  rintro e wz ⟨rfl, hbz⟩
                  go_wp2_with fail
                  go_ret
                  exact ⟨rfl, HUP.out _ (HB4.out.trans (hbz.mono HB4.out.size))⟩
                · go_wp2_with fail
                  refine (HD2.out _ HB3.out).mono ?_
                  rintro e m4 ⟨rfl, hb4⟩
                  have hc4 := HB3.out.trans (hb4.mono HB3.out.size)
                  have HB4 := Lib.hid hc4
                  clear hb4 p0 p1 p2 p3 p4 p5 p6 p7 p8 p9 p10 p11 p12 p13 p14
                  obtain ⟨p0, p1, p2, p3, p4, p5, p6, p7, p8, p9, p10, p11, p12, p13, p14⟩ := HSM.out _ hc4
                  clear hc4
                  go_wp2_with fail
                  refine (HA.out _ (HUP.out _ HB4.out)).mono ?_
                  rintro e wz ⟨rfl, hbz⟩
                  go_wp2_with fail
                  go_ret
                  exact ⟨rfl, HUP.out _ (HB4.out.trans (hbz.mono HB4.out.size))⟩
              · refine (HD1.out _ HB0.out).mono ?_
                rintro e m1 ⟨rfl, hb1⟩
                have hc1 := HB0.out.trans (hb1.mono HB0.out.size)
                have HB1 := Lib.hid hc1
                clear hb1
                obtain ⟨p0, p1, p2, p3, p4, p5, p6, p7, p8, p9, p10, p11, p12, p13, p14⟩ := HSM.out _ hc1
                clear hc1
                rcases chk_vals (.mk 7 0 [a, b]) with zy | zy | zy <;> rw [zy] at HD2
                · go_wp2_with fail
                  refine (HD2.out _ HB1.out).mono ?_
                  rintro e m2 ⟨rfl, hb2⟩
                  have hc2 := HB1.out.trans (hb2.mono HB1.out.size)
                  have HB2 := Lib.hid hc2
                  clear hb2 p0 p1 p2 p3 p4 p5 p6 p7 p8 p9 p10 p11 p12 p13 p14
                  obtain ⟨p0, p1, p2, p3, p4, p5, p6, p7, p8, p9, p10, p11, p12, p13, p14⟩ := HSM.out _ hc2
                  clear hc2
                  have q := HI.out a (.mk 7 0 [a, b]) _ _ _ (HUP.out _ HB2.out) (HKA.out _ (HUP.out _ HB2.out)) (HM2.out _ HB2.out) hca hcb2
                  rw [imp_one1 za zy] at q
                  have HQ := Lib.hid q
                  clear q
                  go_wp2_with fail
                  refine (HQ.out).mono ?_
                  rintro e m3 ⟨rfl, hb3⟩
                  have hc3 := HB2.out.trans (hb3.mono HB2.out.size)
                  have HB3 := Lib.hid hc3
                  clear hb3 p0 p1 p2 p3 p4 p5 p6 p7 p8 p9 p10 p11 p12 p13 p14
                  obtain ⟨p0, p1, p2, p3, p4, p5, p6, p7, p8, p9, p10, p11, p12, p13, p14⟩ := HSM.out _ hc3
                  clear hc3
                  clear HQ
                  have q := HI.out b (.mk 7 0 [a, b]) _ _ _ (HUP.out _ HB3.out) (HKB.out _ (HUP.out _ HB3.out)) (HM2.out _ HB3.out) hcb hcb2
                  rw [imp_one2 zb zy] at q
                  have HQ := Lib.hid q
                  clear q
                  go_wp2_with fail
                  refine (HQ.out).mono ?_
                  rintro e m4 ⟨rfl, hb4⟩
                  have hc4 := HB3.out.trans (hb4.mono HB3.out.size)
                  have HB4 := Lib.hid hc4
                  clear hb4 p0 p1 p2 p3 p4 p5 p6 p7 p8 p9 p10 p11 p12 p13 p14
                  obtain ⟨p0, p1, p2, p3, p4, p5, p6, p7, p8, p9, p10, p11, p12, p13, p14⟩ := HSM.out _ hc4
                  clear hc4
                  clear HQ
                  go_wp2_with fail
                  refine (HA.out _ (HUP.out _ HB4.out)).mono ?_
                  rintro e wz ⟨rfl, hbz⟩
                  go_wp2_with fail
                  go_ret
                  exact ⟨rfl, HUP.out _ (HB4.out.trans (hbz.mono HB4.out.size))⟩
                · go_wp2_with fail
                  refine (HD2.out _ HB1.out).mono ?_
                  rintro e m2 ⟨rfl, hb2⟩
                  have hc2 := HB1.out.trans (hb2.mono HB1.out.size)
                  have HB2 := Lib.hid hc2
                  clear hb2 p0 p1 p2 p3 p4 p5 p6 p7 p8 p9 p10 p11 p12 p13 p14
                  obtain ⟨p0, p1, p2, p3, p4, p5, p6, p7, p8, p9, p10, p11, p12, p13, p14⟩ := HSM.out _ hc2
                  clear hc2
                  go_wp2_with fail
                  refine (HA.out _ (HUP.out _ HB2.out)).mono ?_
                  rintro e wz ⟨rfl, hbz⟩
                  go_wp2_with fail
                  go_ret
                  exact ⟨rfl, HUP.out _ (HB2.out.trans (hbz.mono HB2.out.size))⟩
                · go_wp2_with fail
                  refine (HD2.out _ HB1.out).mono ?_
                  rintro e m2 ⟨rfl, hb2⟩
                  have hc2 := HB1.out.trans (hb2.mono HB1.out.size)
                  have HB2 := Lib.hid hc2
                  clear hb2 p0 p1 p2 p3 p4 p5 p6 p7 p8 p9 p10 p11 p12 p13 p14
                  obtain ⟨p0, p1, p2, p3, p4, p5, p6, p7, p8, p9, p10, p11, p12, p13, p14⟩ := HSM.out _ hc2
                  clear hc2
                  go_wp2_with fail
                  refine (HA.out _ (HUP.out _ HB2.out)).mono ?_
                  rintro e wz ⟨rfl, hbz⟩
                  go_wp2_with fail
                  go_ret
                  exact ⟨rfl, HUP.out _ (HB2.out.trans (hbz.mono HB2.out.size))⟩
              · refine (HD1.out _ HB0.out).mono ?_
                rintro e m1 ⟨rfl, hb1⟩
                have hc1 := HB0.out.trans (hb1.mono HB0.out.size)
                have HB1 := Lib.hid hc1
                clear hb1
                obtain ⟨p0, p1, p2, p3, p4, p5, p6, p7, p8, p9, p10, p11, p12, p13, p14⟩ := HSM.out _ hc1
                clear hc1
                rcases chk_vals (.mk 7 0 [a, b]) with zy | zy | zy <;> rw [zy] at HD2
                · go_wp2_with fail
                  refine (HD2.out _ HB1.out).mono ?_
                  rintro e m2 ⟨rfl, hb2⟩
                  have hc2 := HB1.out.trans (hb2.mono HB1.out.size)
                  have HB2 := Lib.hid hc2
                  clear hb2 p0 p1 p2 p3 p4 p5 p6 p7 p8 p9 p10 p11 p12 p13 p14
                  obtain ⟨p0, p1, p2, p3, p4, p5, p6, p7, p8, p9, p10, p11, p12, p13, p14⟩ := HSM.out _ hc2
                  clear hc2
                  have q := HI.out a (.mk 7 0 [a, b]) _ _ _ (HUP.out _ HB2.out) (HKA.out _ (HUP.out _ HB2.out)) (HM2.out _ HB2.out) hca hcb2
                  rw [imp_one1 za zy] at q
                  have HQ := Lib.hid q
                  clear q
                  go_wp2_with fail
                  refine (HQ.out).mono ?_
                  rintro e m3 ⟨rfl, hb3⟩
                  have hc3 := HB2.out.trans (hb3.mono HB2.out.size)
                  have HB3 := Lib.hid hc3
                  clear hb3 p0 p1 p2 p3 p4 p5 p6 p7 p8 p9 p10 p11 p12 p13 p14
                  obtain ⟨p0, p1, p2, p3, p4, p5, p6, p7, p8, p9, p10, p11, p12, p13, p14⟩ := HSM.out _ hc3
                  clear hc3
                  clear HQ
                  have q := HI.out b (.mk 7 0 [a, b]) _ _ _ (HUP.out _ HB3.out) (HKB.out _ (HUP.out _ HB3.out)) (HM2.out _ HB3.out) hcb hcb2
                  rw [imp_one2 zb zy] at q
                  have HQ := Lib.hid q
                  clear q
                  go_wp2_with fail
                  refine (HQ.out).mono ?_
                  rintro e m4 ⟨rfl, hb4⟩
                  have hc4 := HB3.out.trans (hb4.mono HB3.out.size)
                  have HB4 := Lib.hid hc4
                  clear hb4 p0 p1 p2 p3 p4 p5 p6 p7 p8 p9 p10 p11 p12 p13 p14
                  obtain ⟨p0, p1, p2, p3, p4, p5, p6, p7, p8, p9, p10, p11, p12, p13, p14⟩ := HSM.out _ hc4
                  clear hc4
                  clear HQ
                  go_wp2_with fail
                  refine (HA.out _ (HUP.out _ HB4.out)).mono ?_
                  rintro e wz ⟨rfl, hbz⟩
                  go_wp2_with fail
                  go_ret
                  exact ⟨rfl, HUP.out _ (HB4.out.trans (hbz.mono HB4.out.size))⟩
                · go_wp2_with fail
                  refine (HD2.out _ HB1.out).mono ?_
                  rintro e m2 ⟨rfl, hb2⟩
                  have hc2 := HB1.out.trans (hb2.mono HB1.out.size)
                  have HB2 := Lib.hid hc2
                  clear hb2 p0 p1 p2 p3 p4 p5 p6 p7 p8 p9 p10 p11 p12 p13 p14
                  obtain ⟨p0, p1, p2, p3, p4, p5, p6, p7, p8, p9, p10, p11, p12, p13, p14⟩ := HSM.out _ hc2
                  clear hc2
                  go_wp2_with fail
                  refine (HA.out _ (HUP.out _ HB2.out)).mono ?_
                  rintro e wz ⟨rfl, hbz⟩
                  go_wp2_with fail
                  go_ret
                  exact ⟨rfl, HUP.out _ (HB2.out.trans (hbz.mono HB2.out.size))⟩
                · go_wp2_with fail
                  refine (HD2.out _ HB1.out).mono ?_
                  rintro e m2 ⟨rfl, hb2⟩
                  have hc2 := HB1.out.trans (hb2.mono HB1.out.size)
                  have HB2 := Lib.hid hc2
                  clear hb2 p0 p1 p2 p3 p4 p5 p6 p7 p8 p9 p10 p11 p12 p13 p14
                  obtain ⟨p0, p1, p2, p3, p4, p5, p6, p7, p8, p9, p10, p11, p12, p13, p14⟩ := HSM.out _ hc2
                  clear hc2
                  go_wp2_with fail
                  refine (HA.out _ (HUP.out _ HB2.out)).mono ?_
                  rintro e wz ⟨rfl, hbz⟩
                  go_wp2_with fail
                  go_ret
                  exact ⟨rfl, HUP.out _ (HB2.out.trans (hbz.mono HB2.out.size))⟩
            | true =>
              have q := HI.out a b _ _ _ HT6.out.bel (HKA.out _ HT6.out.bel) (HKB.out _ HT6.out.bel) hca hcb
              rw [hX1] at q
              have HQ := Lib.hid q
              clear q
              go_wp2_with fail
              refine (HQ.out).mono ?_
              rintro e w7 ⟨rfl, hb7⟩
              have ht7 := HT6.out.on hb7
              have HT7 := Lib.hid ht7
              clear hb7 p0 p1 p2 p3 p4 p5 p6 p7 p8
              obtain ⟨p0, p1, p2, p3, p4, p5, p6, p7, p8⟩ := HS.out _ ht7
              clear ht7
              clear HQ
              cases hX2 : impB b c with
              | false =>
                have q := HI.out b c _ _ _ HT7.out.bel (HKB.out _ HT7.out.bel) (HKC.out _ HT7.out.bel) hcb hcc
                rw [hX2] at q
                have HQ := Lib.hid q
                clear q
                go_wp2_with fail
                refine (HQ.out).mono ?_
                rintro e w8 ⟨rfl, hb8⟩
                have ht8 := HT7.out.on hb8
                have HT8 := Lib.hid ht8
                clear hb8 p0 p1 p2 p3 p4 p5 p6 p7 p8
                obtain ⟨p0, p1, p2, p3, p4, p5, p6, p7, p8⟩ := HS.out _ ht8
                clear ht8
                clear HQ
                have q := HI.out (.mk 0 0 []) a (.slice none 0 0) _ _ HT8.out.bel (KL.nil _ _ 0 none (Nat.zero_le _)) (HKA.out _ HT8.out.bel) (by simp [Cn.cnt, cntK]) hca
                rw [imp_never za] at q
                have HQ := Lib.hid q
                clear q
                go_wp2_with fail
                refine (HQ.out).mono ?_
                rintro e w9 ⟨rfl, hb9⟩
                have ht9 := HT8.out.on hb9
                have HT9 := Lib.hid ht9
                clear hb9 p0 p1 p2 p3 p4 p5 p6 p7 p8
                obtain ⟨p0, p1, p2, p3, p4, p5, p6, p7, p8⟩ := HS.out _ ht9
                clear ht9
                clear HQ
                have q := HI.out a (.mk 1 0 []) _ (.slice none 0 0) _ HT9.out.bel (HKA.out _ HT9.out.bel) (KL.nil _ _ 0 none (Nat.zero_le _)) hca (by simp [Cn.cnt, cntK])
                rw [imp_always za] at q
                have HQ := Lib.hid q
                clear q
                go_wp2_with fail
                refine (HQ.out).mono ?_
                rintro e w10 ⟨rfl, hb10⟩
                have ht10 := HT9.out.on hb10
                have HT10 := Lib.hid ht10
                clear hb10 p0 p1 p2 p3 p4 p5 p6 p7 p8
                obtain ⟨p0, p1, p2, p3, p4, p5, p6, p7, p8⟩ := HS.out _ ht10
                clear ht10
                clear HQ
                have hz0 : w.heap.size < w10.heap.size := by have := HT10.out.sz; omega
                have hz1 : w.heap.size + 1 < w10.heap.size := by have := HT10.out.sz; omega
                go_wp2_with fail
                have hm := orderW w10 a b A1 c1 A2 c2 (HKA.out _ HT10.out.bel) (HKB.out _ HT10.out.bel) _ rfl
                unfold bx2 at hm
                generalize ((((w10.alloc (Obj.cells #[Value.int IntKind.i64 a.op, Value.int IntKind.i64 a.n, Value.slice A1 a.kids.length c1, Value.int IntKind.i64 b.op, Value.int IntKind.i64 b.n, Value.slice A2 b.kids.length c2] 24)).alloc (Obj.cells #[Value.int IntKind.i64 6, Value.int IntKind.i64 0, Value.slice (some ⟨w10.heap.size, 0, none⟩) 2 2] 24)).alloc (Obj.cells #[Value.int IntKind.i64 a.op, Value.int IntKind.i64 a.n, Value.slice A1 a.kids.length c1, Value.int IntKind.i64 b.op, Value.int IntKind.i64 b.n, Value.slice A2 b.kids.length c2] 24)).alloc (Obj.cells #[Value.int IntKind.i64 7, Value.int IntKind.i64 0, Value.slice (some ⟨w10.heap.size + 1 + 1, 0, none⟩) 2 2] 24)) = M at *
                obtain ⟨hm1, hm2, hm3, hm4, hm5, hm6⟩ := hm
                have hmt := HT10.out.on hm1
                have hlc1 := (chk_len za).1
                have hlc2 := (chk_len zb).1
                have hcb1 : (Cn.mk 6 0 [a, b]).cnt ≤ 400 := by simp only [Cn.cnt, cntK]; omega
                have hcb2 : (Cn.mk 7 0 [a, b]).cnt ≤ 400 := by simp only [Cn.cnt, cntK]; omega
                have HSM : Hid (∀ W, Below M.heap.size M W → W.cell? ⟨w.heap.size, 0, none⟩ = some (.int .i64 a.op) ∧ W.cell? ⟨w.heap.size, 1, none⟩ = some (.int .i64 a.n) ∧ W.cell? ⟨w.heap.size, 2, none⟩ = some (.slice A1 a.kids.length c1) ∧ W.cell? ⟨w.heap.size + 1, 0, none⟩ = some (.int .i64 b.op) ∧ W.cell? ⟨w.heap.size + 1, 1, none⟩ = some (.int .i64 b.n) ∧ W.cell? ⟨w.heap.size + 1, 2, none⟩ = some (.slice A2 b.kids.length c2) ∧ W.cell? ⟨w.heap.size + 1 + 1, 0, none⟩ = some (.int .i64 c.op) ∧ W.cell? ⟨w.heap.size + 1 + 1, 1, none⟩ = some (.int .i64 c.n) ∧ W.cell? ⟨w.heap.size + 1 + 1, 2, none⟩ = some (.slice A3 c.kids.length c3) ∧ W.cell? ⟨w10.heap.size + 1, 0, none⟩ = some (.int .i64 6) ∧ W.cell? ⟨w10.heap.size + 1, 1, none⟩ = some (.int .i64 0) ∧ W.cell? ⟨w10.heap.size + 1, 2, none⟩ = some (.slice (some ⟨w10.heap.size, 0, none⟩) 2 2) ∧ W.cell? ⟨w10.heap.size + 1 + 1 + 1, 0, none⟩ = some (.int .i64 7) ∧ W.cell? ⟨w10.heap.size + 1 + 1 + 1, 1, none⟩ = some (.int .i64 0) ∧ W.cell? ⟨w10.heap.size + 1 + 1 + 1, 2, none⟩ = some (.slice (some ⟨w10.heap.size + 1 + 1, 0, none⟩) 2 2)) := fun W hW => by
                  have h := HS.out W (hmt.on hW)
                  have k1 := (hW.block _ (by omega)).trans hm2
                  have k2 := (hW.block _ (by omega)).trans hm3
                  exact ⟨h.1, h.2.1, h.2.2.1, h.2.2.2.1, h.2.2.2.2.1, h.2.2.2.2.2.1, h.2.2.2.2.2.2.1, h.2.2.2.2.2.2.2.1, h.2.2.2.2.2.2.2.2, cell_of_row _ _ 0 _ _ _ k1, cell_of_row _ _ 1 _ _ _ k1, cell_of_row _ _ 2 _ _ _ k1, cell_of_row _ _ 0 _ _ _ k2, cell_of_row _ _ 1 _ _ _ k2, cell_of_row _ _ 2 _ _ _ k2⟩
                have HUP : Hid (∀ W, Below M.heap.size M W → Below w.heap.size w W) := fun W hW => (hmt.on hW).bel
                have HM1 : Hid (∀ W, Below M.heap.size M W → KL W W.heap.size (.slice (some ⟨w10.heap.size, 0, none⟩) 2 2) [a, b]) := fun W hW => hm4.on hW
                have HM2 : Hid (∀ W, Below M.heap.size M W → KL W W.heap.size (.slice (some ⟨w10.heap.size + 1 + 1, 0, none⟩) 2 2) [a, b]) := fun W hW => hm5.on hW
                have HD1 := Lib.hid fun (W : World) (hW : Below M.heap.size M W) => pchk_any (.mk 6 0 [a, b]) _ W (HM1.out W hW) (HTB.out W (HUP.out W hW)) hcb1
                have HD2 := Lib.hid fun (W : World) (hW : Below M.heap.size M W) => pchk_any (.mk 7 0 [a, b]) _ W (HM2.out W hW) (HTB.out W (HUP.out W hW)) hcb2
                have HB0 := Lib.hid (Below.refl M.heap.size M)
                clear hm1 hm2 hm3 hm4 hm5 hm6 hmt hz0 hz1 p0 p1 p2 p3 p4 p5 p6 p7 p8 hlc1 hlc2
                rcases chk_vals (.mk 6 0 [a, b]) with zx | zx | zx <;> rw [zx] at HD1
                · refine (HD1.out _ HB0.out).mono ?_
                  rintro e m1 ⟨rfl, hb1⟩
                  have hc1 := HB0.out.trans (hb1.mono HB0.out.size)
                  have HB1 := Lib.hid hc1
                  clear hb1
                  obtain ⟨p0, p1, p2, p3, p4, p5, p6, p7, p8, p9, p10, p11, p12, p13, p14⟩ := HSM.out _ hc1
                  clear hc1
                  have q := HI.out (.mk 6 0 [a, b]) a _ _ _ (HUP.out _ HB1.out) (HM1.out _ HB1.out) (HKA.out _ (HUP.out _ HB1.out)) hcb1 hca
                  rw [imp_both1 za zx] at q
                  have HQ := Lib.hid q
                  clear q
                  go_wp2_with fail
                  refine (HQ.out).mono ?_
                  rintro e m2 ⟨rfl, hb2⟩
                  have hc2 := HB1.out.trans (hb2.mono HB1.out.size)
                  have HB2 := Lib.hid hc2
                  clear hb2 p0 p1 p2 p3 p4 p5 p6 p7 p8 p9 p10 p11 p12 p13 p14
                  obtain ⟨p0, p1, p2, p3, p4, p5, p6, p7, p8, p9, p10, p11, p12, p13, p14⟩ := HSM.out _ hc2
                  clear hc2
                  clear HQ
                  have q := HI.out (.mk 6 0 [a, b]) b _ _ _ (HUP.out _ HB2.out) (HM1.out _ HB2.out) (HKB.out _ (HUP.out _ HB2.out)) hcb1 hcb
                  rw [imp_both2 zb zx] at q
                  have HQ := Lib.hid q
                  clear q
                  go_wp2_with fail
                  refine (HQ.out).mono ?_
                  rintro e m3 ⟨rfl, hb3⟩
                  have hc3 := HB2.out.trans (hb3.mono HB2.out.size)
                  have HB3 := Lib.hid hc3
                  clear hb3 p0 p1 p2 p3 p4 p5 p6 p7 p8 p9 p10 p11 p12 p13 p14
                  obtain ⟨p0, p1, p2, p3, p4, p5, p6, p7, p8, p9, p10, p11, p12, p13, p14⟩ := HSM.out _ hc3
                  clear hc3
                  clear HQ
                  rcases chk_vals (.mk 7 0 [a, b]) with zy | zy | zy <;> rw [zy] at HD2
                  · go_wp2_with fail
                    refine (HD2.out _ HB3.out).mono ?_
                    rintro e m4 ⟨rfl, hb4⟩
                    have hc4 := HB3.out.trans (hb4.mono HB3.out.size)
                    have HB4 := Lib.hid hc4
                    clear hb4 p0 p1 p2 p3 p4 p5 p6 p7 p8 p9 p10 p11 p12 p13 p14
                    obtain ⟨p0, p1, p2, p3, p4, p5, p6, p7, p8, p9, p10, p11, p12, p13, p14⟩ := HSM.out _ hc4
                    clear hc4
                    have q := HI.out a (.mk 7 0 [a, b]) _ _ _ (HUP.out _ HB4.out) (HKA.out _ (HUP.out _ HB4.out)) (HM2.out _ HB4.out) hca hcb2
                    rw [imp_one1 za zy] at q
                    have HQ := Lib.hid q
                    clear q
                    go_wp2_with fail
                    refine (HQ.out).mono ?_
                    rintro e m5 ⟨rfl, hb5⟩
                    have hc5 := HB4.out.trans (hb5.mono HB4.out.size)
                    have HB5 := Lib.hid hc5
                    clear hb5 p0 p1 p2 p3 p4 p5 p6 p7 p8 p9 p10 p11 p12 p13 p14
                    obtain ⟨p0, p1, p2, p3, p4, p5, p6, p7, p8, p9, p10, p11, p12, p13, p14⟩ := HSM.out _ hc5
                    clear hc5
                    clear HQ
                    have q := HI.out b (.mk 7 0 [a, b]) _ _ _ (HUP.out _ HB5.out) (HKB.out _ (HUP.out _ HB5.out)) (HM2.out _ HB5.out) hcb hcb2
                    rw [imp_one2 zb zy] at q
                    have HQ := Lib.hid q
                    clear q
                    go_wp2_with fail
                    refine (HQ.out).mono ?_
                    rintro e m6 ⟨rfl, hb6⟩
                    have hc6 := HB5.out.trans (hb6.mono HB5.out.size)
                    have HB6 := Lib.hid hc6
                    clear hb6 p0 p1 p2 p3 p4 p5 p6 p7 p8 p9 p10 p11 p12 p13 p14
                    obtain ⟨p0, p1, p2, p3, p4, p5, p6, p7, p8, p9, p10, p11, p12, p13, p14⟩ := HSM.out _ hc6
                    clear hc6
                    clear HQ
                    go_wp2_with fail
                    refine (HA.out _ (HUP.out _ HB6.out)).mono ?_
                    rintro e wz ⟨rfl, hbz⟩
                    go_wp2_with fail
                    go_ret
                    exact ⟨rfl, HUP.out _ (HB6.out.trans (hbz.mono HB6.out.size))⟩
                  · go_wp2_with fail
                    refine (HD2.out _ HB3.out).mono ?_
                    rintro e m4 ⟨rfl, hb4⟩
                    have hc4 := HB3.out.trans (hb4.mono HB3.out.size)
                    have HB4 := Lib.hid hc4
                    clear hb4 p0 p1 p2 p3 p4 p5 p6 p7 p8 p9 p10 p11 p12 p13 p14
                    obtain ⟨p0, p1, p2, p3, p4, p5, p6, p7, p8, p9, p10, p11, p12, p13, p14⟩ := HSM.out _ hc4
                    clear hc4
                    go_wp2_with fail
                    refine (HA.out _ (HUP.out _ HB4.out)).mono ?_
                    rintro e wz ⟨rfl, hbz⟩
                    go_wp2_with fail
                    go_ret
                    exact ⟨rfl, HUP.out _ (HB4.out.trans (hbz.mono HB4.out.size))⟩
                  · go_wp2_with fail
                    refine (HD2.out _ HB3.out).mono ?_
                    rintro e m4 ⟨rfl, hb4⟩
                    have hc4 := HB3.out.trans (hb4.mono HB3.out.size)
                    have HB4 := Lib.hid hc4
                    clear hb4 p0 p1 p2 p3 p4 p5 p6 p7 p8 p9 p10 p11 p12 p13 p14
                    obtain ⟨p0, p1, p2, p3, p4, p5, p6, p7, p8, p9, p10, p11, p12, p13, p14⟩ := HSM.out _ hc4
                    clear hc4
                    go_wp2_with fail
                    refine (HA.out _ (HUP.out _ HB4.out)).mono ?_
                    rintro e wz ⟨rfl, hbz⟩
                    go_wp2_with fail
                    go_ret
                    exact ⟨rfl, HUP.out _ (HB4.out.trans (hbz.mono HB4.out.size))⟩
                · refine (HD1.out _ HB0.out).mono ?_
                  rintro e m1 ⟨rfl, hb1⟩
                  have hc1 := HB0.out.trans (hb1.mono HB0.out.size)
                  have HB1 := Lib.hid hc1
                  clear hb1
                  obtain ⟨p0, p1, p2, p3, p4, p5, p6, p7, p8, p9, p10, p11, p12, p13, p14⟩ := HSM.out _ hc1
                  clear hc1
                  rcases chk_vals (.mk 7 0 [a, b]) with zy | zy | zy <;> rw [zy] at HD2
                  · go_wp2_with fail
                    refine (HD2.out _ HB1.out).mono ?_
                    rintro e m2 ⟨rfl, hb2⟩
                    have hc2 := HB1.out.trans (hb2.mono HB1.out.size)
                    have HB2 := Lib.hid hc2
                    clear hb2 p0 p1 p2 p3 p4 p5 p6 p7 p8 p9 p10 p11 p12 p13 p14
                    obtain ⟨p0, p1, p2, p3, p4, p5, p6, p7, p8, p9, p10, p11, p12, p13, p14⟩ := HSM.out _ hc2
                    clear hc2
                    have q := HI.out a (.mk 7 0 [a, b]) _ _ _ (HUP.out _ HB2.out) (HKA.out _ (HUP.out _ HB2.out)) (HM2.out _ HB2.out) hca hcb2
                    rw [imp_one1 za zy] at q
                    have HQ := Lib.hid q
                    clear q
                    go_wp2_with fail
                    refine (HQ.out).mono ?_
                    rintro e m3 ⟨rfl, hb3⟩
                    have hc3 := HB2.out.trans (hb3.mono HB2.out.size)
                    have HB3 := Lib.hid hc3
                    clear hb3 p0 p1 p2 p3 p4 p5 p6 p7 p8 p9 p10 p11 p12 p13 p14
                    obtain ⟨p0, p1, p2, p3, p4, p5, p6, p7, p8, p9, p10, p11, p12, p13, p14⟩ := HSM.out _ hc3
                    clear hc3
                    clear HQ
                    have q := HI.out b (.mk 7 0 [a, b]) _ _ _ (HUP.out _ HB3.out) (HKB.out _ (HUP.out _ HB3.out)) (HM2.out _ HB3.out) hcb hcb2
                    rw [imp_one2 zb zy] at q
                    have HQ := Lib.hid q
                    clear q
                    go_wp2_with fail
                    refine (HQ.out).mono ?_
                    rintro e m4 ⟨rfl, hb4⟩
                    have hc4 := HB3.out.trans (hb4.mono HB3.out.size)
                    have HB4 := Lib.hid hc4
                    clear hb4 p0 p1 p2 p3 p4 p5 p6 p7 p8 p9 p10 p11 p12 p13 p14
                    obtain ⟨p0, p1, p2, p3, p4, p5, p6, p7, p8, p9, p10, p11, p12, p13, p14⟩ := HSM.out _ hc4
                    clear hc4
                    clear HQ
                    go_wp2_with fail
                    refine (HA.out _ (HUP.out _ HB4.out)).mono ?_
                    rintro e wz ⟨rfl, hbz⟩
                    go_wp2_with fail
                    go_ret
                    exact ⟨rfl, HUP.out _ (HB4.out.trans (hbz.mono HB4.out.size))⟩
                  · go_wp2_with fail
                    refine (HD2.out _ HB1.out).mono ?_
                    rintro e m2 ⟨rfl, hb2⟩
                    have hc2 := HB1.out.trans (hb2.mono HB1.out.size)
                    have HB2 := Lib.hid hc2
                    clear hb2 p0 p1 p2 p3 p4 p5 p6 p7 p8 p9 p10 p11 p12 p13 p14
                    obtain ⟨p0, p1, p2, p3, p4, p5, p6, p7, p8, p9, p10, p11, p12, p13, p14⟩ := HSM.out _ hc2
                    clear hc2
                    go_wp2_with fail
                    refine (HA.out _ (HUP.out _ HB2.out)).mono ?_
                    rintro e wz ⟨rfl, hbz⟩
                    go_wp2_with fail
                    go_ret
                    exact ⟨rfl, HUP.out _ (HB2.out.trans (hbz.mono HB2.out.size))⟩
                  · go_wp2_with fail
                    refine (HD2.out _ HB1.out).mono ?_
                    rintro e m2 ⟨rfl, hb2⟩
                    have hc2 := HB1.out.trans (hb2.mono HB1.out.size)
                    have HB2 := Lib.hid hc2
                    clear hb2 p0 p1 p2 p3 p4 p5 p6 p7 p8 p9 p10 p11 p12 p13 p14
                    obtain ⟨p0, p1, p2, p3, p4, p5, p6, p7, p8, p9, p10, p11, p12, p13, p14⟩ := HSM.out _ hc2
                    clear hc2
                    go_wp2_with fail
                    refine (HA.out _ (HUP.out _ HB2.out)).mono ?_
                    rintro e wz ⟨rfl, hbz⟩
                    go_wp2_with fail
                    go_ret
                    exact ⟨rfl, HUP.out _ (HB2.out.trans (hbz.mono HB2.out.size))⟩
                · refine (HD1.out _ HB0.out).mono ?_
                  rintro e m1 ⟨rfl, hb1⟩
                  have hc1 := HB0.out.trans (hb1.mono HB0.out.size)
                  have HB1 := Lib.hid hc1
                  clear hb1
                  obtain ⟨p0, p1, p2, p3, p4, p5, p6, p7, p8, p9, p10, p11, p12, p13, p14⟩ := HSM.out _ hc1
                  clear hc1
                  rcases chk_vals (.mk 7 0 [a, b]) with zy | zy | zy <;> rw [zy] at HD2
                  · go_wp2_with fail
                    refine (HD2.out _ HB1.out).mono ?_
                    rintro e m2 ⟨rfl, hb2⟩
                    have hc2 := HB1.out.trans (hb2.mono HB1.out.size)
                    have HB2 := Lib.hid hc2
                    clear hb2 p0 p1 p2 p3 p4 p5 p6 p7 p8 p9 p10 p11 p12 p13 p14
                    obtain ⟨p0, p1, p2, p3, p4, p5, p6, p7, p8, p9, p10, p11, p12, p13, p14⟩ := HSM.out _ hc2
                    clear hc2
                    have q := HI.out a (.mk 7 0 [a, b]) _ _ _ (HUP.out _ HB2.out) (HKA.out _ (HUP.out _ HB2.out)) (HM2.out _ HB2.out) hca hcb2
                    rw [imp_one1 za zy] at q
                    have HQ := Lib.hid q
                    clear q
                    go_wp2_with fail
                    refine (HQ.out).mono ?_
                    rintro e m3 ⟨rfl, hb3⟩
                    have hc3 := HB2.out.trans (hb3.mono HB2.out.size)
                    have HB3 := Lib.hid hc3
                    clear hb3 p0 p1 p2 p3 p4 p5 p6 p7 p8 p9 p10 p11 p12 p13 p14
                    obtain ⟨p0, p1, p2, p3, p4, p5, p6, p7, p8, p9, p10, p11, p12, p13, p14⟩ := HSM.out _ hc3
                    clear hc3
                    clear HQ
                    have q := HI.out b (.mk 7 0 [a, b]) _ _ _ (HUP.out _ HB3.out) (HKB.out _ (HUP.out _ HB3.out)) (HM2.out _ HB3.out) hcb hcb2
                    rw [imp_one2 zb zy] at q
                    have HQ := Lib.hid q
                    clear q
                    go_wp2_with fail
                    refine (HQ.out).mono ?_
                    rintro e m4 ⟨rfl, hb4⟩
                    have hc4 := HB3.out.trans (hb4.mono HB3.out.size)
                    have HB4 := Lib.hid hc4
                    clear hb4 p0 p1 p2 p3 p4 p5 p6 p7 p8 p9 p10 p11 p12 p13 p14
                    obtain ⟨p0, p1, p2, p3, p4, p5, p6, p7, p8, p9, p10, p11, p12, p13, p14⟩ := HSM.out _ hc4
                    clear hc4
                    clear HQ
                    go_wp2_with fail
                    refine (HA.out _ (HUP.out _ HB4.out)).mono ?_
                    rintro e wz ⟨rfl, hbz⟩
                    go_wp2_with fail
                    go_ret
                    exact ⟨rfl, HUP.out _ (HB4.out.trans (hbz.mono HB4.out.size))⟩
                  · go_wp2_with fail
                    refine (HD2.out _ HB1.out).mono ?_
                    rintro e m2 ⟨rfl, hb2⟩
                    have hc2 := HB1.out.trans (hb2.mono HB1.out.size)
                    have HB2 := Lib.hid hc2
                    clear hb2 p0 p1 p2 p3 p4 p5 p6 p7 p8 p9 p10 p11 p12 p13 p14
                    obtain ⟨p0, p1, p2, p3, p4, p5, p6, p7, p8, p9, p10, p11, p12, p13, p14⟩ := HSM.out _ hc2
                    clear hc2
                    go_wp2_with fail
                    refine (HA.out _ (HUP.out _ HB2.out)).mono ?_
                    rintro e wz ⟨rfl, hbz⟩
                    go_wp2_with fail
                    go_ret
                    exact ⟨rfl, HUP.out _ (HB2.out.trans (hbz.mono HB2.out.size))⟩
                  · go_wp2_with fail
                    refine (HD2.out _ HB1.out).mono ?_
                    rintro e m2 ⟨rfl, hb2⟩
                    have hc2 := HB1.out.trans (hb2.mono HB1.out.size)
                    have HB2 := Lib.hid hc2
                    clear hb2 p0 p1 p2 p3 p4 p5 p6 p7 p8 p9 p10 p11 p12 p13 p14
                    obtain ⟨p0, p1, p2, p3, p4, p5, p6, p7, p8, p9, p10, p11, p12, p13, p14⟩ := HSM.out _ hc2
                    clear hc2
                    go_wp2_with fail
                    refine (HA.out _ (HUP.out _ HB2.out)).mono ?_
                    rintro e wz ⟨rfl, hbz⟩
                    go_wp2_with fail
                    go_ret
                    exact ⟨rfl, HUP.out _ (HB2.out.trans (hbz.mono HB2.out.size))⟩
              | true =>
                have q := HI.out b c _ _ _ HT7.out.bel (HKB.out _ HT7.out.bel) (HKC.out _ HT7.out.bel) hcb hcc
                rw [hX2] at q
                have HQ := Lib.hid q
                clear q
                go_wp2_with fail
                refine (HQ.out).mono ?_
                rintro e w8 ⟨rfl, hb8⟩
                have ht8 := HT7.out.on hb8
                have HT8 := Lib.hid ht8
                clear hb8 p0 p1 p2 p3 p4 p5 p6 p7 p8
                obtain ⟨p0, p1, p2, p3, p4, p5, p6, p7, p8⟩ := HS.out _ ht8
                clear ht8
                clear HQ
                have q := HI.out a c _ _ _ HT8.out.bel (HKA.out _ HT8.out.bel) (HKC.out _ HT8.out.bel) hca hcc
                rw [imp_trans hX1 hX2] at q
                have HQ := Lib.hid q
                clear q
                go_wp2_with fail
                refine (HQ.out).mono ?_
                rintro e w9 ⟨rfl, hb9⟩
                have ht9 := HT8.out.on hb9
                have HT9 := Lib.hid ht9
                clear hb9 p0 p1 p2 p3 p4 p5 p6 p7 p8
                obtain ⟨p0, p1, p2, p3, p4, p5, p6, p7, p8⟩ := HS.out _ ht9
                clear ht9
                clear HQ
                have q := HI.out (.mk 0 0 []) a (.slice none 0 0) _ _ HT9.out.bel (KL.nil _ _ 0 none (Nat.zero_le _)) (HKA.out _ HT9.out.bel) (by simp [Cn.cnt, cntK]) hca
                rw [imp_never za] at q
                have HQ := Lib.hid q
                clear q
                go_wp2_with fail
                refine (HQ.out).mono ?_
                rintro e w10 ⟨rfl, hb10⟩
                have ht10 := HT9.out.on hb10
                have HT10 := Lib.hid ht10
                clear hb10 p0 p1 p2 p3 p4 p5 p6 p7 p8
                obtain ⟨p0, p1, p2, p3, p4, p5, p6, p7, p8⟩ := HS.out _ ht10
                clear ht10
                clear HQ
                have q := HI.out a (.mk 1 0 []) _ (.slice none 0 0) _ HT10.out.bel (HKA.out _ HT10.out.bel) (KL.nil _ _ 0 none (Nat.zero_le _)) hca (by simp [Cn.cnt, cntK])
                rw [imp_always za] at q
                have HQ := Lib.hid q
                clear q
                go_wp2_with fail
                refine (HQ.out).mono ?_
                rintro e w11 ⟨rfl, hb11⟩
                have ht11 := HT10.out.on hb11
                have HT11 := Lib.hid ht11
                clear hb11 p0 p1 p2 p3 p4 p5 p6 p7 p8
                obtain ⟨p0, p1, p2, p3, p4, p5, p6, p7, p8⟩ := HS.out _ ht11
                clear ht11
                clear HQ
                have hz0 : w.heap.size < w11.heap.size := by have := HT11.out.sz; omega
                have hz1 : w.heap.size + 1 < w11.heap.size := by have := HT11.out.sz; omega
                go_wp2_with fail
                have hm := orderW w11 a b A1 c1 A2 c2 (HKA.out _ HT11.out.bel) (HKB.out _ HT11.out.bel) _ rfl
                unfold bx2 at hm
                generalize ((((w11.alloc (Obj.cells #[Value.int IntKind.i64 a.op, Value.int IntKind.i64 a.n, Value.slice A1 a.kids.length c1, Value.int IntKind.i64 b.op, Value.int IntKind.i64 b.n, Value.slice A2 b.kids.length c2] 24)).alloc (Obj.cells #[Value.int IntKind.i64 6, Value.int IntKind.i64 0, Value.slice (some ⟨w11.heap.size, 0, none⟩) 2 2] 24)).alloc (Obj.cells #[Value.int IntKind.i64 a.op, Value.int IntKind.i64 a.n, Value.slice A1 a.kids.length c1, Value.int IntKind.i64 b.op, Value.int IntKind.i64 b.n, Value.slice A2 b.kids.length c2] 24)).alloc (Obj.cells #[Value.int IntKind.i64 7, Value.int IntKind.i64 0, Value.slice (some ⟨w11.heap.size + 1 + 1, 0, none⟩) 2 2] 24)) = M at *
                obtain ⟨hm1, hm2, hm3, hm4, hm5, hm6⟩ := hm
                have hmt := HT11.out.on hm1
                have hlc1 := (chk_len za).1
                have hlc2 := (chk_len zb).1
                have hcb1 : (Cn.mk 6 0 [a, b]).cnt ≤ 400 := by simp only [Cn.cnt, cntK]; omega
                have hcb2 : (Cn.mk 7 0 [a, b]).cnt ≤ 400 := by simp only [Cn.cnt, cntK]; omega
                have HSM : Hid (∀ W, Below M.heap.size M W → W.cell? ⟨w.heap.size, 0, none⟩ = some (.int .i64 a.op) ∧ W.cell? ⟨w.heap.size, 1, none⟩ = some (.int .i64 a.n) ∧ W.cell? ⟨w.heap.size, 2, none⟩ = some (.slice A1 a.kids.length c1) ∧ W.cell? ⟨w.heap.size + 1, 0, none⟩ = some (.int .i64 b.op) ∧ W.cell? ⟨w.heap.size + 1, 1, none⟩ = some (.int .i64 b.n) ∧ W.cell? ⟨w.heap.size + 1, 2, none⟩ = some (.slice A2 b.kids.length c2) ∧ W.cell? ⟨w.heap.size + 1 + 1, 0, none⟩ = some (.int .i64 c.op) ∧ W.cell? ⟨w.heap.size + 1 + 1, 1, none⟩ = some (.int .i64 c.n) ∧ W.cell? ⟨w.heap.size + 1 + 1, 2, none⟩ = some (.slice A3 c.kids.length c3) ∧ W.cell? ⟨w11.heap.size + 1, 0, none⟩ = some (.int .i64 6) ∧ W.cell? ⟨w11.heap.size + 1, 1, none⟩ = some (.int .i64 0) ∧ W.cell? ⟨w11.heap.size + 1, 2, none⟩ = some (.slice (some ⟨w11.heap.size, 0, none⟩) 2 2) ∧ W.cell? ⟨w11.heap.size + 1 + 1 + 1, 0, none⟩ = some (.int .i64 7) ∧ W.cell? ⟨w11.heap.size + 1 + 1 + 1, 1, none⟩ = some (.int .i64 0) ∧ W.cell? ⟨w11.heap.size + 1 + 1 + 1, 2, none⟩ = some (.slice (some ⟨w11.heap.size + 1 + 1, 0, none⟩) 2 2)) := fun W hW => by
                  have h := HS.out W (hmt.on hW)
                  have k1 := (hW.block _ (by omega)).trans hm2
                  have k2 := (hW.block _ (by omega)).trans hm3
                  exact ⟨h.1, h.2.1, h.2.2.1, h.2.2.2.1, h.2.2.2.2.1, h.2.2.2.2.2.1, h.2.2.2.2.2.2.1, h.2.2.2.2.2.2.2.1, h.2.2.2.2.2.2.2.2, cell_of_row _ _ 0 _ _ _ k1, cell_of_row _ _ 1 _ _ _ k1, cell_of_row _ _ 2 _ _ _ k1, cell_of_row _ _ 0 _ _ _ k2, cell_of_row _ _ 1 _ _ _ k2, cell_of_row _ _ 2 _ _ _ k2⟩
                have HUP : Hid (∀ W, Below M.heap.size M W → Below w.heap.size w W) := fun W hW => (hmt.on hW).bel
                have HM1 : Hid (∀ W, Below M.heap.size M W → KL W W.heap.size (.slice (some ⟨w11.heap.size, 0, none⟩) 2 2) [a, b]) := fun W hW => hm4.on hW
                have HM2 : Hid (∀ W, Below M.heap.size M W → KL W W.heap.size (.slice (some ⟨w11.heap.size + 1 + 1, 0, none⟩) 2 2) [a, b]) := fun W hW => hm5.on hW
                have HD1 := Lib.hid fun (W : World) (hW : Below M.heap.size M W) => pchk_any (.mk 6 0 [a, b]) _ W (HM1.out W hW) (HTB.out W (HUP.out W hW)) hcb1
                have HD2 := Lib.hid fun (W : World) (hW : Below M.heap.size M W) => pchk_any (.mk 7 0 [a, b]) _ W (HM2.out W hW) (HTB.out W (HUP.out W hW)) hcb2
                have HB0 := Lib.hid (Below.refl M.heap.size M)
                clear hm1 hm2 hm3 hm4 hm5 hm6 hmt hz0 hz1 p0 p1 p2 p3 p4 p5 p6 p7 p8 hlc1 hlc2
                rcases chk_vals (.mk 6 0 [a, b]) with zx | zx | zx <;> rw [zx] at HD1
                · refine (HD1.out _ HB0.out).mono ?_
                  rintro e m1 ⟨rfl, hb1⟩
                  have hc1 := HB0.out.trans (hb1.mono HB0.out.size)
                  have HB1 := Lib.hid hc1
                  clear hb1
                  obtain ⟨p0, p1, p2, p3, p4, p5, p6, p7, p8, p9, p10, p11, p12, p13, p14⟩ := HSM.out _ hc1
                  clear hc1
                  have q := HI.out (.mk 6 0 [a, b]) a _ _ _ (HUP.out _ HB1.out) (HM1.out _ HB1.out) (HKA.out _ (HUP.out _ HB1.out)) hcb1 hca
                  rw [imp_both1 za zx] at q
                  have HQ := Lib.hid q
                  clear q
                  go_wp2_with fail
                  refine (HQ.out).mono ?_
                  rintro e m2 ⟨rfl, hb2⟩
                  have hc2 := HB1.out.trans (hb2.mono HB1.out.size)
                  have HB2 := Lib.hid hc2
                  clear hb2 p0 p1 p2 p3 p4 p5 p6 p7 p8 p9 p10 p11 p12 p13 p14
                  obtain ⟨p0, p1, p2, p3, p4, p5, p6, p7, p8, p9, p10, p11, p12, p13, p14⟩ := HSM.out _ hc2
                  clear hc2
                  clear HQ
                  have q := HI.out (.mk 6 0 [a, b]) b _ _ _ (HUP.out _ HB2.out) (HM1.out _ HB2.out) (HKB.out _ (HUP.out _ HB2.out)) hcb1 hcb
                  rw [imp_both2 zb zx] at q
                  have HQ := Lib.hid q
                  clear q
                  go_wp2_with fail
                  refine (HQ.out).mono ?_
                  rintro e m3 ⟨rfl, hb3⟩
                  have hc3 := HB2.out.trans (hb3.mono HB2.out.size)
                  have HB3 := Lib.hid hc3
                  clear hb3 p0 p1 p2 p3 p4 p5 p6 p7 p8 p9 p10 p11 p12 p13 p14
                  obtain ⟨p0, p1, p2, p3, p4, p5, p6, p7, p8, p9, p10, p11, p12, p13, p14⟩ := HSM.out _ hc3
                  clear hc3
                  clear HQ
                  rcases chk_vals (.mk 7 0 [a, b]) with zy | zy | zy <;> rw [zy] at HD2
                  · go_wp2_with fail
                    refine (HD2.out _ HB3.out).mono ?_
                    rintro e m4 ⟨rfl, hb4⟩
                    have hc4 := HB3.out.trans (hb4.mono HB3.out.size)
                    have HB4 := Lib.hid hc4
                    clear hb4 p0 p1 p2 p3 p4 p5 p6 p7 p8 p9 p10 p11 p12 p13 p14
                    obtain ⟨p0, p1, p2, p3, p4, p5, p6, p7, p8, p9, p10, p11, p12, p13, p14⟩ := HSM.out _ hc4
                    clear hc4
                    have q := HI.out a (.mk 7 0 [a, b]) _ _ _ (HUP.out _ HB4.out) (HKA.out _ (HUP.out _ HB4.out)) (HM2.out _ HB4.out) hca hcb2
                    rw [imp_one1 za zy] at q
                    have HQ := Lib.hid q
                    clear q
                    go_wp2_with fail
                    refine (HQ.out).mono ?_
                    rintro e m5 ⟨rfl, hb5⟩
                    have hc5 := HB4.out.trans (hb5.mono HB4.out.size)
                    have HB5 := Lib.hid hc5
                    clear hb5 p0 p1 p2 p3 p4 p5 p6 p7 p8 p9 p10 p11 p12 p13 p14
                    obtain ⟨p0, p1, p2, p3, p4, p5, p6, p7, p8, p9, p10, p11, p12, p13, p14⟩ := HSM.out _ hc5
                    clear hc5
                    clear HQ
                    have q := HI.out b (.mk 7 0 [a, b]) _ _ _ (HUP.out _ HB5.out) (HKB.out _ (HUP.out _ HB5.out)) (HM2.out _ HB5.out) hcb hcb2
                    rw [imp_one2 zb zy] at q
                    have HQ := Lib.hid q
                    clear q
                    go_wp2_with fail
                    refine (HQ.out).mono ?_
                    rintro e m6 ⟨rfl, hb6⟩
                    have hc6 := HB5.out.trans (hb6.mono HB5.out.size)
                    have HB6 := Lib.hid hc6
                    clear hb6 p0 p1 p2 p3 p4 p5 p6 p7 p8 p9 p10 p11 p12 p13 p14
                    obtain ⟨p0, p1, p2, p3, p4, p5, p6, p7, p8, p9, p10, p11, p12, p13, p14⟩ := HSM.out _ hc6
                    clear hc6
                    clear HQ
                    go_wp2_with fail
                    refine (HA.out _ (HUP.out _ HB6.out)).mono ?_
                    rintro e wz ⟨rfl, hbz⟩
                    go_wp2_with fail
                    go_ret
                    exact ⟨rfl, HUP.out _ (HB6.out.trans (hbz.mono HB6.out.size))⟩
                  · go_wp2_with fail
                    refine (HD2.out _ HB3.out).mono ?_
                    rintro e m4 ⟨rfl, hb4⟩
                    have hc4 := HB3.out.trans (hb4.mono HB3.out.size)
                    have HB4 := Lib.hid hc4
                    clear hb4 p0 p1 p2 p3 p4 p5 p6 p7 p8 p9 p10 p11 p12 p13 p14
                    obtain ⟨p0, p1, p2, p3, p4, p5, p6, p7, p8, p9, p10, p11, p12, p13, p14⟩ := HSM.out _ hc4
                    clear hc4
                    go_wp2_with fail
                    refine (HA.out _ (HUP.out _ HB4.out)).mono ?_
                    rintro e wz ⟨rfl, hbz⟩
                    go_wp2_with fail
                    go_ret
                    exact ⟨rfl, HUP.out _ (HB4.out.trans (hbz.mono HB4.out.size))⟩
                  · go_wp2_with fail
                    refine (HD2.out _ HB3.out).mono ?_
                    rintro e m4 ⟨rfl, hb4⟩
                    have hc4 := HB3.out.trans (hb4.mono HB3.out.size)
                    have HB4 := Lib.hid hc4
                    clear hb4 p0 p1 p2 p3 p4 p5 p6 p7 p8 p9 p10 p11 p12 p13 p14
                    obtain ⟨p0, p1, p2, p3, p4, p5, p6, p7, p8, p9, p10, p11, p12, p13, p14⟩ := HSM.out _ hc4
                    clear hc4
                    go_wp2_with fail
                    refine (HA.out _ (HUP.out _ HB4.out)).mono ?_
                    rintro e wz ⟨rfl, hbz⟩
                    go_wp2_with fail
                    go_ret
                    exact ⟨rfl, HUP.out _ (HB4.out.trans (hbz.mono HB4.out.size))⟩
                · refine (HD1.out _ HB0.out).mono ?_
                  rintro e m1 ⟨rfl, hb1⟩
                  have hc1 := HB0.out.trans (hb1.mono HB0.out.size)
                  have HB1 := Lib.hid hc1
                  clear hb1
                  obtain ⟨p0, p1, p2, p3, p4, p5, p6, p7, p8, p9, p10, p11, p12, p13, p14⟩ := HSM.out _ hc1
                  clear hc1
                  rcases chk_vals (.mk 7 0 [a, b]) with zy | zy | zy <;> rw [zy] at HD2
                  · go_wp2_with fail
                    refine (HD2.out _ HB1.out).mono ?_
                    rintro e m2 ⟨rfl, hb2⟩
                    have hc2 := HB1.out.trans (hb2.mono HB1.out.size)
                    have HB2 := Lib.hid hc2
                    clear hb2 p0 p1 p2 p3 p4 p5 p6 p7 p8 p9 p10 p11 p12 p13 p14
                    obtain ⟨p0, p1, p2, p3, p4, p5, p6, p7, p8, p9, p10, p11, p12, p13, p14⟩ := HSM.out _ hc2
                    clear hc2
                    have q := HI.out a (.mk 7 0 [a, b]) _ _ _ (HUP.out _ HB2.out) (HKA.out _ (HUP.out _ HB2.out)) (HM2.out _ HB2.out) hca hcb2
                    rw [imp_one1 za zy] at q
                    have HQ := Lib.hid q
                    clear q
                    go_wp2_with fail
                    refine (HQ.out).mono ?_
                    rintro e m3 ⟨rfl, hb3⟩
                    have hc3 := HB2.out.trans (hb3.mono HB2.out.size)
                    have HB3 := Lib.hid hc3
                    clear hb3 p0 p1 p2 p3 p4 p5 p6 p7 p8 p9 p10 p11 p12 p13 p14
                    obtain ⟨p0, p1, p2, p3, p4, p5, p6, p7, p8, p9, p10, p11, p12, p13, p14⟩ := HSM.out _ hc3
                    clear hc3
                    clear HQ
                    have q := HI.out b (.mk 7 0 [a, b]) _ _ _ (HUP.out _ HB3.out) (HKB.out _ (HUP.out _ HB3.out)) (HM2.out _ HB3.out) hcb hcb2
                    rw [imp_one2 zb zy] at q
                    have HQ := Lib.hid q
                    clear q
                    go_wp2_with fail
                    refine (HQ.out).mono ?_
                    rintro e m4 ⟨rfl, hb4⟩
                    have hc4 := HB3.out.trans (hb4.mono HB3.out.size)
                    have HB4 := Lib.hid hc4
                    clear hb4 p0 p1 p2 p3 p4 p5 p6 p7 p8 p9 p10 p11 p12 p13 p14
                    obtain ⟨p0, p1, p2, p3, p4, p5, p6, p7, p8, p9, p10, p11, p12, p13, p14⟩ := HSM.out _ hc4
                    clear hc4
                    clear HQ
                    go_wp2_with fail
                    refine (HA.out _ (HUP.out _ HB4.out)).mono ?_
                    rintro e wz ⟨rfl, hbz⟩
                    go_wp2_with fail
                    go_ret
                    exact ⟨rfl, HUP.out _ (HB4.out.trans (hbz.mono HB4.out.size))⟩
                  · go_wp2_with fail
                    refine (HD2.out _ HB1.out).mono ?_
                    rintro e m2 ⟨rfl, hb2⟩
                    have hc2 := HB1.out.trans (hb2.mono HB1.out.size)
                    have HB2 := Lib.hid hc2
                    clear hb2 p0 p1 p2 p3 p4 p5 p6 p7 p8 p9 p10 p11 p12 p13 p14
                    obtain ⟨p0, p1, p2, p3, p4, p5, p6, p7, p8, p9, p10, p11, p12, p13, p14⟩ := HSM.out _ hc2
                    clear hc2
                    go_wp2_with fail
                    refine (HA.out _ (HUP.out _ HB2.out)).mono ?_
                    rintro e wz ⟨rfl, hbz⟩
                    go_wp2_with fail
                    go_ret
                    exact ⟨rfl, HUP.out _ (HB2.out.trans (hbz.mono HB2.out.size))⟩
                  · go_wp2_with fail
                    refine (HD2.out _ HB1.out).mono ?_
                    rintro e m2 ⟨rfl, hb2⟩
                    have hc2 := HB1.out.trans (hb2.mono HB1.out.size)
                    have HB2 := Lib.hid hc2
                    clear hb2 p0 p1 p2 p3 p4 p5 p6 p7 p8 p9 p10 p11 p12 p13 p14
                    obtain ⟨p0, p1, p2, p3, p4, p5, p6, p7, p8, p9, p10, p11, p12, p13, p14⟩ := HSM.out _ hc2
                    clear hc2
                    go_wp2_with fail
                    refine (HA.out _ (HUP.out _ HB2.out)).mono ?_
                    rintro e wz ⟨rfl, hbz⟩
                    go_wp2_with fail
                    go_ret
                    exact ⟨rfl, HUP.out _ (HB2.out.trans (hbz.mono HB2.out.size))⟩
                · refine (HD1.out _ HB0.out).mono ?_
                  rintro e m1 ⟨rfl, hb1⟩
                  have hc1 := HB0.out.trans (hb1.mono HB0.out.size)
                  have HB1 := Lib.hid hc1
                  clear hb1
                  obtain ⟨p0, p1, p2, p3, p4, p5, p6, p7, p8, p9, p10, p11, p12, p13, p14⟩ := HSM.out _ hc1
                  clear hc1
                  rcases chk_vals (.mk 7 0 [a, b]) with zy | zy | zy <;> rw [zy] at HD2
                  · go_wp2_with fail
                    refine (HD2.out _ HB1.out).mono ?_
                    rintro e m2 ⟨rfl, hb2⟩
                    have hc2 := HB1.out.trans (hb2.mono HB1.out.size)
                    have HB2 := Lib.hid hc2
                    clear hb2 p0 p1 p2 p3 p4 p5 p6 p7 p8 p9 p10 p11 p12 p13 p14
                    obtain ⟨p0, p1, p2, p3, p4, p5, p6, p7, p8, p9, p10, p11, p12, p13, p14⟩ := HSM.out _ hc2
                    clear hc2
                    have q := HI.out a (.mk 7 0 [a, b]) _ _ _ (HUP.out _ HB2.out) (HKA.out _ (HUP.out _ HB2.out)) (HM2.out _ HB2.out) hca hcb2
                    rw [imp_one1 za zy] at q
                    have HQ := Lib.hid q
                    clear q
                    go_wp2_with fail
                    refine (HQ.out).mono ?_
                    rintro e m3 ⟨rfl, hb3⟩
                    have hc3 := HB2.out.trans (hb3.mono HB2.out.size)
                    have HB3 := Lib.hid hc3
                    clear hb3 p0 p1 p2 p3 p4 p5 p6 p7 p8 p9 p10 p11 p12 p13 p14
                    obtain ⟨p0, p1, p2, p3, p4, p5, p6, p7, p8, p9, p10, p11, p12, p13, p14⟩ := HSM.out _ hc3
                    clear hc3
                    clear HQ
                    have q := HI.out b (.mk 7 0 [a, b]) _ _ _ (HUP.out _ HB3.out) (HKB.out _ (HUP.out _ HB3.out)) (HM2.out _ HB3.out) hcb hcb2
                    rw [imp_one2 zb zy] at q
                    have HQ := Lib.hid q
                    clear q
                    go_wp2_with fail
                    refine (HQ.out).mono ?_
                    rintro e m4 ⟨rfl, hb4⟩
                    have hc4 := HB3.out.trans (hb4.mono HB3.out.size)
                    have HB4 := Lib.hid hc4
                    clear hb4 p0 p1 p2 p3 p4 p5 p6 p7 p8 p9 p10 p11 p12 p13 p14
                    obtain ⟨p0, p1, p2, p3, p4, p5, p6, p7, p8, p9, p10, p11, p12, p13, p14⟩ := HSM.out _ hc4
                    clear hc4
                    clear HQ
                    go_wp2_with fail
                    refine (HA.out _ (HUP.out _ HB4.out)).mono ?_
                    rintro e wz ⟨rfl, hbz⟩
                    go_wp2_with fail
                    go_ret
                    exact ⟨rfl, HUP.out _ (HB4.out.trans (hbz.mono HB4.out.size))⟩
                  · go_wp2_with fail
                    refine (HD2.out _ HB1.out).mono ?_
                    rintro e m2 ⟨rfl, hb2⟩
                    have hc2 := HB1.out.trans (hb2.mono HB1.out.size)
                    have HB2 := Lib.hid hc2
                    clear hb2 p0 p1 p2 p3 p4 p5 p6 p7 p8 p9 p10 p11 p12 p13 p14
                    obtain ⟨p0, p1, p2, p3, p4, p5, p6, p7, p8, p9, p10, p11, p12, p13, p14⟩ := HSM.out _ hc2
                    clear hc2
                    go_wp2_with fail
                    refine (HA.out _ (HUP.out _ HB2.out)).mono ?_
                    rintro e wz ⟨rfl, hbz⟩
                    go_wp2_with fail
                    go_ret
                    exact ⟨rfl, HUP.out _ (HB2.out.trans (hbz.mono HB2.out.size))⟩
                  · go_wp2_with fail
                    refine (HD2.out _ HB1.out).mono ?_
                    rintro e m2 ⟨rfl, hb2⟩
                    have hc2 := HB1.out.trans (hb2.mono HB1.out.size)
                    have HB2 := Lib.hid hc2
                    clear hb2 p0 p1 p2 p3 p4 p5 p6 p7 p8 p9 p10 p11 p12 p13 p14
                    obtain ⟨p0, p1, p2, p3, p4, p5, p6, p7, p8, p9, p10, p11, p12, p13, p14⟩ := HSM.out _ hc2
                    clear hc2
                    go_wp2_with fail
                    refine (HA.out _ (HUP.out _ HB2.out)).mono ?_
                    rintro e wz ⟨rfl, hbz⟩
                    go_wp2_with fail
                    go_ret
                    exact ⟨rfl, HUP.out _ (HB2.out.trans (hbz.mono HB2.out.size))⟩
          · go_wp2_with fail
            refine (HC3.out _ HT4.out.bel hcc).mono ?_
            rintro e w5 ⟨rfl, hb5⟩
            have ht5 := HT4.out.on hb5
            have HT5 := Lib.hid ht5
            clear hb5 p0 p1 p2 p3 p4 p5 p6 p7 p8
            obtain ⟨p0, p1, p2, p3, p4, p5, p6, p7, p8⟩ := HS.out _ ht5
            clear ht5
            go_wp2_with fail
            refine (HA.out _ HT5.out.bel).mono ?_
            rintro e wz ⟨rfl, hbz⟩
            go_wp2_with fail
            go_ret
            exact ⟨rfl, (HT5.out.on hbz).bel⟩
          · go_wp2_with fail
            refine (HC3.out _ HT4.out.bel hcc).mono ?_
            rintro e w5 ⟨rfl, hb5⟩
            have ht5 := HT4.out.on hb5
            have HT5 := Lib.hid ht5
            clear hb5 p0 p1 p2 p3 p4 p5 p6 p7 p8
            obtain ⟨p0, p1, p2, p3, p4, p5, p6, p7, p8⟩ := HS.out _ ht5
            clear ht5
            go_wp2_with fail
            refine (HA.out _ HT5.out.bel).mono ?_
            rintro e wz ⟨rfl, hbz⟩
            go_wp2_with fail
            go_ret
            exact ⟨rfl, (HT5.out.on hbz).bel⟩
        · go_wp2_with fail
          refine (HC2.out _ HT3.out.bel hcb).mono ?_
          rintro e w4 ⟨rfl, hb4⟩
          have ht4 := HT3.out.on hb4
          have HT4 := Lib.hid ht4
          clear hb4 p0 p1 p2 p3 p4 p5 p6 p7 p8
          obtain ⟨p0, p1, p2, p3, p4, p5, p6, p7, p8⟩ := HS.out _ ht4
          clear ht4
          go_wp2_with fail
          refine (HA.out _ HT4.out.bel).mono ?_
          rintro e wz ⟨rfl, hbz⟩
          go_wp2_with fail
          go_ret
          exact ⟨rfl, (HT4.out.on hbz).bel⟩
        · go_wp2_with fail
          refine (HC2.out _ HT3.out.bel hcb).mono ?_
          rintro e w4 ⟨rfl, hb4⟩
          have ht4 := HT3.out.on hb4
          have HT4 := Lib.hid ht4
          clear hb4 p0 p1 p2 p3 p4 p5 p6 p7 p8
          obtain ⟨p0, p1, p2, p3, p4, p5, p6, p7, p8⟩ := HS.out _ ht4
          clear ht4
          go_wp2_with fail
          refine (HA.out _ HT4.out.bel).mono ?_
          rintro e wz ⟨rfl, hbz⟩
          go_wp2_with fail
          go_ret
          exact ⟨rfl, (HT4.out.on hbz).bel⟩
      · go_wp2_with fail
        refine (HC1.out _ HT2.out.bel hca).mono ?_
        rintro e w3 ⟨rfl, hb3⟩
        have ht3 := HT2.out.on hb3
        have HT3 := Lib.hid ht3
        clear hb3 p0 p1 p2 p3 p4 p5 p6 p7 p8
        obtain ⟨p0, p1, p2, p3, p4, p5, p6, p7, p8⟩ := HS.out _ ht3
        clear ht3
        go_wp2_with fail
        refine (HA.out _ HT3.out.bel).mono ?_
        rintro e wz ⟨rfl, hbz⟩
        go_wp2_with fail
        go_ret
        exact ⟨rfl, (HT3.out.on hbz).bel⟩
      · go_wp2_with fail
        refine (HC1.out _ HT2.out.bel hca).mono ?_
        rintro e w3 ⟨rfl, hb3⟩
        have ht3 := HT2.out.on hb3
        have HT3 := Lib.hid ht3
        clear hb3 p0 p1 p2 p3 p4 p5 p6 p7 p8
        obtain ⟨p0, p1, p2, p3, p4, p5, p6, p7, p8⟩ := HS.out _ ht3
        clear ht3
        go_wp2_with fail
        refine (HA.out _ HT3.out.bel).mono ?_
        rintro e wz ⟨rfl, hbz⟩
        go_wp2_with fail
        go_ret
        exact ⟨rfl, (HT3.out.on hbz).bel⟩
end Go.Proofs.YtjkbfogjfgnhiaaDoor
